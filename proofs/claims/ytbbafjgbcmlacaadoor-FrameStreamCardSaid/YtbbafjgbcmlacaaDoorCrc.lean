/- The sum of layer 3, plain numbers: a change within four bytes is seen. No program in sight. -/
import Derived.WalkKit
namespace Go.Proofs.YtbbafjgbcmlacaaDoor
set_option linter.unusedVariables false

/-- the polynomial, 0x82F63B78 -/
def poly : Nat := 2197175160
theorem poly_lt : poly < 2 ^ 32 := by decide
theorem poly_top : poly / 2 ^ 31 = 1 := by decide
/-- one bit of the message: the bit that goes out is (r + b) % 2 -/
def step (r b : Nat) : Nat := if (r + b) % 2 = 1 then (r / 2) ^^^ poly else r / 2
theorem xor_cancel {a b c : Nat} (h : a ^^^ c = b ^^^ c) : a = b := by
  have := congrArg (· ^^^ c) h
  simpa [Nat.xor_assoc] using this
theorem half_lt {r : Nat} (h : r < 2 ^ 32) : r / 2 < 2 ^ 31 := by omega
theorem step_lt {r b : Nat} (h : r < 2 ^ 32) : step r b < 2 ^ 32 := by
  unfold step; split
  · exact Nat.xor_lt_two_pow (by omega) poly_lt
  · omega
theorem step_top {r b : Nat} (h : r < 2 ^ 32) : step r b / 2 ^ 31 = (r + b) % 2 := by
  have h0 : r / 2 / 2 ^ 31 = 0 := Nat.div_eq_of_lt (half_lt h)
  unfold step; split
  · rename_i e
    rw [Nat.xor_div_two_pow, h0, poly_top, e]; decide
  · rename_i e
    rw [h0]; omega
theorem step_back {r r' b b' j : Nat} (h : r < 2 ^ 32) (h' : r' < 2 ^ 32) (hj : j ≤ 31) (he : step r b / 2 ^ j = step r' b' / 2 ^ j) : (r + b) % 2 = (r' + b') % 2 ∧ r / 2 ^ (j + 1) = r' / 2 ^ (j + 1) := by
  have hout : (r + b) % 2 = (r' + b') % 2 := by
    rw [← step_top h, ← step_top h']
    have hp : (2 : Nat) ^ 31 = 2 ^ j * 2 ^ (31 - j) := by rw [← Nat.pow_add]; congr 1; omega
    rw [hp, ← Nat.div_div_eq_div_mul, ← Nat.div_div_eq_div_mul, he]
  refine ⟨hout, ?_⟩
  have hd : ∀ x : Nat, x / 2 ^ (j + 1) = x / 2 / 2 ^ j := fun x => by rw [Nat.div_div_eq_div_mul, Nat.pow_succ, Nat.mul_comm]
  rw [hd, hd]
  unfold step at he
  by_cases e : (r + b) % 2 = 1
  · rw [if_pos e, if_pos (hout ▸ e), Nat.xor_div_two_pow, Nat.xor_div_two_pow] at he
    exact xor_cancel he
  · rw [if_neg e, if_neg (hout ▸ e)] at he
    exact he
theorem step_inj {r r' b : Nat} (h : r < 2 ^ 32) (h' : r' < 2 ^ 32) (he : step r b = step r' b) : r = r' := by
  have := step_back (b := b) (b' := b) (j := 0) h h' (by omega) (by rw [he])
  simp only [Nat.zero_add, Nat.pow_one] at this
  omega

/-- the state behind a list of bits -/
def bitsTo (r : Nat) (l : List Nat) : Nat := l.foldl step r
/-- the bits that go out -/
def outs : Nat → List Nat → List Nat
  | _, [] => []
  | r, b :: l => (r + b) % 2 :: outs (step r b) l
theorem bitsTo_lt {l : List Nat} : ∀ {r : Nat}, r < 2 ^ 32 → bitsTo r l < 2 ^ 32 := by
  induction l with
  | nil => intro r h; exact h
  | cons b l ih => intro r h; exact ih (step_lt h)
theorem bits_back : ∀ (l l' : List Nat) (r r' j : Nat), l.length = l'.length → r < 2 ^ 32 → r' < 2 ^ 32 → l.length + j ≤ 32 → bitsTo r l / 2 ^ j = bitsTo r' l' / 2 ^ j → outs r l = outs r' l' ∧ r / 2 ^ (j + l.length) = r' / 2 ^ (j + l.length)
  | [], [], r, r', j, _, _, _, _, he => ⟨rfl, he⟩
  | [], _ :: _, _, _, _, hl, _, _, _, _ => by simp at hl
  | _ :: _, [], _, _, _, hl, _, _, _, _ => by simp at hl
  | b :: l, b' :: l', r, r', j, hl, h, h', hj, he => by
    simp only [List.length_cons] at hl hj ⊢
    obtain ⟨e1, e2⟩ := bits_back l l' (step r b) (step r' b') j (by omega) (step_lt h) (step_lt h') (by omega) he
    obtain ⟨e3, e4⟩ := step_back h h' (by omega) e2
    refine ⟨?_, by rw [show j + (l.length + 1) = j + l.length + 1 by omega]; exact e4⟩
    unfold outs
    rw [e3, e1]
theorem outs_inj : ∀ (l l' : List Nat) (r : Nat), (∀ b ∈ l, b < 2) → (∀ b ∈ l', b < 2) → outs r l = outs r l' → l = l'
  | [], [], _, _, _, _ => rfl
  | [], _ :: _, _, _, _, h => by simp [outs] at h
  | _ :: _, [], _, _, _, h => by simp [outs] at h
  | b :: l, b' :: l', r, hb, hb', h => by
    simp only [outs, List.cons.injEq] at h
    have h1 := hb b (List.mem_cons_self ..)
    have h2 := hb' b' (List.mem_cons_self ..)
    obtain rfl : b = b' := by omega
    rw [outs_inj l l' (step r b) (fun x hx => hb x (List.mem_cons_of_mem _ hx)) (fun x hx => hb' x (List.mem_cons_of_mem _ hx)) h.2]
/-- up to 32 bits, from one state: told apart -/
theorem bits_inj {l l' : List Nat} {r : Nat} (h : r < 2 ^ 32) (hl : l.length = l'.length) (h32 : l.length ≤ 32) (hb : ∀ b ∈ l, b < 2) (hb' : ∀ b ∈ l', b < 2) (he : bitsTo r l = bitsTo r l') : l = l' :=
  outs_inj l l' r hb hb' (bits_back l l' r r 0 hl h h (by omega) (by rw [he])).1
theorem bitsTo_inj {l : List Nat} : ∀ {r r' : Nat}, r < 2 ^ 32 → r' < 2 ^ 32 → bitsTo r l = bitsTo r' l → r = r' := by
  induction l with
  | nil => intro r r' _ _ h; exact h
  | cons b l ih => intro r r' h h' he; exact step_inj h h' (ih (step_lt h) (step_lt h') he)

/-- a byte's bits, the lowest first -/
def bits8 (c : Nat) : List Nat := [c % 2, c / 2 % 2, c / 4 % 2, c / 8 % 2, c / 16 % 2, c / 32 % 2, c / 64 % 2, c / 128 % 2]
theorem bits8_inj {c d : Nat} (hc : c < 256) (hd : d < 256) (h : bits8 c = bits8 d) : c = d := by
  simp only [bits8, List.cons.injEq, and_true] at h
  omega
/-- the state behind a byte, and behind bytes -/
def byteTo (r c : Nat) : Nat := bitsTo r (bits8 c)
def bytesTo (r : Nat) (l : List Nat) : Nat := l.foldl byteTo r
theorem bytesTo_bits (l : List Nat) : ∀ r, bytesTo r l = bitsTo r (l.flatMap bits8) := by
  induction l with
  | nil => intro r; rfl
  | cons c l ih =>
    intro r
    rw [List.flatMap_cons]
    show bytesTo (byteTo r c) l = _
    rw [ih]
    simp [bitsTo, byteTo, List.foldl_append]
theorem bytesTo_append (r : Nat) (l m : List Nat) : bytesTo r (l ++ m) = bytesTo (bytesTo r l) m := by simp [bytesTo, List.foldl_append]
theorem bytesTo_lt {r : Nat} (l : List Nat) (h : r < 2 ^ 32) : bytesTo r l < 2 ^ 32 := by rw [bytesTo_bits]; exact bitsTo_lt h
theorem flat_length (l : List Nat) : (l.flatMap bits8).length = 8 * l.length := by
  induction l with
  | nil => rfl
  | cons c l ih => rw [List.flatMap_cons, List.length_append, ih]; simp [bits8]; omega
theorem flat_bit (l : List Nat) : ∀ b ∈ l.flatMap bits8, b < 2 := by
  intro b hb
  rw [List.mem_flatMap] at hb
  obtain ⟨c, _, h⟩ := hb
  simp only [bits8, List.mem_cons, List.not_mem_nil, or_false] at h
  omega
theorem flat_inj : ∀ (l l' : List Nat), (∀ c ∈ l, c < 256) → (∀ c ∈ l', c < 256) → l.length = l'.length → l.flatMap bits8 = l'.flatMap bits8 → l = l'
  | [], [], _, _, _, _ => rfl
  | [], _ :: _, _, _, h, _ => by simp at h
  | _ :: _, [], _, _, h, _ => by simp at h
  | c :: l, d :: l', hc, hd, hl, h => by
    rw [List.flatMap_cons, List.flatMap_cons] at h
    obtain ⟨h1, h2⟩ := List.append_inj h (by simp [bits8])
    rw [bits8_inj (hc c (List.mem_cons_self ..)) (hd d (List.mem_cons_self ..)) h1, flat_inj l l' (fun x hx => hc x (List.mem_cons_of_mem _ hx)) (fun x hx => hd x (List.mem_cons_of_mem _ hx)) (by simpa using hl) h2]
/-- A CHANGE WITHIN FOUR BYTES IS SEEN -/
theorem burst {r : Nat} (h : r < 2 ^ 32) (A X Y B : List Nat) (hl : X.length = Y.length) (h4 : X.length ≤ 4) (hX : ∀ c ∈ X, c < 256) (hY : ∀ c ∈ Y, c < 256) (he : bytesTo r (A ++ X ++ B) = bytesTo r (A ++ Y ++ B)) : X = Y := by
  rw [bytesTo_append, bytesTo_append, bytesTo_append _ (A ++ Y), bytesTo_append _ A Y, bytesTo_bits B, bytesTo_bits B] at he
  have hA := bytesTo_lt A h
  have h1 := bitsTo_inj (bytesTo_lt X hA) (bytesTo_lt Y hA) he
  rw [bytesTo_bits X, bytesTo_bits Y] at h1
  exact flat_inj X Y hX hY hl (bits_inj hA (by rw [flat_length, flat_length, hl]) (by rw [flat_length]; omega) (flat_bit X) (flat_bit Y) h1)
theorem bytesTo_inj {l : List Nat} {r r' : Nat} (h : r < 2 ^ 32) (h' : r' < 2 ^ 32) (he : bytesTo r l = bytesTo r' l) : r = r' := by
  rw [bytesTo_bits, bytesTo_bits] at he
  exact bitsTo_inj h h' he

/-- the sum of bytes behind a sum -/
def sumOf (s : Nat) (l : List Nat) : Nat := 4294967295 - bytesTo (4294967295 - s) l
theorem sumOf_lt (s : Nat) (l : List Nat) : sumOf s l < 2 ^ 32 := by unfold sumOf; omega
theorem sumOf_append {s : Nat} (hs : s < 2 ^ 32) (l m : List Nat) : sumOf (sumOf s l) m = sumOf s (l ++ m) := by
  have h := bytesTo_lt (r := 4294967295 - s) l (by omega)
  unfold sumOf
  rw [bytesTo_append]
  congr 2
  omega
theorem sum_burst {s : Nat} (A X Y B : List Nat) (hl : X.length = Y.length) (h4 : X.length ≤ 4) (hX : ∀ c ∈ X, c < 256) (hY : ∀ c ∈ Y, c < 256) (he : sumOf s (A ++ X ++ B) = sumOf s (A ++ Y ++ B)) : X = Y := by
  have h1 := bytesTo_lt (r := 4294967295 - s) (A ++ X ++ B) (by omega)
  have h2 := bytesTo_lt (r := 4294967295 - s) (A ++ Y ++ B) (by omega)
  unfold sumOf at he
  exact burst (r := 4294967295 - s) (by omega) A X Y B hl h4 hX hY (by omega)

/-! ### Other ways to reckon it: the byte laid in at once; a table -/
/-- one bit out, nothing in -/
def shift (q : Nat) : Nat := if q % 2 = 1 then (q / 2) ^^^ poly else q / 2
theorem xor_mod2 (a b : Nat) : (a ^^^ b) % 2 = (a + b) % 2 := by
  have h := Nat.xor_mod_two_pow (a := a) (b := b) (n := 1)
  simp only [Nat.pow_one] at h
  rw [h]
  have ha : a % 2 = 0 ∨ a % 2 = 1 := by omega
  have hb : b % 2 = 0 ∨ b % 2 = 1 := by omega
  rcases ha with ha | ha <;> rcases hb with hb | hb <;> rw [ha, hb]
  · have : (a + b) % 2 = 0 := by omega
    rw [this]; decide
  · have : (a + b) % 2 = 1 := by omega
    rw [this]; decide
  · have : (a + b) % 2 = 1 := by omega
    rw [this]; decide
  · have : (a + b) % 2 = 0 := by omega
    rw [this]; decide
theorem shift_xor (r c : Nat) : shift (r ^^^ c) = step r (c % 2) ^^^ (c / 2) := by
  unfold shift step
  rw [xor_mod2, Nat.xor_div_two]
  by_cases e : (r + c) % 2 = 1
  · rw [if_pos e, if_pos (by omega), Nat.xor_assoc, Nat.xor_comm (c / 2), ← Nat.xor_assoc]
  · rw [if_neg e, if_neg (by omega)]
/-- k bits out -/
def shifts : Nat → Nat → Nat
  | 0, q => q
  | k + 1, q => shifts k (shift q)
theorem shifts_succ : ∀ k q, shifts (k + 1) q = shift (shifts k q)
  | 0, q => rfl
  | k + 1, q => shifts_succ k (shift q)
theorem shifts_byte (r c : Nat) (hc : c < 256) : shifts 8 (r ^^^ c) = byteTo r c := by
  have h8 : c / 2 / 2 / 2 / 2 / 2 / 2 / 2 / 2 = 0 := by omega
  simp only [shifts]
  rw [shift_xor, shift_xor, shift_xor, shift_xor, shift_xor, shift_xor, shift_xor, shift_xor, h8, Nat.xor_zero]
  simp only [byteTo, bitsTo, bits8, List.foldl_cons, List.foldl_nil]
  rw [show c / 2 / 2 % 2 = c / 4 % 2 by omega, show c / 2 / 2 / 2 % 2 = c / 8 % 2 by omega, show c / 2 / 2 / 2 / 2 % 2 = c / 16 % 2 by omega, show c / 2 / 2 / 2 / 2 / 2 % 2 = c / 32 % 2 by omega,
    show c / 2 / 2 / 2 / 2 / 2 / 2 % 2 = c / 64 % 2 by omega, show c / 2 / 2 / 2 / 2 / 2 / 2 / 2 % 2 = c / 128 % 2 by omega]
theorem shift_even (x y : Nat) : shift (x ^^^ (2 * y)) = shift x ^^^ y := by
  unfold shift
  rw [xor_mod2, Nat.xor_div_two, show 2 * y / 2 = y by omega]
  by_cases e : x % 2 = 1
  · rw [if_pos e, if_pos (by omega), Nat.xor_assoc, Nat.xor_comm y, ← Nat.xor_assoc]
  · rw [if_neg e, if_neg (by omega)]
theorem shifts_high : ∀ (k x y : Nat), shifts k (x ^^^ (2 ^ k * y)) = shifts k x ^^^ y
  | 0, x, y => by simp [shifts]
  | k + 1, x, y => by
    rw [shifts, shifts, show 2 ^ (k + 1) * y = 2 * (2 ^ k * y) by rw [Nat.pow_succ]; rw [Nat.mul_comm (2 ^ k) 2, Nat.mul_assoc], shift_even, shifts_high k]
/-- by a table: t (q % 256) ^ (q / 256) -/
theorem shifts_table (q : Nat) : shifts 8 q = shifts 8 (q % 256) ^^^ (q / 256) := by
  have h := shifts_high 8 (q % 256) (q / 256)
  rw [← h]
  congr 1
  have e : q = 2 ^ 8 * (q / 256) + q % 256 := by omega
  have hx : q % 256 ^^^ 2 ^ 8 * (q / 256) = 2 ^ 8 * (q / 256) + q % 256 := by
    have hb : q % 256 < 2 ^ 8 := by omega
    apply Nat.eq_of_testBit_eq
    intro j
    rw [Nat.testBit_xor, Nat.testBit_two_pow_mul_add _ hb, Nat.testBit_two_pow_mul]
    by_cases hj : j < 8
    · rw [if_pos hj]; simp [show ¬ j ≥ 8 by omega]
    · have h0 : (q % 256).testBit j = false := Nat.testBit_lt_two_pow (Nat.lt_of_lt_of_le hb (Nat.pow_le_pow_right (by omega) (by omega)))
      rw [if_neg hj, h0]; simp [show j ≥ 8 by omega]
  omega

/-! ### A nibble at a time -/
theorem shifts_add : ∀ (j k q : Nat), shifts (j + k) q = shifts k (shifts j q)
  | 0, k, q => by simp [shifts]
  | j + 1, k, q => by rw [show j + 1 + k = (j + k) + 1 by omega, shifts, shifts, shifts_add j k]
theorem split_at (q k : Nat) : q % 2 ^ k ^^^ 2 ^ k * (q / 2 ^ k) = q := by
  apply Nat.eq_of_testBit_eq
  intro j
  rw [Nat.testBit_xor, Nat.testBit_two_pow_mul, Nat.testBit_mod_two_pow, Nat.testBit_div_two_pow]
  by_cases hj : j < k
  · simp [hj, show ¬ k ≤ j by omega]
  · simp [hj, show k ≤ j by omega, show j - k + k = j by omega]
/-- four bits out, by a table -/
theorem shifts_nibble (q : Nat) : shifts 4 q = (q / 16) ^^^ shifts 4 (q % 16) := by
  have h := shifts_high 4 (q % 16) (q / 16)
  rw [← split_at q 4] at h ⊢
  have e : (q % 2 ^ 4 ^^^ 2 ^ 4 * (q / 2 ^ 4)) = q := split_at q 4
  rw [e]
  rw [show (2 : Nat) ^ 4 = 16 by decide] at h e
  rw [e] at h
  rw [← e, h, e, Nat.xor_comm]
theorem shift_lt {q : Nat} (h : q < 2 ^ 32) : shift q < 2 ^ 32 := by
  unfold shift; split
  · exact Nat.xor_lt_two_pow (by omega) poly_lt
  · omega
theorem shifts_lt : ∀ (k : Nat) {q : Nat}, q < 2 ^ 32 → shifts k q < 2 ^ 32
  | 0, q, h => h
  | k + 1, q, h => shifts_lt k (shift_lt h)
theorem byte_by_nibbles (r c : Nat) (hc : c < 256) : shifts 4 (shifts 4 (r ^^^ c)) = byteTo r c := by
  rw [← shifts_byte r c hc, ← shifts_add]

end Go.Proofs.YtbbafjgbcmlacaaDoor
