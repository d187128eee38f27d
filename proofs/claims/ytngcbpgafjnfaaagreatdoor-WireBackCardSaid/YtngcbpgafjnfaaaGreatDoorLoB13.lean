/- The sum of layer 3, plain numbers: a change within four bytes is seen. No program in sight. The two sums. -/
import Derived.WalkKit
import Derived.Test.YtngcbpgafjnfaaaGreatDoorLoB2
set_option linter.unusedSimpArgs false
set_option linter.unusedVariables false

namespace Go.Proofs.YtngcbpgafjnfaaaGreatDoor
set_option linter.unusedVariables false

/-- the polynomial, 0x82F63B78 -/
def poly : Nat := 2197175160
theorem poly_lt : poly < 2 ^ 32 := by decide
theorem poly_top : poly / 2 ^ 31 = 1 := by decide
/-- one bit of the message: the bit that goes out is (r + b) % 2 -/
def crcStep (r b : Nat) : Nat := if (r + b) % 2 = 1 then (r / 2) ^^^ poly else r / 2
theorem xor_cancel {a b c : Nat} (h : a ^^^ c = b ^^^ c) : a = b := by
  have := congrArg (· ^^^ c) h
  simpa [Nat.xor_assoc] using this
theorem half_lt {r : Nat} (h : r < 2 ^ 32) : r / 2 < 2 ^ 31 := by omega
theorem step_lt {r b : Nat} (h : r < 2 ^ 32) : crcStep r b < 2 ^ 32 := by
  unfold crcStep; split
  · exact Nat.xor_lt_two_pow (by omega) poly_lt
  · omega
theorem step_top {r b : Nat} (h : r < 2 ^ 32) : crcStep r b / 2 ^ 31 = (r + b) % 2 := by
  have h0 : r / 2 / 2 ^ 31 = 0 := Nat.div_eq_of_lt (half_lt h)
  unfold crcStep; split
  · rename_i e
    rw [Nat.xor_div_two_pow, h0, poly_top, e]; decide
  · rename_i e
    rw [h0]; omega
theorem step_back {r r' b b' j : Nat} (h : r < 2 ^ 32) (h' : r' < 2 ^ 32) (hj : j ≤ 31) (he : crcStep r b / 2 ^ j = crcStep r' b' / 2 ^ j) : (r + b) % 2 = (r' + b') % 2 ∧ r / 2 ^ (j + 1) = r' / 2 ^ (j + 1) := by
  have hout : (r + b) % 2 = (r' + b') % 2 := by
    rw [← step_top h, ← step_top h']
    have hp : (2 : Nat) ^ 31 = 2 ^ j * 2 ^ (31 - j) := by rw [← Nat.pow_add]; congr 1; omega
    rw [hp, ← Nat.div_div_eq_div_mul, ← Nat.div_div_eq_div_mul, he]
  refine ⟨hout, ?_⟩
  have hd : ∀ x : Nat, x / 2 ^ (j + 1) = x / 2 / 2 ^ j := fun x => by rw [Nat.div_div_eq_div_mul, Nat.pow_succ, Nat.mul_comm]
  rw [hd, hd]
  unfold crcStep at he
  by_cases e : (r + b) % 2 = 1
  · rw [if_pos e, if_pos (hout ▸ e), Nat.xor_div_two_pow, Nat.xor_div_two_pow] at he
    exact xor_cancel he
  · rw [if_neg e, if_neg (hout ▸ e)] at he
    exact he
theorem step_inj {r r' b : Nat} (h : r < 2 ^ 32) (h' : r' < 2 ^ 32) (he : crcStep r b = crcStep r' b) : r = r' := by
  have := step_back (b := b) (b' := b) (j := 0) h h' (by omega) (by rw [he])
  simp only [Nat.zero_add, Nat.pow_one] at this
  omega

/-- the state behind a list of bits -/
def bitsTo (r : Nat) (l : List Nat) : Nat := l.foldl crcStep r
/-- the bits that go out -/
def outs : Nat → List Nat → List Nat
  | _, [] => []
  | r, b :: l => (r + b) % 2 :: outs (crcStep r b) l
theorem bitsTo_lt {l : List Nat} : ∀ {r : Nat}, r < 2 ^ 32 → bitsTo r l < 2 ^ 32 := by
  induction l with
  | nil => intro r h; exact h
  | cons b l ih => intro r h; exact ih (step_lt h)
theorem bits_back : ∀ (l l' : List Nat) (r r' j : Nat), l.length = l'.length → r < 2 ^ 32 → r' < 2 ^ 32 → l.length + j ≤ 32 → bitsTo r l / 2 ^ j = bitsTo r' l' / 2 ^ j → outs r l = outs r' l' ∧ r / 2 ^ (j + l.length) = r' / 2 ^ (j + l.length)
  | [], [], r, r', j, _, _, _, _, he => ⟨rfl, he⟩
  | [], _ :: _, _, _, _, hl, _, _, _, _ => by simp at hl
  | _ :: _, [], _, _, _, hl, _, _, _, _ => by simp at hl
  | b :: l, b' :: l', r, r', j, hl, h, h', hj, he => by
    simp only [List.length_cons] at hl hj ⊢
    obtain ⟨e1, e2⟩ := bits_back l l' (crcStep r b) (crcStep r' b') j (by omega) (step_lt h) (step_lt h') (by omega) he
    obtain ⟨e3, e4⟩ := step_back h h' (by omega) e2
    refine ⟨?_, by rw [show j + (l.length + 1) = j + l.length + 1 by omega]; exact e4⟩
    unfold outs
    rw [e3, e1]
theorem outs_inj : ∀ (l l' : List Nat) (r : Nat), (∀ b ∈ l, b < 2) → (∀ b ∈ l', b < 2) → outs r l = outs r l' → l = l'
  | [], [], _, _, _, _ => rfl
  | [], _ :: _, _, _, _, h => by simp [outs] at h
  | _ :: _, [], _, _, _, h => by simp [outs] at h
  | b :: l, b' :: l', r, hb, hb', h => by
    simp only [outs, List.cons.injEq] at h
    have h1 := hb b (List.mem_cons_self ..)
    have h2 := hb' b' (List.mem_cons_self ..)
    obtain rfl : b = b' := by omega
    rw [outs_inj l l' (crcStep r b) (fun x hx => hb x (List.mem_cons_of_mem _ hx)) (fun x hx => hb' x (List.mem_cons_of_mem _ hx)) h.2]
/-- up to 32 bits, from one state: told apart -/
theorem bits_inj {l l' : List Nat} {r : Nat} (h : r < 2 ^ 32) (hl : l.length = l'.length) (h32 : l.length ≤ 32) (hb : ∀ b ∈ l, b < 2) (hb' : ∀ b ∈ l', b < 2) (he : bitsTo r l = bitsTo r l') : l = l' :=
  outs_inj l l' r hb hb' (bits_back l l' r r 0 hl h h (by omega) (by rw [he])).1
theorem bitsTo_inj {l : List Nat} : ∀ {r r' : Nat}, r < 2 ^ 32 → r' < 2 ^ 32 → bitsTo r l = bitsTo r' l → r = r' := by
  induction l with
  | nil => intro r r' _ _ h; exact h
  | cons b l ih => intro r r' h h' he; exact step_inj h h' (ih (step_lt h) (step_lt h') he)

/-- a byte's bits, the lowest first -/
def bits8 (c : Nat) : List Nat := [c % 2, c / 2 % 2, c / 4 % 2, c / 8 % 2, c / 16 % 2, c / 32 % 2, c / 64 % 2, c / 128 % 2]
theorem bits8_inj {c d : Nat} (hc : c < 256) (hd : d < 256) (h : bits8 c = bits8 d) : c = d := by
  simp only [bits8, List.cons.injEq, and_true] at h
  omega
/-- the state behind a byte, and behind bytes -/
def byteTo (r c : Nat) : Nat := bitsTo r (bits8 c)
def bytesTo (r : Nat) (l : List Nat) : Nat := l.foldl byteTo r
theorem bytesTo_bits (l : List Nat) : ∀ r, bytesTo r l = bitsTo r (l.flatMap bits8) := by
  induction l with
  | nil => intro r; rfl
  | cons c l ih =>
    intro r
    rw [List.flatMap_cons]
    show bytesTo (byteTo r c) l = _
    rw [ih]
    simp [bitsTo, byteTo, List.foldl_append]
theorem bytesTo_append (r : Nat) (l m : List Nat) : bytesTo r (l ++ m) = bytesTo (bytesTo r l) m := by simp [bytesTo, List.foldl_append]
theorem bytesTo_lt {r : Nat} (l : List Nat) (h : r < 2 ^ 32) : bytesTo r l < 2 ^ 32 := by rw [bytesTo_bits]; exact bitsTo_lt h
theorem flat_length (l : List Nat) : (l.flatMap bits8).length = 8 * l.length := by
  induction l with
  | nil => rfl
  | cons c l ih => rw [List.flatMap_cons, List.length_append, ih]; simp [bits8]; omega
theorem flat_bit (l : List Nat) : ∀ b ∈ l.flatMap bits8, b < 2 := by
  intro b hb
  rw [List.mem_flatMap] at hb
  obtain ⟨c, _, h⟩ := hb
  simp only [bits8, List.mem_cons, List.not_mem_nil, or_false] at h
  omega
theorem flat_inj : ∀ (l l' : List Nat), (∀ c ∈ l, c < 256) → (∀ c ∈ l', c < 256) → l.length = l'.length → l.flatMap bits8 = l'.flatMap bits8 → l = l'
  | [], [], _, _, _, _ => rfl
  | [], _ :: _, _, _, h, _ => by simp at h
  | _ :: _, [], _, _, h, _ => by simp at h
  | c :: l, d :: l', hc, hd, hl, h => by
    rw [List.flatMap_cons, List.flatMap_cons] at h
    obtain ⟨h1, h2⟩ := List.append_inj h (by simp [bits8])
    rw [bits8_inj (hc c (List.mem_cons_self ..)) (hd d (List.mem_cons_self ..)) h1, flat_inj l l' (fun x hx => hc x (List.mem_cons_of_mem _ hx)) (fun x hx => hd x (List.mem_cons_of_mem _ hx)) (by simpa using hl) h2]
/-- A CHANGE WITHIN FOUR BYTES IS SEEN -/
theorem burst {r : Nat} (h : r < 2 ^ 32) (A X Y B : List Nat) (hl : X.length = Y.length) (h4 : X.length ≤ 4) (hX : ∀ c ∈ X, c < 256) (hY : ∀ c ∈ Y, c < 256) (he : bytesTo r (A ++ X ++ B) = bytesTo r (A ++ Y ++ B)) : X = Y := by
  rw [bytesTo_append, bytesTo_append, bytesTo_append _ (A ++ Y), bytesTo_append _ A Y, bytesTo_bits B, bytesTo_bits B] at he
  have hA := bytesTo_lt A h
  have h1 := bitsTo_inj (bytesTo_lt X hA) (bytesTo_lt Y hA) he
  rw [bytesTo_bits X, bytesTo_bits Y] at h1
  exact flat_inj X Y hX hY hl (bits_inj hA (by rw [flat_length, flat_length, hl]) (by rw [flat_length]; omega) (flat_bit X) (flat_bit Y) h1)
theorem bytesTo_inj {l : List Nat} {r r' : Nat} (h : r < 2 ^ 32) (h' : r' < 2 ^ 32) (he : bytesTo r l = bytesTo r' l) : r = r' := by
  rw [bytesTo_bits, bytesTo_bits] at he
  exact bitsTo_inj h h' he

/-- the sum of bytes behind a sum -/
def sumOf (s : Nat) (l : List Nat) : Nat := 4294967295 - bytesTo (4294967295 - s) l
theorem sumOf_lt (s : Nat) (l : List Nat) : sumOf s l < 2 ^ 32 := by unfold sumOf; omega
theorem sumOf_append {s : Nat} (hs : s < 2 ^ 32) (l m : List Nat) : sumOf (sumOf s l) m = sumOf s (l ++ m) := by
  have h := bytesTo_lt (r := 4294967295 - s) l (by omega)
  unfold sumOf
  rw [bytesTo_append]
  congr 2
  omega
theorem sum_burst {s : Nat} (A X Y B : List Nat) (hl : X.length = Y.length) (h4 : X.length ≤ 4) (hX : ∀ c ∈ X, c < 256) (hY : ∀ c ∈ Y, c < 256) (he : sumOf s (A ++ X ++ B) = sumOf s (A ++ Y ++ B)) : X = Y := by
  have h1 := bytesTo_lt (r := 4294967295 - s) (A ++ X ++ B) (by omega)
  have h2 := bytesTo_lt (r := 4294967295 - s) (A ++ Y ++ B) (by omega)
  unfold sumOf at he
  exact burst (r := 4294967295 - s) (by omega) A X Y B hl h4 hX hY (by omega)

/-! ### Other ways to reckon it: the byte laid in at once; a table -/
/-- one bit out, nothing in -/
def shift (q : Nat) : Nat := if q % 2 = 1 then (q / 2) ^^^ poly else q / 2
theorem xor_mod2 (a b : Nat) : (a ^^^ b) % 2 = (a + b) % 2 := by
  have h := Nat.xor_mod_two_pow (a := a) (b := b) (n := 1)
  simp only [Nat.pow_one] at h
  rw [h]
  have ha : a % 2 = 0 ∨ a % 2 = 1 := by omega
  have hb : b % 2 = 0 ∨ b % 2 = 1 := by omega
  rcases ha with ha | ha <;> rcases hb with hb | hb <;> rw [ha, hb]
  · have : (a + b) % 2 = 0 := by omega
    rw [this]; decide
  · have : (a + b) % 2 = 1 := by omega
    rw [this]; decide
  · have : (a + b) % 2 = 1 := by omega
    rw [this]; decide
  · have : (a + b) % 2 = 0 := by omega
    rw [this]; decide
theorem shift_xor (r c : Nat) : shift (r ^^^ c) = crcStep r (c % 2) ^^^ (c / 2) := by
  unfold shift crcStep
  rw [xor_mod2, Nat.xor_div_two]
  by_cases e : (r + c) % 2 = 1
  · rw [if_pos e, if_pos (by omega), Nat.xor_assoc, Nat.xor_comm (c / 2), ← Nat.xor_assoc]
  · rw [if_neg e, if_neg (by omega)]
/-- k bits out -/
def shifts : Nat → Nat → Nat
  | 0, q => q
  | k + 1, q => shifts k (shift q)
theorem shifts_succ : ∀ k q, shifts (k + 1) q = shift (shifts k q)
  | 0, q => rfl
  | k + 1, q => shifts_succ k (shift q)
theorem shifts_byte (r c : Nat) (hc : c < 256) : shifts 8 (r ^^^ c) = byteTo r c := by
  have h8 : c / 2 / 2 / 2 / 2 / 2 / 2 / 2 / 2 = 0 := by omega
  simp only [shifts]
  rw [shift_xor, shift_xor, shift_xor, shift_xor, shift_xor, shift_xor, shift_xor, shift_xor, h8, Nat.xor_zero]
  simp only [byteTo, bitsTo, bits8, List.foldl_cons, List.foldl_nil]
  rw [show c / 2 / 2 % 2 = c / 4 % 2 by omega, show c / 2 / 2 / 2 % 2 = c / 8 % 2 by omega, show c / 2 / 2 / 2 / 2 % 2 = c / 16 % 2 by omega, show c / 2 / 2 / 2 / 2 / 2 % 2 = c / 32 % 2 by omega,
    show c / 2 / 2 / 2 / 2 / 2 / 2 % 2 = c / 64 % 2 by omega, show c / 2 / 2 / 2 / 2 / 2 / 2 / 2 % 2 = c / 128 % 2 by omega]
theorem shift_even (x y : Nat) : shift (x ^^^ (2 * y)) = shift x ^^^ y := by
  unfold shift
  rw [xor_mod2, Nat.xor_div_two, show 2 * y / 2 = y by omega]
  by_cases e : x % 2 = 1
  · rw [if_pos e, if_pos (by omega), Nat.xor_assoc, Nat.xor_comm y, ← Nat.xor_assoc]
  · rw [if_neg e, if_neg (by omega)]
theorem shifts_high : ∀ (k x y : Nat), shifts k (x ^^^ (2 ^ k * y)) = shifts k x ^^^ y
  | 0, x, y => by simp [shifts]
  | k + 1, x, y => by
    rw [shifts, shifts, show 2 ^ (k + 1) * y = 2 * (2 ^ k * y) by rw [Nat.pow_succ]; rw [Nat.mul_comm (2 ^ k) 2, Nat.mul_assoc], shift_even, shifts_high k]
/-- by a table: t (q % 256) ^ (q / 256) -/
theorem shifts_table (q : Nat) : shifts 8 q = shifts 8 (q % 256) ^^^ (q / 256) := by
  have h := shifts_high 8 (q % 256) (q / 256)
  rw [← h]
  congr 1
  have e : q = 2 ^ 8 * (q / 256) + q % 256 := by omega
  have hx : q % 256 ^^^ 2 ^ 8 * (q / 256) = 2 ^ 8 * (q / 256) + q % 256 := by
    have hb : q % 256 < 2 ^ 8 := by omega
    apply Nat.eq_of_testBit_eq
    intro j
    rw [Nat.testBit_xor, Nat.testBit_two_pow_mul_add _ hb, Nat.testBit_two_pow_mul]
    by_cases hj : j < 8
    · rw [if_pos hj]; simp [show ¬ j ≥ 8 by omega]
    · have h0 : (q % 256).testBit j = false := Nat.testBit_lt_two_pow (Nat.lt_of_lt_of_le hb (Nat.pow_le_pow_right (by omega) (by omega)))
      rw [if_neg hj, h0]; simp [show j ≥ 8 by omega]
  omega

/-! ### A nibble at a time -/
theorem shifts_add : ∀ (j k q : Nat), shifts (j + k) q = shifts k (shifts j q)
  | 0, k, q => by simp [shifts]
  | j + 1, k, q => by rw [show j + 1 + k = (j + k) + 1 by omega, shifts, shifts, shifts_add j k]
theorem split_at (q k : Nat) : q % 2 ^ k ^^^ 2 ^ k * (q / 2 ^ k) = q := by
  apply Nat.eq_of_testBit_eq
  intro j
  rw [Nat.testBit_xor, Nat.testBit_two_pow_mul, Nat.testBit_mod_two_pow, Nat.testBit_div_two_pow]
  by_cases hj : j < k
  · simp [hj, show ¬ k ≤ j by omega]
  · simp [hj, show k ≤ j by omega, show j - k + k = j by omega]
/-- four bits out, by a table -/
theorem shifts_nibble (q : Nat) : shifts 4 q = (q / 16) ^^^ shifts 4 (q % 16) := by
  have h := shifts_high 4 (q % 16) (q / 16)
  rw [← split_at q 4] at h ⊢
  have e : (q % 2 ^ 4 ^^^ 2 ^ 4 * (q / 2 ^ 4)) = q := split_at q 4
  rw [e]
  rw [show (2 : Nat) ^ 4 = 16 by decide] at h e
  rw [e] at h
  rw [← e, h, e, Nat.xor_comm]
theorem shift_lt {q : Nat} (h : q < 2 ^ 32) : shift q < 2 ^ 32 := by
  unfold shift; split
  · exact Nat.xor_lt_two_pow (by omega) poly_lt
  · omega
theorem shifts_lt : ∀ (k : Nat) {q : Nat}, q < 2 ^ 32 → shifts k q < 2 ^ 32
  | 0, q, h => h
  | k + 1, q, h => shifts_lt k (shift_lt h)
theorem byte_by_nibbles (r c : Nat) (hc : c < 256) : shifts 4 (shifts 4 (r ^^^ c)) = byteTo r c := by
  rw [← shifts_byte r c hc, ← shifts_add]

end Go.Proofs.YtngcbpgafjnfaaaGreatDoor


namespace Go.Proofs.YtngcbpgafjnfaaaGreatDoor
open Go.RowKit Go.Sort
set_option linter.unusedVariables false

/-- the table lies in its variable -/
def Tab (w : World) : Prop := 1 < w.heap.size ∧ ∀ i, i < 16 → w.cell? ⟨1, i, none⟩ = some (.int .u32 (shifts 4 i : Nat))
theorem Tab.below {w w' : World} (h : Tab w) (b : Below w.heap.size w w') : Tab w' :=
  ⟨Nat.lt_of_lt_of_le h.1 b.size, fun i hi => (b.cell (p := ⟨1, i, none⟩) h.1).trans (h.2 i hi)⟩
theorem Tab.keep {S : List Nat} {w w' : World} (h : Tab w) (b : Keep S w w') (hS : 1 ∉ S) : Tab w' :=
  ⟨Nat.lt_of_lt_of_le h.1 b.size, fun i hi => (b.cell (a := ⟨1, i, none⟩) h.1 hS).trans (h.2 i hi)⟩

theorem not32 (s : Nat) (hs : s < 4294967296) : 4294967295 ^^^ s = 4294967295 - s := by
  have e : (~~~(BitVec.ofNat 32 s)).toNat = 4294967295 - s := by
    rw [BitVec.toNat_not, BitVec.toNat_ofNat, Nat.mod_eq_of_lt (by omega)]
  have e2 : (BitVec.allOnes 32 ^^^ BitVec.ofNat 32 s).toNat = 4294967295 ^^^ s := by
    rw [BitVec.toNat_xor, BitVec.toNat_ofNat, BitVec.toNat_allOnes, Nat.mod_eq_of_lt (by omega)]
  rw [← e2, BitVec.allOnes_xor, e]
theorem not_u32 (s : Nat) (hs : s < 4294967296) : bits .xor .u32 IntKind.u32.max (s : Int) = ((4294967295 - s : Nat) : Int) := by
  rw [show IntKind.u32.max = ((4294967295 : Nat) : Int) by decide, u32_xor_nat _ _ (by omega) hs, not32 s hs]
theorem and15_u32 (q : Nat) (hq : q < 4294967296) : bits .and .u32 (q : Int) 15 = ((q % 16 : Nat) : Int) := by
  have h := u32_and_nat q 15 hq (by omega)
  rw [nat_mask4] at h
  exact h

theorem bytesTo_snoc (r : Nat) (l : List Nat) (k : Nat) (hk : k < l.length) : bytesTo r (l.take (k + 1)) = byteTo (bytesTo r (l.take k)) (bt l k) := by
  rw [List.take_add_one, bytesTo_append, bt_get hk]
  rfl

set_option maxHeartbeats 2000000 in
theorem sum_any (s : Nat) (hs : s < 4294967296) (ao : Option Addr) (n cap : Nat) (l : List Nat) (hl : l.length = n) (hn : n ≤ 9223372036854775807) (w : World) (ht : Tab w) (hr : Rd w ao l) :
    Calls Tryz.prog 94 #[.int .u32 (s : Int), .slice ao n cap] w fun e w' => e = .returned (.int .u32 (sumOf s l : Nat)) ∧ w = w' := by
  have HT := Lib.hid ht; have HR := Lib.hid hr; have HL := Lib.hid hl
  clear ht hr hl
  have hsg : IntKind.u32.signed = false := rfl
  have e0 := not_u32 s hs
  go_enter Tryz.func94, Tryz.ntmps94
  go_wp2_with fail
  go_loop [5, 7, 12] (fun r c i => ∃ k q : Nat, k ≤ n ∧ i = .int .i64 (k : Int) ∧ r = .int .u32 (q : Int) ∧ q < 4294967296 ∧ Hid (q = bytesTo (4294967295 - s) (l.take k))) (fun _ _ i => n - (intOf i).toNat)
  case atStart => exact ⟨0, 4294967295 - s, by omega, rfl, by simp, by omega, by rw [Hid, List.take_zero]; rfl⟩
  case round =>
    obtain ⟨k, q, hk, rfl, rfl, hq, HQ⟩ := hrel
    by_cases hlt : k < n
    · obtain ⟨g, o, rfl, hg, hc⟩ := HR.out.at_ k (by rw [HL.out]; exact hlt)
      have hb := HR.out.byte k
      have e1 := u32_xor_nat q (bt l k) hq (by omega)
      have HB := Lib.hid (byte_by_nibbles q (bt l k) hb)
      have h1 : q ^^^ bt l k < 4294967296 := Nat.xor_lt_two_pow (n := 32) hq (by omega)
      have HX := Lib.hid (bytesTo_snoc (4294967295 - s) l k (by rw [HL.out]; exact hlt))
      generalize q ^^^ bt l k = q1 at *
      have e2 := and15_u32 q1 h1
      have hi1 : q1 % 16 < 16 := by omega
      have c1 := HT.out.2 (q1 % 16) hi1
      have e3 := u32_xor_nat (q1 / 16) (shifts 4 (q1 % 16)) (by omega) (shifts_lt 4 (by omega))
      rw [← shifts_nibble, Int.natCast_ediv] at e3
      have h2 : shifts 4 q1 < 4294967296 := shifts_lt 4 h1
      generalize shifts 4 (q1 % 16) = t1 at *
      generalize q1 % 16 = i1 at *
      generalize shifts 4 q1 = q2 at *
      have e4 := and15_u32 q2 h2
      have hi2 : q2 % 16 < 16 := by omega
      have c2 := HT.out.2 (q2 % 16) hi2
      have e5 := u32_xor_nat (q2 / 16) (shifts 4 (q2 % 16)) (by omega) (shifts_lt 4 (by omega))
      rw [← shifts_nibble, Int.natCast_ediv] at e5
      have h3 : shifts 4 q2 < 4294967296 := shifts_lt 4 h2
      generalize shifts 4 (q2 % 16) = t2 at *
      generalize q2 % 16 = i2 at *
      generalize shifts 4 q2 = q3 at *
      rw [show ((16 : Nat) : Int) = 16 from rfl] at e3 e5
      go_wp2_with fail
      go_round
      case rel => exact ⟨k + 1, q3, by omega, by go_num, rfl, h3, by rw [Hid, HX.out, ← HQ.out, HB.out]⟩
      case measure => simp [intOf]; omega
    · obtain rfl : k = n := by omega
      have e9 := not_u32 q hq
      clear hlt
      go_wp2_with fail
      go_ret
      refine ⟨ret_int ?_, rfl⟩
      have h := HQ.out
      rw [← HL.out, List.take_length] at h
      unfold sumOf
      rw [h]

theorem step_bit (q c b : Nat) (hb : b < 8) : bitsTo q ((bits8 c).take (b + 1)) = crcStep (bitsTo q ((bits8 c).take b)) (c / 2 ^ b % 2) := by
  have e : (bits8 c).take (b + 1) = (bits8 c).take b ++ [c / 2 ^ b % 2] := by
    have h : b = 0 ∨ b = 1 ∨ b = 2 ∨ b = 3 ∨ b = 4 ∨ b = 5 ∨ b = 6 ∨ b = 7 := by omega
    rcases h with rfl | rfl | rfl | rfl | rfl | rfl | rfl | rfl <;> simp [bits8]
  rw [e]; simp [bitsTo, List.foldl_append]

set_option maxHeartbeats 2000000 in
theorem rsum_any (s : Nat) (hs : s < 4294967296) (ao : Option Addr) (n cap : Nat) (l : List Nat) (hl : l.length = n) (hn : n ≤ 9223372036854775807) (w : World) (hr : Rd w ao l) :
    Calls Tryz.prog 49 #[.int .u32 (s : Int), .slice ao n cap] w fun e w' => e = .returned (.int .u32 (sumOf s l : Nat)) ∧ w = w' := by
  have HR := Lib.hid hr; have HL := Lib.hid hl
  clear hr hl
  have hsg : IntKind.u32.signed = false := rfl
  go_enter Tryz.func49, Tryz.ntmps49
  go_wp2_with fail
  go_loop [5, 6, 7, 8, 9] (fun r i c j out => ∃ k q : Nat, k ≤ n ∧ i = .int .i64 (k : Int) ∧ r = .int .u32 (q : Int) ∧ q < 4294967296 ∧ Hid (q = bytesTo (4294967295 - s) (l.take k))) (fun _ i _ _ _ => n - (intOf i).toNat)
  case atStart => exact ⟨0, 4294967295 - s, by omega, rfl, by go_num, by omega, by rw [Hid, List.take_zero]; rfl⟩
  case round =>
    obtain ⟨k, q, hk, rfl, rfl, hq, HQ⟩ := hrel
    by_cases hlt : k < n
    · obtain ⟨g, o, rfl, hg, hc⟩ := HR.out.at_ k (by rw [HL.out]; exact hlt)
      have hb := HR.out.byte k
      have HX := Lib.hid (bytesTo_snoc (4294967295 - s) l k (by rw [HL.out]; exact hlt))
      go_wp2_with fail
      generalize hcc : bt l k = c0 at *
      have HC := Lib.hid hcc; clear hcc
      go_loop [5, 7, 8, 9] (fun r c j out => ∃ b r' c' : Nat, b ≤ 8 ∧ j = .int .i64 (b : Int) ∧ r = .int .u32 (r' : Int) ∧ c = .int .u32 (c' : Int) ∧ r' < 4294967296 ∧ c' < 256 ∧ Hid (r' = bitsTo q ((bits8 c0).take b) ∧ c' = c0 / 2 ^ b)) (fun _ _ j _ => 8 - (intOf j).toNat)
      case atStart => exact ⟨0, q, c0, by omega, rfl, rfl, rfl, hq, hb, by rw [Hid]; exact ⟨rfl, by simp⟩⟩
      case round =>
        obtain ⟨b, r', c', hb8, rfl, rfl, rfl, hr', hc', HI⟩ := hrel
        by_cases h8 : b < 8
        · have HS := Lib.hid (step_bit q c0 b h8)
          have hcd : c' / 2 < 256 := by omega
          by_cases hodd : (r' + c') % 2 = 1
          · have e1 := u32_xor_nat (r' / 2) 2197175160 (by omega) (by omega)
            rw [Int.natCast_ediv, show ((2 : Nat) : Int) = 2 from rfl, show ((2197175160 : Nat) : Int) = 2197175160 from rfl] at e1
            have h1 : (r' / 2) ^^^ 2197175160 < 4294967296 := Nat.xor_lt_two_pow (n := 32) (by omega) (by omega)
            have HE := Lib.hid (show crcStep r' (c' % 2) = (r' / 2) ^^^ 2197175160 by unfold crcStep; rw [if_pos (by omega)]; rfl)
            generalize (r' / 2) ^^^ 2197175160 = r2 at *
            go_wp2_with fail
            go_round
            case rel => exact ⟨b + 1, r2, c' / 2, by omega, by go_num, rfl, by go_num, h1, hcd, by rw [Hid, HS.out, ← HI.out.1, ← HI.out.2, HE.out, HI.out.2, Nat.div_div_eq_div_mul, ← Nat.pow_succ]; exact ⟨rfl, rfl⟩⟩
            case measure => simp [intOf]; omega
          · have HE := Lib.hid (show crcStep r' (c' % 2) = r' / 2 by unfold crcStep; rw [if_neg (by omega)])
            go_wp2_with fail
            go_round
            case rel => exact ⟨b + 1, r' / 2, c' / 2, by omega, by go_num, by go_num, by go_num, by omega, hcd, by rw [Hid, HS.out, ← HI.out.1, ← HI.out.2, HE.out, HI.out.2, Nat.div_div_eq_div_mul, ← Nat.pow_succ]; exact ⟨rfl, rfl⟩⟩
            case measure => simp [intOf]; omega
        · obtain rfl : b = 8 := by omega
          go_wp2_with fail
          go_round
          case rel => exact ⟨k + 1, r', by omega, by go_num, rfl, hr', by rw [Hid, HX.out, ← HQ.out, HI.out.1]; rfl⟩
          case measure => simp [intOf]; omega
    · obtain rfl : k = n := by omega
      clear hlt
      go_wp2_with fail
      go_ret
      refine ⟨ret_int ?_, rfl⟩
      have h := HQ.out
      rw [← HL.out, List.take_length] at h
      unfold sumOf
      rw [h]
      omega
end Go.Proofs.YtngcbpgafjnfaaaGreatDoor
