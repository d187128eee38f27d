/- Layer 4, plain: parts that are written and read in one way each. No program in sight. Layer 4: append of a text's bytes to a slice of the call's own, from whatever place of a row on. Layer 4, plain: the parts of a message, how each is written and read. No program in sight. -/
import Derived.WalkKit
import Derived.Test.YtngcbpgafjnfaaaGreatDoorLot1
import Derived.Lib.AppendStr
import Derived.Lib.SlBytesRow

namespace Go.Proofs.YtngcbpgafjnfaaaGreatDoor
set_option linter.unusedVariables false

/-- all of them are bytes -/
def Bytes (l : List Nat) : Prop := ∀ c ∈ l, c < 256
theorem Bytes.app {l m : List Nat} (h : Bytes l) (h' : Bytes m) : Bytes (l ++ m) := fun c hc => by
  rcases List.mem_append.1 hc with x | x
  · exact h c x
  · exact h' c x
theorem Bytes.left {l m : List Nat} (h : Bytes (l ++ m)) : Bytes l := fun c hc => h c (List.mem_append.2 (.inl hc))
theorem Bytes.right {l m : List Nat} (h : Bytes (l ++ m)) : Bytes m := fun c hc => h c (List.mem_append.2 (.inr hc))
theorem Bytes.nil : Bytes [] := fun c hc => by cases hc
theorem Bytes.drop {l : List Nat} (h : Bytes l) (k : Nat) : Bytes (l.drop k) := fun c hc => h c (List.mem_of_mem_drop hc)
theorem Bytes.take {l : List Nat} (h : Bytes l) (k : Nat) : Bytes (l.take k) := fun c hc => h c (List.mem_of_mem_take hc)

/-- how a part is written and read: which may be, its bytes, what is read and what is left -/
structure Cod (α : Type) where
  ok : α → Bool
  enc : α → List Nat
  dec : List Nat → Option (α × List Nat)
structure Good {α : Type} (c : Cod α) : Prop where
  byte : ∀ a, c.ok a = true → Bytes (c.enc a)
  to : ∀ a r, c.ok a = true → c.dec (c.enc a ++ r) = some (a, r)
  of : ∀ l a r, Bytes l → c.dec l = some (a, r) → c.ok a = true ∧ l = c.enc a ++ r
theorem Good.inj {α : Type} {c : Cod α} (h : Good c) {a b : α} (ha : c.ok a = true) (hb : c.ok b = true) (he : c.enc a = c.enc b) : a = b := by
  have h1 := h.to a [] ha
  have h2 := h.to b [] hb
  rw [he, h2] at h1
  injection h1 with h1
  injection h1 with h1
  exact h1.symm

/-- the bytes of a number, the least first -/
def le : Nat → Nat → List Nat
  | 0, _ => []
  | n + 1, v => v % 256 :: le n (v / 256)
def unle : List Nat → Nat
  | [] => 0
  | b :: l => b + 256 * unle l
theorem le_length : ∀ n v, (le n v).length = n
  | 0, _ => rfl
  | n + 1, v => by simp [le, le_length n]
theorem le_byte : ∀ n v, Bytes (le n v)
  | 0, _ => Bytes.nil
  | n + 1, v => fun c hc => by
    rcases List.mem_cons.1 hc with rfl | h
    · exact Nat.mod_lt _ (by omega)
    · exact le_byte n _ c h
theorem unle_le : ∀ n v, v < 256 ^ n → unle (le n v) = v
  | 0, v, h => by simp [le, unle] at *; omega
  | n + 1, v, h => by
    have h1 : v / 256 < 256 ^ n := by
      rw [Nat.pow_succ] at h
      exact Nat.div_lt_of_lt_mul (by omega)
    simp [le, unle, unle_le n _ h1]
    omega
theorem le_unle : ∀ l, Bytes l → le l.length (unle l) = l
  | [], _ => rfl
  | b :: l, h => by
    have hb : b < 256 := h b (by simp)
    have ih := le_unle l (fun c hc => h c (by simp [hc]))
    have e1 : (b + 256 * unle l) % 256 = b := by omega
    have e2 : (b + 256 * unle l) / 256 = unle l := by omega
    simp only [List.length_cons, le, unle, e1, e2, ih]
theorem le_one {v : Nat} (h : v < 256) : le 1 v = [v] := by simp [le]; omega

/-- a number of n bytes, most at most -/
def num' (n most : Nat) : Cod Nat where
  ok v := decide (v ≤ most)
  enc v := le n v
  dec l := if l.length < n then none else if unle (l.take n) ≤ most then some (unle (l.take n), l.drop n) else none
theorem num_good (n most : Nat) (h : most < 256 ^ n) : Good (num' n most) where
  byte a _ := le_byte n a
  to a r ha := by
    have ha : a ≤ most := by simpa [num'] using ha
    have e : (le n a ++ r).take n = le n a := by
      have := List.take_left (l₁ := le n a) (l₂ := r)
      rwa [le_length] at this
    have e2 : (le n a ++ r).drop n = r := by
      have := List.drop_left (l₁ := le n a) (l₂ := r)
      rwa [le_length] at this
    have h1 : ¬ (le n a ++ r).length < n := by simp [le_length]
    simp only [num', e, e2, if_neg h1, unle_le n a (by omega), if_pos ha]
  of l a r hl hd := by
    simp only [num'] at hd
    split at hd
    · cases hd
    · rename_i h1
      split at hd
      · rename_i h2
        injection hd with hd
        injection hd with e1 e2
        subst e1 e2
        refine ⟨by simpa [num'] using h2, ?_⟩
        have h3 := le_unle (l.take n) (hl.take n)
        have h4 : (l.take n).length = n := by simp; omega
        rw [h4] at h3
        simp only [num', h3, List.take_append_drop]
      · cases hd

/-- one part for another, there and back -/
def Cod.map {α β : Type} (c : Cod α) (f : α → β) (g : β → α) (p : β → Bool) : Cod β where
  ok b := p b && c.ok (g b)
  enc b := c.enc (g b)
  dec l := (c.dec l).map fun x => (f x.1, x.2)
theorem Good.map {α β : Type} {c : Cod α} (h : Good c) {f : α → β} {g : β → α} {p : β → Bool} (h1 : ∀ b, p b = true → c.ok (g b) = true → f (g b) = b) (h2 : ∀ a, c.ok a = true → p (f a) = true ∧ g (f a) = a) : Good (c.map f g p) where
  byte b hb := by
    simp only [Cod.map, Bool.and_eq_true] at hb
    exact h.byte _ hb.2
  to b r hb := by
    simp only [Cod.map, Bool.and_eq_true] at hb
    simp only [Cod.map, h.to _ r hb.2, Option.map_some, h1 b hb.1 hb.2]
  of l b r hl hd := by
    simp only [Cod.map] at hd
    cases e : c.dec l with
    | none => rw [e] at hd; cases hd
    | some x =>
      obtain ⟨a, s⟩ := x
      rw [e] at hd
      simp only [Option.map_some, Option.some.injEq, Prod.mk.injEq] at hd
      obtain ⟨e1, e2⟩ := hd
      subst e1 e2
      obtain ⟨k1, k2⟩ := h.of l a s hl e
      obtain ⟨k3, k4⟩ := h2 a k1
      simp only [Cod.map, k4, k3, k1, Bool.and_true]
      exact ⟨by trivial, k2⟩

/-- one part behind another, that hangs on it -/
def Cod.dep {α β : Type} (c : Cod α) (d : α → Cod β) : Cod (α × β) where
  ok x := c.ok x.1 && (d x.1).ok x.2
  enc x := c.enc x.1 ++ (d x.1).enc x.2
  dec l := match c.dec l with
    | none => none
    | some (a, r) => match (d a).dec r with
      | none => none
      | some (b, s) => some ((a, b), s)
theorem Good.dep {α β : Type} {c : Cod α} (h : Good c) {d : α → Cod β} (hd : ∀ a, Good (d a)) : Good (c.dep d) where
  byte x hx := by
    simp only [Cod.dep, Bool.and_eq_true] at hx
    exact (h.byte _ hx.1).app ((hd _).byte _ hx.2)
  to x r hx := by
    simp only [Cod.dep, Bool.and_eq_true] at hx
    simp only [Cod.dep, List.append_assoc, h.to _ _ hx.1, (hd x.1).to _ _ hx.2]
  of l x r hl he := by
    simp only [Cod.dep] at he
    split at he
    · cases he
    · rename_i a r1 e1
      split at he
      · cases he
      · rename_i b s e2
        injection he with he
        injection he with e3 e4
        subst e3 e4
        obtain ⟨k1, k2⟩ := h.of _ _ _ hl e1
        have hr : Bytes r1 := by rw [k2] at hl; exact hl.right
        obtain ⟨k3, k4⟩ := (hd a).of _ _ _ hr e2
        simp only [Cod.dep, k1, k3, Bool.and_true, List.append_assoc, ← k4]
        exact ⟨by trivial, k2⟩
def Cod.two {α β : Type} (c : Cod α) (d : Cod β) : Cod (α × β) := c.dep fun _ => d
theorem Good.two {α β : Type} {c : Cod α} {d : Cod β} (h : Good c) (h' : Good d) : Good (c.two d) := h.dep fun _ => h'

/-- nothing: it is zero -/
def skip {α : Type} (z : α) (p : α → Bool) : Cod α where
  ok a := p a
  enc _ := []
  dec l := some (z, l)
theorem skip_good {α : Type} {z : α} {p : α → Bool} (h : ∀ a, p a = true ↔ a = z) : Good (skip z p) where
  byte _ _ := Bytes.nil
  to a r ha := by rw [(h a).1 ha]; rfl
  of l a r hl he := by
    simp only [skip, Option.some.injEq, Prod.mk.injEq] at he
    obtain ⟨e1, e2⟩ := he
    subst e1 e2
    exact ⟨(h z).2 rfl, rfl⟩

/-- n of them -/
def repDec {α : Type} (c : Cod α) : Nat → List Nat → Option (List α × List Nat)
  | 0, l => some ([], l)
  | n + 1, l => match c.dec l with
    | none => none
    | some (a, r) => match repDec c n r with
      | none => none
      | some (x, s) => some (a :: x, s)
def rep {α : Type} (c : Cod α) (n : Nat) : Cod (List α) where
  ok x := decide (x.length = n) && x.all c.ok
  enc x := x.flatMap c.enc
  dec l := repDec c n l
theorem rep_good {α : Type} {c : Cod α} (h : Good c) (n : Nat) : Good (rep c n) where
  byte x hx := by
    simp only [rep, Bool.and_eq_true, List.all_eq_true] at hx
    intro b hb
    simp only [rep, List.mem_flatMap] at hb
    obtain ⟨a, ha, hb⟩ := hb
    exact h.byte a (hx.2 a ha) b hb
  to x r hx := by
    simp only [rep, Bool.and_eq_true, List.all_eq_true, decide_eq_true_eq] at hx
    obtain ⟨hn, ha⟩ := hx
    simp only [rep]
    subst hn
    induction x with
    | nil => rfl
    | cons a x ih =>
      have h1 := ih (fun b hb => ha b (by simp [hb]))
      simp only [List.length_cons, repDec, List.flatMap_cons, List.append_assoc, h.to a _ (ha a (by simp)), h1]
  of l x r hl he := by
    simp only [rep] at he ⊢
    induction n generalizing l x with
    | zero =>
      simp only [repDec, Option.some.injEq, Prod.mk.injEq] at he
      obtain ⟨e1, e2⟩ := he
      subst e1 e2
      exact ⟨by simp, rfl⟩
    | succ n ih =>
      simp only [repDec] at he
      split at he
      · cases he
      · rename_i a r1 e1
        split at he
        · cases he
        · rename_i y s e2
          injection he with he
          injection he with e3 e4
          subst e3 e4
          obtain ⟨k1, k2⟩ := h.of _ _ _ hl e1
          have hr : Bytes r1 := by rw [k2] at hl; exact hl.right
          obtain ⟨k3, k4⟩ := ih r1 y hr e2
          simp only [Bool.and_eq_true, decide_eq_true_eq, List.all_eq_true] at k3
          refine ⟨by simp [k3.1, k1]; exact k3.2, ?_⟩
          rw [List.flatMap_cons, List.append_assoc, ← k4]
          exact k2

/-- their number, a byte; then they -/
def list (max : Nat) {α : Type} (c : Cod α) : Cod (List α) := ((num' 1 max).dep fun n => rep c n).map (fun x => x.2) (fun l => (l.length, l)) fun _ => true
theorem list_good {max : Nat} (hm : max < 256) {α : Type} {c : Cod α} (h : Good c) : Good (list max c) :=
  ((num_good 1 max (by omega)).dep fun n => rep_good h n).map (fun _ _ _ => rfl) fun a ha => by
    obtain ⟨n, l⟩ := a
    simp only [Cod.dep, rep, Bool.and_eq_true, decide_eq_true_eq] at ha
    exact ⟨rfl, by rw [ha.2.1]⟩
theorem list_ok {max : Nat} {α : Type} {c : Cod α} {l : List α} : (list max c).ok l = (decide (l.length ≤ max) && l.all c.ok) := by simp [list, Cod.map, Cod.dep, rep, num']
theorem list_enc {max : Nat} {α : Type} {c : Cod α} {l : List α} : (list max c).enc l = le 1 l.length ++ l.flatMap c.enc := rfl

/-- an int of n bytes, 0 to most -/
def whole (n most : Nat) : Cod Int := (num' n most).map Int.ofNat Int.toNat fun v => decide (0 ≤ v)
theorem whole_good {n most : Nat} (h : most < 256 ^ n) : Good (whole n most) :=
  (num_good n most h).map (fun b hb _ => by simp at hb ⊢; omega) fun a _ => ⟨by simp, rfl⟩
theorem whole_ok {n most : Nat} {v : Int} : (whole n most).ok v = decide (0 ≤ v ∧ v ≤ most) := by
  simp only [whole, Cod.map, num', ← Bool.decide_and]
  congr 1
  apply propext
  omega
theorem whole_enc {n most : Nat} {v : Int} : (whole n most).enc v = le n v.toNat := rfl

/-- a bool -/
def flag : Cod Bool := (num' 1 1).map (fun v => v == 1) (fun b => if b then 1 else 0) fun _ => true
theorem flag_good : Good flag :=
  (num_good 1 1 (by decide)).map (fun b _ _ => by cases b <;> rfl) fun a ha => ⟨rfl, by
    simp only [num', decide_eq_true_eq] at ha
    rcases (by omega : a = 0 ∨ a = 1) with rfl | rfl <;> rfl⟩

/-- the bytes of a text -/
def bs (s : ByteArray) : List Nat := s.data.toList.map (·.toNat)
def ofBs (l : List Nat) : ByteArray := ⟨(l.map UInt8.ofNat).toArray⟩
theorem ofBs_bs (s : ByteArray) : ofBs (bs s) = s := by
  obtain ⟨⟨l⟩⟩ := s
  simp [ofBs, bs, List.map_map, Function.comp_def]
theorem bs_ofBs {l : List Nat} (h : Bytes l) : bs (ofBs l) = l := by
  simp only [ofBs, bs, List.map_map]
  conv => rhs; rw [← List.map_id l]
  apply List.map_congr_left
  intro c hc
  have := h c hc
  simp [Function.comp]
  omega
theorem bs_bytes (s : ByteArray) : Bytes (bs s) := fun c hc => by
  simp only [bs, List.mem_map] at hc
  obtain ⟨b, _, rfl⟩ := hc
  exact b.toNat_lt
theorem bs_length (s : ByteArray) : (bs s).length = s.size := by obtain ⟨⟨l⟩⟩ := s; simp [bs, ByteArray.size]
theorem bs_inj {s t : ByteArray} (h : bs s = bs t) : s = t := by rw [← ofBs_bs s, h, ofBs_bs]

/-- a text of max bytes at most -/
def text (max : Nat) : Cod ByteArray := (list max (num' 1 255)).map ofBs bs fun _ => true
theorem text_good {max : Nat} (hm : max < 256) : Good (text max) :=
  (list_good hm (num_good 1 255 (by decide))).map (fun b _ _ => ofBs_bs b) fun a ha => ⟨rfl, bs_ofBs fun c hc => by
    rw [list_ok, Bool.and_eq_true, List.all_eq_true] at ha
    have := ha.2 c hc
    simp only [num', decide_eq_true_eq] at this
    omega⟩
theorem text_ok {max : Nat} {s : ByteArray} : (text max).ok s = decide (s.size ≤ max) := by
  simp only [text, Cod.map, list_ok, bs_length, Bool.true_and]
  have : (bs s).all (num' 1 255).ok = true := List.all_eq_true.2 fun c hc => by
    have := bs_bytes s c hc
    simp only [num', decide_eq_true_eq]
    omega
  rw [this, Bool.and_true]
theorem text_enc {max : Nat} {s : ByteArray} : (text max).enc s = le 1 s.size ++ bs s := by
  simp only [text, Cod.map, list_enc, bs_length]
  congr 1
  have : ∀ l : List Nat, Bytes l → l.flatMap (num' 1 255).enc = l := by
    intro l hl
    induction l with
    | nil => rfl
    | cons a l ih =>
      rw [List.flatMap_cons, ih fun c hc => hl c (by simp [hc])]
      have : (num' 1 255).enc a = [a] := le_one (hl a (by simp))
      rw [this]
      rfl
  exact this _ (bs_bytes s)
end Go.Proofs.YtngcbpgafjnfaaaGreatDoor


namespace Go.Proofs.YtngcbpgafjnfaaaGreatDoor
open Go.RowKit
set_option linter.unusedVariables false

theorem strCells_bs (s : ByteArray) : Go.Lib.strCells s = cs (bs s) := by
  simp only [Go.Lib.strCells, cs, bs, List.map_map]
  rfl
theorem run_room_str {P : Program} (w : World) (t u ty e : TypeId) (i : TypeInfo) (ht : P.underlying t = some (.slice e)) (hu : P.underlying u = some .string) (hi : P.info? e = some i) (hs1 : i.size = 1)
    (g off sLen sCap : Nat) (cur : Array Value) (hg : w.heap[g]? = some (.cells cur e (0, 0))) (s : ByteArray)
    (hroom : sLen + s.size ≤ sCap) (hfit : off + sLen + s.size ≤ cur.size) :
    (Builtin.append_ #[t, u] ty #[.slice (some ⟨g, off, none⟩) sLen sCap, .string s]).run P w =
      .ok (.slice (some ⟨g, off, none⟩) (sLen + s.size) sCap) (w.setRow g (cur.toList.take (off + sLen) ++ Go.Lib.strCells s ++ cur.toList.drop (off + sLen + s.size)).toArray) := by
  have hf := Go.Lib.run_firstCells_string (P := P) w 1 s
  have hst := run_storeCells_at P g (off + sLen) e (Go.Lib.strCells s) 0 cur w hg (by simpa [Go.Lib.strCells_length] using hfit) (Go.Lib.strCells_oneCell s)
  simp only [Nat.add_zero, Go.Lib.strCells_length] at hst
  simp [Builtin.append_, run_underlying ht, run_underlying hu, sizeOf, typeInfo, hi, hs1, Builtin.lenOf, hroom, hf, Addr.add_lit, hst]

section
variable {w : World} {B : Nat} {ao : Option Addr} {n cap : Nat} {l : List Nat}
theorem Own.run_apps (h : Own w B ao n cap l) (s : ByteArray) (hB : B ≤ w.heap.size) (hbig : n + s.size ≤ 140737488355328) (ty : TypeId) :
    ∃ ao' cap' w', (Builtin.append_ #[54, 9] ty #[.slice ao n cap, .string s]).run Tryz.prog w = .ok (.slice ao' (n + s.size) cap') w' ∧ Own w' B ao' (n + s.size) cap' (l ++ bs s) ∧ Keep (blk ao) w w' ∧
      (∀ g ∈ blk ao', g ∈ blk ao ∨ w.heap.size ≤ g) ∧ (ao' = ao ∨ ∀ g ∈ blk ao', w.heap.size ≤ g) ∧ ∀ g o j, ao = some ⟨g, o, none⟩ → j < o + n → w'.cell? ⟨g, j, none⟩ = w.cell? ⟨g, j, none⟩ := by
  obtain ⟨i0, hi, hz0, hz1, hz2⟩ := info_parts byte_info
  have hlen := h.len
  have hlt : ∀ c ∈ l ++ bs s, c < 256 := fun c hc => by rcases List.mem_append.1 hc with h1 | h1; exact h.lt c h1; exact bs_bytes s c h1
  have hml : maxLen = 9223372036854775807 := rfl
  have hsl := bs_length s
  cases ao with
  | none =>
    have hc0 := h.no rfl
    have hn0 : n = 0 := by have := h.le; omega
    subst hc0; subst hn0
    obtain rfl : l = [] := List.eq_nil_of_length_eq_zero hlen
    obtain ⟨v', w', hr, h2, h3, _⟩ := Go.Lib.run_append_own_string (P := Tryz.prog) w w.heap.size 54 9 ty 5 i0 Tryz.underlying54 Tryz.underlying9 hi hz0 hz1 hz2 (.slice none 0 0) 0 [] (World.ownsRow_nil _ _ _ _) s (by omega) (by omega) (Nat.le_refl _)
    rw [strCells_bs, Nat.zero_add] at h2
    obtain ⟨ao', cap', rfl, ho⟩ := Own.of_owns (l := bs s) rfl (by simpa [hsl] using h2) (bs_bytes s)
    rw [Nat.zero_add]
    exact ⟨ao', cap', w', hr, by simpa using ho.base hB, ⟨h3.os, h3.tape, h3.output, h3.size, fun k hk _ => h3.block k hk (by simp [Value.ownBlock])⟩, fun g hg => .inr (ho.lt_size g hg).1, .inr (fun g hg => (ho.lt_size g hg).1), fun _ _ _ e => by cases e⟩
  | some a =>
    obtain ⟨g, o, row, rfl, hbg, hg, hfit, hrow⟩ := h.row a rfl
    by_cases hroom : n + s.size ≤ cap
    · have hr := run_room_str (P := Tryz.prog) w 54 9 ty 5 i0 Tryz.underlying54 Tryz.underlying9 hi hz1 g o n cap row hg s hroom (by omega)
      refine ⟨_, _, _, hr, ⟨by simp; omega, hroom, h.max, hlt, by simp, fun a ha => ?_⟩, Keep.setRow _ _ _, fun g hg => .inl hg, .inl rfl, fun g2 o2 j e hj => by
        cases e
        rw [cell_of_row _ g j _ _ (0, 0) (setRow_heap w g row _ _ _ hg), cell_of_row _ g j _ _ (0, 0) hg, List.getElem?_toArray, List.append_assoc, List.getElem?_append_left (by simp; omega), List.getElem?_take, if_pos hj, Array.getElem?_toList]⟩
      cases ha
      rw [strCells_bs]
      refine ⟨g, o, _, rfl, hbg, setRow_heap w g row _ _ _ hg, ?_, fun j hj => ?_⟩
      · simp; omega
      · rw [List.getElem?_toArray]
        by_cases hjn : j < n
        · rw [bt_append_left (by omega), List.append_assoc, List.getElem?_append_left (by simp; omega), List.getElem?_take, if_pos (by omega), Array.getElem?_toList]
          exact hrow j hjn
        · rw [List.append_assoc, List.getElem?_append_right (by simp; omega), List.getElem?_append_left (by simp; omega)]
          rw [bt_append_right (by omega), List.getElem?_map]
          have e : o + j - (List.take (o + n) row.toList).length = j - l.length := by simp; omega
          rw [e, bt_get (by omega)]
          rfl
    · have holds : ∀ j u, (cs l)[j]? = some u → w.cell? ((⟨g, o, none⟩ : Addr).add j) = some u := by
        intro j u hu
        obtain ⟨hj, rfl⟩ := cs_at hu
        rw [Addr.add_lit, cell_of_row w g (o + j) row _ (0, 0) hg]
        exact hrow j (by omega)
      have hr := Go.Lib.run_append_grow_string (P := Tryz.prog) w 54 9 ty 5 i0 (.int .u8 0) Tryz.underlying54 Tryz.underlying9 hi hz0 ⟨g, o, none⟩ n cap (cs l) (by rw [hz1]; simpa using hlen) holds s (by omega) (by omega) (by rw [hz2]; exact growslice_fits (by omega) (by omega))
      have hge := grownCap_ge w (n + s.size) cap 5
      have hcm : grownCap w (n + s.size) cap 5 ≤ maxLen := grownCap_le_maxLen w (n + s.size) cap 5 (by omega)
      refine ⟨_, _, _, hr, ?_, ⟨rfl, rfl, rfl, by simp, fun k hk _ => heap_alloc_old w.drew _ hk⟩, fun g hg => .inr (by simp [blk] at hg; omega), .inr (fun g hg => by simp [blk] at hg; omega), fun g2 o2 j e hj => by
        cases e
        exact World.cell?_of_block (w := w) (heap_alloc_old w.drew _ (Array.getElem?_eq_some_iff.1 hg).1)⟩
      refine ⟨by simp; omega, hge, hcm, hlt, by simp, fun a ha => ?_⟩
      cases ha
      refine ⟨w.heap.size, 0, _, rfl, hB, heap_alloc_new w.drew _, ?_, fun j hj => ?_⟩
      · have hz1 : (Value.int IntKind.u8 0).cells.size = 1 := rfl
        simp only [Array.size_append, List.size_toArray, size_zeroCells, hz1, Go.Lib.strCells_length, cs, List.length_map, hlen]
        omega
      · rw [strCells_bs, Nat.zero_add, Array.getElem?_append_left (by simp; omega)]
        have e : (cs l).toArray ++ (cs (bs s)).toArray = (cs (l ++ bs s)).toArray := by simp [cs]
        rw [e, List.getElem?_toArray, cs, List.getElem?_map, bt_get (by simp; omega)]
        rfl
end

/-- the law at an append of a text's bytes -/
theorem wpList_apps {w : World} {ops : Array Oper} {rest : List Oper} {o : Oper} {a : Act} {Q : Exit → Act → World → Prop} (hgd : o.guard = none) (s x : Operand)
    (ho : o.op = .call { callee := .builtin .append, args := #[s, x], argTypes := #[54, 9] })
    {B : Nat} {ao : Option Addr} {n cap : Nat} {l : List Nat} (hs : a.eval s = .slice ao n cap) (hown : Own w B ao n cap l)
    {t : ByteArray} (hx : a.eval x = .string t) (hB : B ≤ w.heap.size) (hbig : n + t.size ≤ 140737488355328)
    (h : ∀ ao' cap' w', Own w' B ao' (n + t.size) cap' (l ++ bs t) → Keep (blk ao) w w' → (∀ g ∈ blk ao', g ∈ blk ao ∨ w.heap.size ≤ g) → wpList Tryz.prog ops Q rest (a.put o.dst (.slice ao' (n + t.size) cap')) w') : wpList Tryz.prog ops Q (o :: rest) a w := by
  obtain ⟨ao', cap', w', hr, h2, h3, h4, _⟩ := hown.run_apps t hB hbig o.type
  refine wpList_plain hgd fun K hK => ?_
  unfold Oper.wp execOp
  simp only [ho, resolve, invoke, builtin, Sem.run_bind, Sem.run_pure, Result.andThen_ok, List.map_toArray, List.map_cons, List.map_nil, hs, hx, hr]
  exact hK _ _ (h ao' cap' w' h2 h3 h4)
end Go.Proofs.YtngcbpgafjnfaaaGreatDoor


namespace Go.Proofs.YtngcbpgafjnfaaaGreatDoor
set_option linter.unusedVariables false

structure Ent where (key val : ByteArray) deriving DecidableEq
structure Itm where (bucket : Int) (ver : Nat) (write : Bool) (data : List Ent) (incs : List Nat) deriving DecidableEq
structure Txn where (id : Nat) (client : Int) (mans : List Int) (items : List Itm) deriving DecidableEq
structure Lck where (tx : Nat) (mans : List Int) (item : Itm) deriving DecidableEq
structure Vtd where (tx : Nat) (vote : Int) deriving DecidableEq
structure Cpy where (state : Int) (inc ver : Nat) (data : List Ent) (locks : List Lck) (fences : List Nat) (votes : List Vtd) deriving DecidableEq
structure Bal where (round node : Nat) deriving DecidableEq
structure Ins where (tx : Nat) (bucket replica : Int) (index : Nat) deriving DecidableEq
structure Acc where (is : Bool) (b : Bal) (value : ByteArray) deriving DecidableEq
structure Ans where (round inc ver : Nat) (data : List Ent) deriving DecidableEq
structure Ps where (hi lo : Nat) deriving DecidableEq
structure Per where (node : Int) (pos : Ps) deriving DecidableEq
structure Rc where (size0 size : Int) deriving DecidableEq
structure Dcr where (kind node by_ : Int) (arc : Rc) (count seen : Nat) deriving DecidableEq

abbrev four_ := num' 4 4294967295
abbrev eight := num' 8 18446744073709551615
abbrev node := whole 1 255
abbrev bucketC := whole 1 63
abbrev replC := whole 1 3
abbrev voteC := whole 1 2
theorem four_good : Good four_ := num_good 4 _ (by decide)
theorem eight_good : Good eight := num_good 8 _ (by decide)
theorem node_good : Good node := whole_good (by decide)
theorem bucket_good : Good bucketC := whole_good (by decide)
theorem repl_good : Good replC := whole_good (by decide)
theorem vote_good : Good voteC := whole_good (by decide)

def entC : Cod Ent := ((text 32).two (text 64)).map (fun x => ⟨x.1, x.2⟩) (fun e => (e.key, e.val)) fun _ => true
theorem ent_good : Good entC := ((text_good (by decide)).two (text_good (by decide))).map (fun _ _ _ => rfl) fun _ _ => ⟨rfl, rfl⟩
def entsC : Cod (List Ent) := list 8 entC
theorem ents_good : Good entsC := list_good (by decide) ent_good
/-- the data of an item that is written; else there are none -/
def dataC (b : Bool) : Cod (List Ent) := if b then entsC else skip [] (·.isEmpty)
theorem data_good (b : Bool) : Good (dataC b) := by
  cases b
  · exact skip_good fun a => by simp
  · exact ents_good
def itmC : Cod Itm := ((bucketC.two (four_.two (flag.dep fun b => (rep four_ 4).two (dataC b))))).map (fun x => ⟨x.1, x.2.1, x.2.2.1, x.2.2.2.2, x.2.2.2.1⟩) (fun i => (i.bucket, i.ver, i.write, i.incs, i.data)) fun _ => true
theorem itm_good : Good itmC := (bucket_good.two (four_good.two (flag_good.dep fun b => (rep_good four_good 4).two (data_good b)))).map (fun _ _ _ => rfl) fun _ _ => ⟨rfl, rfl⟩
def mansC : Cod (List Int) := rep node 3
theorem mans_good : Good mansC := rep_good node_good 3
def txC : Cod Txn := (eight.two ((whole 4 2147483647).two (mansC.two (list 8 itmC)))).map (fun x => ⟨x.1, x.2.1, x.2.2.1, x.2.2.2⟩) (fun t => (t.id, t.client, t.mans, t.items)) fun _ => true
theorem tx_good : Good txC := (eight_good.two ((whole_good (by decide)).two (mans_good.two (list_good (by decide) itm_good)))).map (fun _ _ _ => rfl) fun _ _ => ⟨rfl, rfl⟩
def lckC : Cod Lck := (eight.two (mansC.two itmC)).map (fun x => ⟨x.1, x.2.1, x.2.2⟩) (fun t => (t.tx, t.mans, t.item)) fun _ => true
theorem lck_good : Good lckC := (eight_good.two (mans_good.two itm_good)).map (fun _ _ _ => rfl) fun _ _ => ⟨rfl, rfl⟩
def vtdC : Cod Vtd := (eight.two voteC).map (fun x => ⟨x.1, x.2⟩) (fun t => (t.tx, t.vote)) fun _ => true
theorem vtd_good : Good vtdC := (eight_good.two vote_good).map (fun _ _ _ => rfl) fun _ _ => ⟨rfl, rfl⟩
def cpyC : Cod Cpy := (voteC.two (four_.two (four_.two (entsC.two ((list 64 lckC).two ((rep four_ 4).two (list 64 vtdC))))))).map (fun x => ⟨x.1, x.2.1, x.2.2.1, x.2.2.2.1, x.2.2.2.2.1, x.2.2.2.2.2.1, x.2.2.2.2.2.2⟩) (fun t => (t.state, t.inc, t.ver, t.data, t.locks, t.fences, t.votes)) fun _ => true
theorem cpy_good : Good cpyC := (vote_good.two (four_good.two (four_good.two (ents_good.two ((list_good (by decide) lck_good).two ((rep_good four_good 4).two (list_good (by decide) vtd_good))))))).map (fun _ _ _ => rfl) fun _ _ => ⟨rfl, rfl⟩
def balC : Cod Bal := (four_.two (num' 1 255)).map (fun x => ⟨x.1, x.2⟩) (fun t => (t.round, t.node)) fun _ => true
theorem bal_good : Good balC := (four_good.two (num_good 1 255 (by decide))).map (fun _ _ _ => rfl) fun _ _ => ⟨rfl, rfl⟩
def insC : Cod Ins := (eight.two (bucketC.two (replC.two four_))).map (fun x => ⟨x.1, x.2.1, x.2.2.1, x.2.2.2⟩) (fun t => (t.tx, t.bucket, t.replica, t.index)) fun _ => true
theorem ins_good : Good insC := (eight_good.two (bucket_good.two (repl_good.two four_good))).map (fun _ _ _ => rfl) fun _ _ => ⟨rfl, rfl⟩
/-- what was accepted, if it is; else zero -/
def heldC (b : Bool) : Cod (Bal × ByteArray) := if b then balC.two (text 64) else skip (⟨0, 0⟩, ByteArray.empty) fun x => decide (x = (⟨0, 0⟩, ByteArray.empty))
theorem held_good (b : Bool) : Good (heldC b) := by
  cases b
  · exact skip_good fun a => by simp
  · exact bal_good.two (text_good (by decide))
def accC : Cod Acc := (flag.dep heldC).map (fun x => ⟨x.1, x.2.1, x.2.2⟩) (fun t => (t.is, t.b, t.value)) fun _ => true
theorem acc_good : Good accC := (flag_good.dep held_good).map (fun _ _ _ => rfl) fun _ _ => ⟨rfl, rfl⟩
def ansC : Cod Ans := (four_.two (four_.two (four_.two entsC))).map (fun x => ⟨x.1, x.2.1, x.2.2.1, x.2.2.2⟩) (fun t => (t.round, t.inc, t.ver, t.data)) fun _ => true
theorem ans_good : Good ansC := (four_good.two (four_good.two (four_good.two ents_good))).map (fun _ _ _ => rfl) fun _ _ => ⟨rfl, rfl⟩
def posC : Cod Ps := (eight.two eight).map (fun x => ⟨x.1, x.2⟩) (fun t => (t.hi, t.lo)) fun _ => true
theorem pos_good : Good posC := (eight_good.two eight_good).map (fun _ _ _ => rfl) fun _ _ => ⟨rfl, rfl⟩
def perC : Cod Per := (node.two posC).map (fun x => ⟨x.1, x.2⟩) (fun t => (t.node, t.pos)) fun _ => true
theorem per_good : Good perC := (node_good.two pos_good).map (fun _ _ _ => rfl) fun _ _ => ⟨rfl, rfl⟩
def arcC : Cod Rc := (bucketC.two (whole 1 64)).map (fun x => ⟨x.1, x.2⟩) (fun t => (t.size0, t.size)) fun _ => true
theorem arc_good : Good arcC := (bucket_good.two (whole_good (by decide))).map (fun _ _ _ => rfl) fun _ _ => ⟨rfl, rfl⟩
def dcrC : Cod Dcr := ((whole 1 5).two (node.two (node.two (arcC.two (four_.two four_))))).map (fun x => ⟨x.1, x.2.1, x.2.2.1, x.2.2.2.1, x.2.2.2.2.1, x.2.2.2.2.2⟩) (fun t => (t.kind, t.node, t.by_, t.arc, t.count, t.seen)) fun _ => true
theorem dcr_good : Good dcrC := ((whole_good (by decide)).two (node_good.two (node_good.two (arc_good.two (four_good.two four_good))))).map (fun _ _ _ => rfl) fun _ _ => ⟨rfl, rfl⟩

end Go.Proofs.YtngcbpgafjnfaaaGreatDoor
