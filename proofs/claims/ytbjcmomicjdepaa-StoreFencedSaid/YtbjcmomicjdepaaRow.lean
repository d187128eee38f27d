/- Rows that the call made, of elements of any size. -/
import Derived.Test.YtbjcmomicjdepaaBi
namespace Go.Proofs.Ytbjcmomicjdepaa
open Go.RowKit Go.Sort
set_option linter.unusedVariables false

/-- the cells of a list -/
def fl {α : Type} (c : α → List Value) (l : List α) : List Value := l.flatMap c
section
variable {α : Type} {c : α → List Value} {z : Nat}
theorem fl_len (hz : ∀ t, (c t).length = z) : ∀ l : List α, (fl c l).length = l.length * z
  | [] => by simp [fl]
  | x :: r => by
    have := fl_len hz r
    simp only [fl, List.flatMap_cons, List.length_append, List.length_cons, hz] at this ⊢
    rw [this, Nat.add_mul]; omega
theorem fl_app (l m : List α) : fl c (l ++ m) = fl c l ++ fl c m := by simp [fl]
theorem fl_one (x : α) : fl c [x] = c x := by simp [fl]
theorem fl_at (hz : ∀ t, (c t).length = z) : ∀ (l : List α) (j i : Nat), i < z → (fl c l)[j * z + i]? = l[j]?.bind fun t => (c t)[i]?
  | [], j, i, h => by simp [fl]
  | x :: r, 0, i, h => by
    simp only [fl, List.flatMap_cons, Nat.zero_mul, Nat.zero_add]
    rw [List.getElem?_append_left (by rw [hz]; exact h)]
    simp
  | x :: r, j + 1, i, h => by
    have := fl_at hz r j i h
    simp only [fl, List.flatMap_cons] at this ⊢
    rw [List.getElem?_append_right (by rw [hz, Nat.add_mul]; omega), hz]
    rw [show (j + 1) * z + i - z = j * z + i by rw [Nat.add_mul]; omega, this]
    simp
theorem fl_take (hz : ∀ t, (c t).length = z) : ∀ (l : List α) (n : Nat), (fl c l).take (n * z) = fl c (l.take n)
  | [], n => by simp [fl]
  | x :: r, 0 => by simp [fl]
  | x :: r, n + 1 => by
    have := fl_take hz r n
    simp only [fl, List.flatMap_cons, List.take_succ_cons] at this ⊢
    rw [List.take_append, hz, show (n + 1) * z - z = n * z by rw [Nat.add_mul]; omega, this, List.take_of_length_le (by rw [hz, Nat.add_mul]; omega)]
/-- element j is laid anew -/
theorem fl_set (hz : ∀ t, (c t).length = z) (l : List α) (j : Nat) (x : α) (xs : List Value) (hl : xs.length = (fl c l).length) (hj : j < l.length) (h1 : ∀ i, i < z → xs[j * z + i]? = (c x)[i]?) (h2 : ∀ q, (q < j * z ∨ j * z + z ≤ q) → xs[q]? = (fl c l)[q]?) :
    xs = fl c (l.set j x) := by
  have hlen := fl_len hz l
  apply List.ext_getElem?
  intro q
  by_cases hz0 : z = 0
  · have : (fl c (l.set j x)).length = 0 := by rw [fl_len hz]; simp [hz0]
    rw [List.getElem?_eq_none (by rw [hl, hlen, hz0]; omega), List.getElem?_eq_none (by omega)]
  · have hq : q = q / z * z + q % z := by have := Nat.div_add_mod q z; rw [Nat.mul_comm] at this; omega
    have hm : q % z < z := Nat.mod_lt _ (by omega)
    generalize q / z = k at hq
    generalize q % z = i at hq hm
    subst hq
    rw [fl_at hz _ _ _ hm]
    by_cases e : k = j
    · subst e
      rw [h1 i hm]; simp [hj]
    · rw [h2 (k * z + i) (by
        rcases Nat.lt_or_gt_of_ne e with h | h
        · have : (k + 1) * z ≤ j * z := Nat.mul_le_mul_right z h
          rw [Nat.add_mul] at this; omega
        · have : (j + 1) * z ≤ k * z := Nat.mul_le_mul_right z h
          rw [Nat.add_mul] at this; omega), fl_at hz _ _ _ hm, List.getElem?_set_ne (Ne.symm e)]
end
/-! ### rows -/
section
variable {w w' : World} {B : Nat} {e : TypeId} {z : Nat} {v : Value} {n : Nat} {xs : List Value}
theorem owns_keep {S : List Nat} (h : w.ownsRow B e z v n xs) (k : Keep S w w') (hn : ∀ g, v.ownBlock = some g → g ∉ S) : w'.ownsRow B e z v n xs := by
  refine ⟨h.1, ?_⟩
  rcases h.2 with h2 | ⟨g, cap, cur, rfl, hb, hg, h3⟩
  · exact .inl h2
  · exact .inr ⟨g, cap, cur, rfl, hb, (k.block g (Array.getElem?_eq_some_iff.1 hg).1 (hn g rfl)).trans hg, h3⟩
theorem owns_base {B' : Nat} (h : w.ownsRow B e z v n xs) (hb : B' ≤ B) : w.ownsRow B' e z v n xs := by
  refine ⟨h.1, ?_⟩
  rcases h.2 with h2 | ⟨g, cap, cur, rfl, hb2, hg, h3⟩
  · exact .inl h2
  · exact .inr ⟨g, cap, cur, rfl, by omega, hg, h3⟩
theorem owns_shape (h : w.ownsRow B e z v n xs) : ∃ ao cap, v = .slice ao n cap ∧ n ≤ cap ∧ cap ≤ maxLen := by
  rcases h.2 with ⟨rfl, rfl⟩ | ⟨g, cap, cur, rfl, _, _, h1, h2, _⟩
  · exact ⟨none, 0, rfl, Nat.le_refl _, Nat.zero_le _⟩
  · exact ⟨_, cap, rfl, h1, h2⟩
theorem owns_blk {ao : Option Addr} {m cap : Nat} (h : w.ownsRow B e z (.slice ao m cap) n xs) : ∀ g ∈ blk ao, B ≤ g ∧ g < w.heap.size := by
  intro g hg
  rcases h.2 with ⟨h2, _⟩ | ⟨g', cap', cur, h2, hb, hg', _⟩
  · cases h2; simp [blk] at hg
  · cases h2
    simp [blk] at hg; subst hg
    exact ⟨hb, (Array.getElem?_eq_some_iff.1 hg').1⟩
theorem owns_none {ao : Option Addr} {m cap : Nat} (h : w.ownsRow B e z (.slice ao m cap) n xs) (h0 : 0 < n) : ∃ g, ao = some ⟨g, 0, none⟩ ∧ m = n ∧ n ≤ cap ∧ B ≤ g ∧ g < w.heap.size := by
  rcases h.2 with ⟨h2, h3⟩ | ⟨g', cap', cur, h2, hb, hg', h3, _⟩
  · omega
  · cases h2
    exact ⟨g', rfl, rfl, h3, hb, (Array.getElem?_eq_some_iff.1 hg').1⟩
/-- a shorter slice of the same row -/
theorem owns_take {ao : Option Addr} {cap : Nat} (h : w.ownsRow B e z (.slice ao n cap) n xs) (k : Nat) (hk : k ≤ n) : w.ownsRow B e z (.slice ao k cap) k (xs.take (k * z)) := by
  have h1 := h.1
  have hkz : k * z ≤ n * z := Nat.mul_le_mul_right z hk
  refine ⟨by rw [List.length_take]; omega, ?_⟩
  rcases h.2 with ⟨h2, h3⟩ | ⟨g', cap', cur, h2, hb, hg', h3, h4, h5, h6⟩
  · cases h2
    obtain rfl : k = 0 := by omega
    exact .inl ⟨rfl, rfl⟩
  · cases h2
    refine .inr ⟨g', cap, cur, rfl, hb, hg', by omega, h4, h5, ?_⟩
    rw [← h6, List.take_take, Nat.min_eq_left hkz]
end
theorem blk_own (ao : Option Addr) (n cap : Nat) {S : List Nat} (h : ∀ g ∈ blk ao, g ∉ S) : ∀ g, (Value.slice ao n cap).ownBlock = some g → g ∉ S := by
  intro g hg
  cases ao with
  | none => cases hg
  | some a => simp [Value.ownBlock] at hg; exact hg ▸ h _ (by simp [blk])
theorem keep_grown {w w' : World} {ao : Option Addr} {n cap : Nat} (h : w.grownBy w' (Value.slice ao n cap).ownBlock) : Keep (blk ao) w w' :=
  ⟨h.os, h.tape, h.output, h.size, fun k hk hn => h.block k hk fun e => by
    cases ao with
    | none => cases e
    | some a => simp [Value.ownBlock] at e; exact hn (by simp [blk, e])⟩

section
variable {w : World} {B n cap : Nat} {e : TypeId} {ao : Option Addr} {xs : List Value}
theorem owns_cell1 (ho : w.ownsRow B e 1 (.slice ao n cap) n xs) (j : Nat) (hj : j < n) : ∃ g v, ao = some ⟨g, 0, none⟩ ∧ g < w.heap.size ∧ B ≤ g ∧ xs[j]? = some v ∧ w.cell? ⟨g, j, none⟩ = some v ∧ w.frozen? ⟨g, j, none⟩ = false := by
  have hl := ho.1
  rcases ho.2 with ⟨h2, h3⟩ | ⟨g, cap', cur, h2, hb, hg, h3, h4, h5, h6⟩
  · omega
  · cases h2
    have hj2 : j < xs.length := by omega
    refine ⟨g, xs[j], rfl, (Array.getElem?_eq_some_iff.1 hg).1, hb, List.getElem?_eq_getElem hj2, ?_, frozen_of_row w g j cur _ hg⟩
    rw [cell_of_row w g j cur _ (0, 0) hg]
    have := congrArg (·[j]?) h6
    simp only [List.getElem?_take, Nat.mul_one] at this
    rw [if_pos (by omega), Array.getElem?_toList] at this
    rw [this, List.getElem?_eq_getElem hj2]
theorem owns_put1 {g : Nat} (ho : w.ownsRow B e 1 (.slice (some ⟨g, 0, none⟩) n cap) n xs) (j : Nat) (hj : j < n) (v : Value) : (w.setCell ⟨g, j, none⟩ v).ownsRow B e 1 (.slice (some ⟨g, 0, none⟩) n cap) n (xs.set j v) := by
  refine ⟨by rw [List.length_set]; exact ho.1, ?_⟩
  rcases ho.2 with ⟨h2, h3⟩ | ⟨g', cap', cur, h2, hb, hg, h3, h4, h5, h6⟩
  · omega
  · cases h2
    refine .inr ⟨g, cap, cur.setIfInBounds j v, rfl, hb, heap_setCell_same w g j cur _ _ hg, h3, h4, by simpa using h5, ?_⟩
    rw [← h6]
    apply List.ext_getElem?
    intro k
    rw [List.getElem?_take]
    by_cases hk : k < n * 1
    · rw [if_pos hk, Array.getElem?_toList]
      by_cases ek : k = j
      · subst ek
        rw [Array.getElem?_setIfInBounds_self_of_lt (by omega), List.getElem?_set_self (by rw [List.length_take, Array.length_toList]; omega)]
      · rw [Array.getElem?_setIfInBounds_ne (by omega), List.getElem?_set_ne (by omega), List.getElem?_take, if_pos hk, Array.getElem?_toList]
    · rw [if_neg hk, List.getElem?_eq_none (by rw [List.length_set, List.length_take]; omega)]
end

theorem info_parts {P : Program} {e : TypeId} {z : Value} {n b : Nat} (h : (P.info? e).map (fun i => (i.zero, i.size, i.bytes)) = some (some z, n, b)) : ∃ i0, P.info? e = some i0 ∧ i0.zero = some z ∧ i0.size = n ∧ i0.bytes = b := by
  cases hq : P.info? e with
  | none => rw [hq] at h; cases h
  | some i => rw [hq] at h; simp at h; exact ⟨i, rfl, h.1, h.2.1, h.2.2⟩
theorem int_info : (Try.prog.info? 3).map (fun i => (i.zero, i.size, i.bytes)) = some (some (.int .i64 0), 1, 8) := by kernel_rfl
theorem one_i64 (x : Int) : ∀ u ∈ [Value.int .i64 x], u.oneCell' = true := by intro u hu; simp at hu; subst hu; rfl
theorem cell_one (w : World) (x : Value) (t : TypeId) : ∀ (j : Nat) (u : Value), [x][j]? = some u → (w.alloc (.cells #[x] t)).cell? ((⟨w.heap.size, 0, none⟩ : Addr).add j) = some u := by
  intro j u hu
  have hj := (List.getElem?_eq_some_iff.1 hu).1
  obtain rfl : j = 0 := by simp at hj; omega
  simp at hu; subst hu
  show World.cell? _ ⟨w.heap.size, 0, none⟩ = _
  rw [World.cell?_alloc_at _ _ _ _ rfl]; rfl
theorem grown_of_below {w w' : World} (b : Below w.heap.size w w') : w.grownBy w' none := ⟨b.os, b.tape, b.output, b.size, fun i hi _ => b.block i hi⟩
theorem below_alloc' {w w1 : World} {B : Nat} (h : Below B w w1) (hB : B ≤ w1.heap.size) (o : Obj) : Below B w (w1.alloc o) := h.trans ((below_alloc (Below.refl w1.heap.size w1) o).mono hB)
/-- what grows in a block from B on only -/
theorem below_grown {w w1 w2 : World} {B : Nat} {v : Value} (h : Below B w w1) (hB : B ≤ w1.heap.size) (hg : w1.grownBy w2 v.ownBlock) (hv : ∀ g, v.ownBlock = some g → B ≤ g) : Below B w w2 :=
  h.trans ⟨hg.os, hg.tape, hg.output, hg.size, fun k hk => hg.block k (by omega) (fun e => by have := hv k e.symm; omega)⟩
/-- what turns from block B on only -/
theorem keep_from {w w' : World} {B : Nat} (h : Below B w w') : Keep ((List.range w.heap.size).filter fun q => decide (B ≤ q)) w w' :=
  ⟨h.os, h.tape, h.output, h.size, fun k hk hn => h.block k (Nat.lt_of_not_le fun hb => hn (by simp [hk, hb]))⟩
theorem not_from {n B q : Nat} (h : q < B) : q ∉ (List.range n).filter fun q => decide (B ≤ q) := by simp; omega
end Go.Proofs.Ytbjcmomicjdepaa
