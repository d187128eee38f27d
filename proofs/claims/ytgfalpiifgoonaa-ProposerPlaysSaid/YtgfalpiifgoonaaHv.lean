/- What a learner has heard: plain facts for ProposerHeard. -/
import Derived.Test.YtgfalpiifgoonaaAny
import Derived.Lib.Strings
namespace Go.Proofs.Ytgfalpiifgoonaa
open Go.RowKit Go.Sort
set_option linter.unusedVariables false
set_option linter.unusedSectionVars false
set_option linter.unusedSimpArgs false
set_option maxRecDepth 100000

theorem str_eq (a b : ByteArray) : (a.toList == b.toList) = decide (a = b) := by
  rw [Lib.toList_data, Lib.toList_data]
  by_cases h : a = b
  · subst h; simp
  · rw [decide_eq_false h]
    have : ¬ a.data.toList = b.data.toList := fun e => h (ByteArray.ext (Array.ext' e))
    simpa using this
theorem str_ne {a b : ByteArray} (h : ¬ a = b) : (a.toList == b.toList) = false := by rw [str_eq, decide_eq_false h]
theorem cnt_shift : ∀ (n : Nat) (S : Nat → Bool), cnt (n + 1) S = (if S 0 then 1 else 0) + cnt n (fun j => S (j + 1))
  | 0, S => by rw [cnt_succ]; simp [cnt]
  | n + 1, S => by
    rw [cnt_succ, cnt_shift n S, cnt_succ]
    omega
theorem occ_cnt : ∀ (l : List Ac) (x : Ac), occ l x = cnt l.length (fun j => decide (l[j]? = some x))
  | [], x => rfl
  | y :: r, x => by
    rw [List.length_cons, cnt_shift]
    have := occ_cnt r x
    simp only [List.getElem?_cons_zero, List.getElem?_cons_succ, Option.some.injEq]
    rw [← this]
    simp only [occ, List.countP_cons, decide_eq_true_eq]
    omega
theorem cnt_sub : ∀ (m : Nat) (g : Nat → Bool) (N : Nat) (f : Nat → Bool), (∀ j, j < m → g j = true → j < N ∧ f j = true) → cnt m g ≤ cnt N f
  | 0, g, N, f, _ => by simp [cnt]
  | m + 1, g, N, f, h => by
    rw [cnt_succ]
    by_cases hg : g m = true
    · obtain ⟨h1, h2⟩ := h m (by omega) hg
      rw [cnt_wout N f m h1 h2]
      have := cnt_sub m g N (wout f m) fun j hj hgj => ⟨(h j (by omega) hgj).1, by
        have h3 := (h j (by omega) hgj).2
        unfold wout
        rw [if_neg (by omega)]; exact h3⟩
      simp [hg]; omega
    · have := cnt_sub m g N f fun j hj => h j (by omega)
      simp [hg]; omega
/-- the ways of Accepted -/
theorem accL_cases {n : Nat} {s : Lst} {k : Nat} {b : Bl} {v : ByteArray} (hf : s.Fit) :
    (s.ch.is = true ∧ accL n s (k : Int) b v = ⟨s, nov, false⟩) ∨
    (s.ch = a0 ∧ ∃ s' : Lst, accL n s (k : Int) b v = ⟨s', nov, false⟩ ∧ s'.ch = a0 ∧ (s' = s ∨ s'.last = s.last.set k ⟨true, b, v⟩)) ∨
    (s.ch = a0 ∧ accL n s (k : Int) b v = ⟨⟨none9, ⟨true, b, v⟩⟩, v, true⟩ ∧ n < 2 * occ (s.last.set k ⟨true, b, v⟩) ⟨true, b, v⟩) := by
  unfold accL
  by_cases h1 : s.ch.is = true
  · exact .inl ⟨h1, by rw [if_pos (.inl h1)]⟩
  · have hc : s.ch = a0 := by
      rcases hf with h | h
      · exact h
      · exact absurd h h1
    refine .inr ?_
    by_cases h2 : s.ch.is = true ∨ (k : Int) < 0 ∨ (n : Int) ≤ (k : Int)
    · rw [if_pos h2]
      exact .inl ⟨hc, s, rfl, hc, .inl rfl⟩
    · rw [if_neg h2]
      simp only [Int.toNat_natCast]
      cases hq : s.last[k]? with
      | none => exact .inl ⟨hc, s, rfl, hc, .inl rfl⟩
      | some old =>
        simp only
        split
        · exact .inl ⟨hc, s, rfl, hc, .inl rfl⟩
        · split
          · rename_i h3
            exact .inr ⟨hc, rfl, h3⟩
          · exact .inl ⟨hc, _, rfl, rfl, .inr rfl⟩
/-- what a learner's last messages come from -/
def HV (sc : Nat → Opn) (N : Nat) (s : Lst) (k : Nat) : Prop := s.Fit ∧ ∀ (j : Nat) (x : Ac), s.last[j]? = some x → x.is = true → ∃ i, i < k ∧ pk (sc i).from_ N = j ∧ (sc i).v = x.v
theorem HV.zero (sc : Nat → Opn) (N : Nat) : HV sc N ⟨none9, a0⟩ 0 := ⟨.inl rfl, fun j x h1 h2 => by
  have := List.mem_of_getElem? h1
  rw [List.mem_replicate] at this
  rw [this.2] at h2; cases h2⟩
theorem HV.same {sc : Nat → Opn} {N k : Nat} {s : Lst} (h : HV sc N s k) : HV sc N s (k + 1) := ⟨h.1, fun j x h1 h2 => by
  obtain ⟨i, h3, h4⟩ := h.2 j x h1 h2
  exact ⟨i, by omega, h4⟩⟩
theorem last_set {sc : Nat → Opn} {N k : Nat} {s : Lst} (h : HV sc N s k) (b : Bl) (j : Nat) (x : Ac) (h1 : (s.last.set (pk (sc k).from_ N) ⟨true, b, (sc k).v⟩)[j]? = some x) (h2 : x.is = true) : ∃ i, i < k + 1 ∧ pk (sc i).from_ N = j ∧ (sc i).v = x.v := by
  by_cases e : pk (sc k).from_ N = j
  · by_cases hl : j < s.last.length
    · rw [e, List.getElem?_set_self hl] at h1
      cases h1
      exact ⟨k, by omega, e, rfl⟩
    · rw [List.getElem?_eq_none (by rw [List.length_set]; omega)] at h1
      cases h1
  · rw [List.getElem?_set_ne e] at h1
    obtain ⟨i, h3, h4⟩ := h.2 j x h1 h2
    exact ⟨i, by omega, h4⟩
theorem HV.more {sc : Nat → Opn} {N k : Nat} {s s' : Lst} (h : HV sc N s k) (b : Bl) (hc : s'.ch = a0) (hs : s' = s ∨ s'.last = s.last.set (pk (sc k).from_ N) ⟨true, b, (sc k).v⟩) : HV sc N s' (k + 1) := by
  refine ⟨.inl hc, fun j x h1 h2 => ?_⟩
  rcases hs with rfl | hs
  · obtain ⟨i, h3, h4⟩ := h.2 j x h1 h2
    exact ⟨i, by omega, h4⟩
  · rw [hs] at h1
    exact last_set h b j x h1 h2
theorem HV.chosen (sc : Nat → Opn) (N : Nat) (a : Ac) (ha : a.is = true) (k : Nat) : HV sc N ⟨none9, a⟩ k := ⟨.inr ha, fun j x h1 h2 => by
  have := List.mem_of_getElem? h1
  rw [List.mem_replicate] at this
  rw [this.2] at h2; cases h2⟩
/-- who has told v, among the first q steps -/
def byF (sc : Nat → Opn) (N : Nat) (v : ByteArray) : Nat → Nat → Bool
  | 0, _ => false
  | q + 1, j => if (sc q).v = v then (if j = pk (sc q).from_ N then true else byF sc N v q j) else byF sc N v q j
theorem byF_of {sc : Nat → Opn} {N : Nat} {v : ByteArray} : ∀ {q i : Nat}, i < q → (sc i).v = v → byF sc N v q (pk (sc i).from_ N) = true
  | 0, i, h, _ => by omega
  | q + 1, i, h, hv => by
    unfold byF
    by_cases e : i = q
    · subst e; simp [hv]
    · have := byF_of (N := N) (q := q) (i := i) (by omega) hv
      split
      · split
        · rfl
        · exact this
      · exact this
/-- more than half have told it -/
theorem HV.half {sc : Nat → Opn} {N k : Nat} {s : Lst} (h : HV sc N s k) (hN : 1 ≤ N) (b : Bl) (hl : s.last.length = 9) (hm : N < 2 * occ (s.last.set (pk (sc k).from_ N) ⟨true, b, (sc k).v⟩) ⟨true, b, (sc k).v⟩) : N < 2 * cnt N (byF sc N (sc k).v (k + 1)) := by
  have h1 : occ (s.last.set (pk (sc k).from_ N) ⟨true, b, (sc k).v⟩) ⟨true, b, (sc k).v⟩ ≤ cnt N (byF sc N (sc k).v (k + 1)) := by
    rw [occ_cnt]
    refine cnt_sub _ _ _ _ fun j hj hg => ?_
    obtain ⟨i, h3, h4, h5⟩ := last_set h b j _ (of_decide_eq_true hg) rfl
    rw [← h4]
    exact ⟨pk_lt _ hN, byF_of h3 h5⟩
  omega
/-- nine bools -/
def b9 (f : Nat → Bool) : List Value := (List.range 9).map fun j => .bool (f j)
abbrev Row9 (w : World) (bx : Nat) (f : Nat → Bool) : Prop := w.heap[bx]? = some (.cells ⟨b9 f⟩ 77 (0, 0))
section
variable {w w' : World} {bx : Nat} {f : Nat → Bool}
theorem Row9.lt (h : Row9 w bx f) : bx < w.heap.size := (Array.getElem?_eq_some_iff.1 h).1
theorem Row9.below (h : Row9 w bx f) (b : Below w.heap.size w w') : Row9 w' bx f := (b.block bx (Row9.lt h)).trans h
theorem Row9.at_ (h : Row9 w bx f) (j : Nat) (hj : j < 9) : w.cell? ⟨bx, j, none⟩ = some (.bool (f j)) ∧ w.frozen? ⟨bx, j, none⟩ = false := by
  refine ⟨?_, frozen_of_row w bx j _ _ h⟩
  rw [cell_of_row w bx j _ _ (0, 0) h]
  simp [b9, hj]
theorem b9_set (f : Nat → Bool) (j : Nat) (hj : j < 9) : (b9 f).set j (.bool true) = b9 (fun i => if i = j then true else f i) := by
  apply List.ext_getElem?
  intro i
  unfold b9
  by_cases e : j = i
  · subst e
    rw [List.getElem?_set_self (by simp; omega)]
    simp [hj]
  · rw [List.getElem?_set_ne e]
    by_cases h : i < 9
    · have e2 : ¬ i = j := fun h => e h.symm
      simp [h, e2]
    · rw [List.getElem?_eq_none (by simp; omega), List.getElem?_eq_none (by simp; omega)]
theorem Row9.set (h : Row9 w bx f) (j : Nat) (hj : j < 9) : Row9 (w.setCell ⟨bx, j, none⟩ (.bool true)) bx (fun i => if i = j then true else f i) := by
  have h1 : (w.setCell ⟨bx, j, none⟩ (.bool true)).heap[bx]? = some _ := heap_setCell_same w bx j _ _ _ h
  rw [List.setIfInBounds_toArray, b9_set f j hj] at h1
  exact h1
end
end Go.Proofs.Ytgfalpiifgoonaa
