/- Heaps with a hole, in plain Lean; the least timer. -/
import Derived.Test.YtkhfbnlmjnbhmaaTm
namespace Go.Proofs.Ytkhfbnlmjnbhmaa
open Go.RowKit
set_option linter.unusedVariables false

theorem nb_trans {a b c : Tm} (h1 : bef a b = false) (h2 : bef b c = false) : bef a c = false := by
  rw [bef_not] at *; omega
theorem nb_of {a b c : Tm} (h1 : bef a b = false) (h2 : bef c b = true) : bef a c = false := by
  rw [bef_not] at *; rw [bef_iff] at h2; omega
theorem nb_refl (a : Tm) : bef a a = false := by rw [bef_not]; omega
theorem nb_asym {a b : Tm} (h : bef a b = true) : bef b a = false := by rw [bef_not]; rw [bef_iff] at h; omega

/-- none is before the one above it -/
def Hp (l : List Tm) : Prop := ∀ k, 0 < k → k < l.length → bef (tm l k) (tm l ((k - 1) / 2)) = false
/-- so with a hole at h -/
structure HH (l : List Tm) (h : Nat) : Prop where
  far : ∀ k, 0 < k → k < l.length → k ≠ h → (k - 1) / 2 ≠ h → bef (tm l k) (tm l ((k - 1) / 2)) = false
  near : ∀ k, 0 < k → k < l.length → (k - 1) / 2 = h → 0 < h → bef (tm l k) (tm l ((h - 1) / 2)) = false
theorem Hp.hole {l : List Tm} (h : Hp l) (i : Nat) (hi : i < l.length) : HH l i :=
  ⟨fun k h0 h1 _ _ => h k h0 h1, fun k h0 h1 e h2 => by subst e; exact nb_trans (h k h0 h1) (h _ h2 hi)⟩
theorem HH.rise {l : List Tm} {i : Nat} (h : HH l i) (h0 : 0 < i) (h1 : i < l.length) : HH (l.set i (tm l ((i - 1) / 2))) ((i - 1) / 2) := by
  have hp : (i - 1) / 2 < i := by omega
  refine ⟨fun k k0 k1 kn kp => ?_, fun k k0 k1 kp p0 => ?_⟩
  · rw [List.length_set] at k1
    rw [tm_set _ _ _ _ h1, tm_set _ _ _ _ h1, if_neg (by omega)]
    by_cases e : (k - 1) / 2 = i
    · rw [if_pos e]; exact h.near k k0 k1 e h0
    · rw [if_neg e]; exact h.far k k0 k1 (by omega) e
  · rw [List.length_set] at k1
    rw [tm_set _ _ _ _ h1, tm_set _ _ _ _ h1, if_neg (show ((i - 1) / 2 - 1) / 2 ≠ i by omega)]
    by_cases e : k = i
    · rw [if_pos e]; exact h.far _ p0 (by omega) (by omega) (by omega)
    · rw [if_neg e]
      have a1 := h.far k k0 k1 e (by omega)
      rw [kp] at a1
      exact nb_trans a1 (h.far _ p0 (by omega) (by omega) (by omega))
theorem HH.sink {l : List Tm} {i b : Nat} (h : HH l i) (h1 : b < l.length) (hb0 : 0 < b) (hb : (b - 1) / 2 = i) (hm : ∀ k, 0 < k → k < l.length → (k - 1) / 2 = i → bef (tm l k) (tm l b) = false) : HH (l.set i (tm l b)) b := by
  have hi : i < l.length := by omega
  refine ⟨fun k k0 k1 kn kp => ?_, fun k k0 k1 kp p0 => ?_⟩
  · rw [List.length_set] at k1
    rw [tm_set _ _ _ _ hi, tm_set _ _ _ _ hi]
    by_cases e : k = i
    · rw [if_pos e, if_neg (by omega)]
      subst e
      exact h.near b hb0 h1 hb k0
    · rw [if_neg e]
      by_cases e2 : (k - 1) / 2 = i
      · rw [if_pos e2]; exact hm k k0 k1 e2
      · rw [if_neg e2]; exact h.far k k0 k1 e e2
  · rw [List.length_set] at k1
    rw [tm_set _ _ _ _ hi, tm_set _ _ _ _ hi, if_neg (by omega), if_pos hb]
    have a1 := h.far k k0 k1 (by omega) (by omega)
    rwa [kp] at a1
theorem HH.fill {l : List Tm} {i : Nat} {t : Tm} (h : HH l i) (hi : i < l.length) (hup : i = 0 ∨ bef t (tm l ((i - 1) / 2)) = false) (hdn : ∀ k, 0 < k → k < l.length → (k - 1) / 2 = i → bef (tm l k) t = false) : Hp (l.set i t) := by
  intro k k0 k1
  rw [List.length_set] at k1
  rw [tm_set _ _ _ _ hi, tm_set _ _ _ _ hi]
  by_cases e : k = i
  · subst e
    rw [if_pos rfl, if_neg (by omega)]
    rcases hup with h | h
    · omega
    · exact h
  · rw [if_neg e]
    by_cases e2 : (k - 1) / 2 = i
    · rw [if_pos e2]; exact hdn k k0 k1 e2
    · rw [if_neg e2]; exact h.far k k0 k1 e e2
/-- the first is before all -/
theorem Hp.top {l : List Tm} (h : Hp l) : ∀ k, k < l.length → bef (tm l k) (tm l 0) = false := by
  intro k
  induction k using Nat.strongRecOn with
  | ind k ih =>
    intro hk
    by_cases e : k = 0
    · subst e; exact nb_refl _
    · exact nb_trans (h k (by omega) hk) (ih _ (by omega) (by omega))
theorem Hp.take {l : List Tm} (h : Hp l) (n : Nat) : Hp (l.take n) := by
  intro k k0 k1
  rw [List.length_take] at k1
  rw [tm_take (by omega), tm_take (by omega)]
  exact h k k0 (by omega)
theorem HH.of_app {l : List Tm} (h : Hp l) (t : Tm) : HH (l ++ [t]) l.length := by
  refine ⟨fun k k0 k1 kn kp => ?_, fun k k0 k1 kp p0 => ?_⟩
  · simp at k1
    rw [tm_app_left (by omega), tm_app_left (by omega)]
    exact h k k0 (by omega)
  · simp at k1; omega

/-- a hole that moves -/
theorem perm_move (l : List Tm) (i p : Nat) (t : Tm) (hi : i < l.length) (hp : p < l.length) (hne : i ≠ p) : ((l.set i (tm l p)).set p t).Perm (l.set i t) := by
  rw [List.perm_iff_count]
  intro a
  have e1 : (l.set i (tm l p))[p]'(by simpa using hp) = l[p] := by rw [List.getElem_set_ne hne]
  have e2 : tm l p = l[p] := by simp [tm, hp]
  rw [List.count_set (by simpa using hp), e1, List.count_set hi, List.count_set hi, e2]
  have c1 : List.count (l[i]) l > 0 := List.count_pos_iff.2 (List.getElem_mem hi)
  have c2 : List.count (l[p]) l > 0 := List.count_pos_iff.2 (List.getElem_mem hp)
  by_cases h1 : (l[i] == a) <;> by_cases h2 : (l[p] == a) <;> by_cases h3 : (t == a) <;> simp only [h1, h2, h3, if_true, if_false, Bool.false_eq_true] <;> (try omega)
  all_goals
    simp only [beq_iff_eq] at h1 h2
    first
      | (rw [h1] at c1; omega)
      | (rw [h2] at c2; omega)
theorem perm_drop (l : List Tm) (i : Nat) (hi : i < l.length) : (l.set i (tm l (l.length - 1))).take (l.length - 1) = (l.take (l.length - 1)).set i (tm l (l.length - 1)) := by
  rw [List.take_set]

/-! ### the least -/
structure Min (S : List Tm) (x : Tm) : Prop where
  mem : x ∈ S
  le : ∀ y ∈ S, bef y x = false
def minOf : List Tm → Option Tm
  | [] => none
  | x :: r => match minOf r with
    | none => some x
    | some y => if bef y x then some y else some x
theorem minOf_none : ∀ {S : List Tm}, minOf S = none → S = []
  | [], _ => rfl
  | x :: r, h => by
    simp only [minOf] at h
    split at h
    · cases h
    · split at h <;> cases h
theorem minOf_min : ∀ {S : List Tm} {x : Tm}, minOf S = some x → Min S x
  | [], x, h => by simp [minOf] at h
  | y :: r, x, h => by
    simp only [minOf] at h
    split at h
    · rename_i e
      cases h
      rw [minOf_none e]
      exact ⟨by simp, by simpa using nb_refl _⟩
    · rename_i z e
      have m := minOf_min e
      split at h
      · rename_i hb
        cases h
        refine ⟨List.mem_cons_of_mem _ m.mem, fun q hq => ?_⟩
        rcases List.mem_cons.1 hq with rfl | hq
        · exact nb_asym hb
        · exact m.le q hq
      · rename_i hb
        cases h
        refine ⟨by simp, fun q hq => ?_⟩
        rcases List.mem_cons.1 hq with rfl | hq
        · exact nb_refl _
        · exact nb_trans (m.le q hq) (by simpa using hb)
/-- serials are distinct -/
abbrev Dist (S : List Tm) : Prop := S.Pairwise fun a b => a.1 ≠ b.1 ∧ a.2.2 < b.2.2
theorem Dist.uniq {S : List Tm} (h : Dist S) {a b : Tm} (ha : a ∈ S) (hb : b ∈ S) (e : a.2.2 = b.2.2) : a = b := by
  induction h with
  | nil => cases ha
  | cons h1 _ ih =>
    rcases List.mem_cons.1 ha with rfl | ha' <;> rcases List.mem_cons.1 hb with rfl | hb'
    · rfl
    · have := (h1 _ hb').2; omega
    · have := (h1 _ ha').2; omega
    · exact ih ha' hb'
theorem Dist.uniqId {S : List Tm} (h : Dist S) {a b : Tm} (ha : a ∈ S) (hb : b ∈ S) (e : a.1 = b.1) : a = b := by
  induction h with
  | nil => cases ha
  | cons h1 _ ih =>
    rcases List.mem_cons.1 ha with rfl | ha' <;> rcases List.mem_cons.1 hb with rfl | hb'
    · rfl
    · exact absurd e (h1 _ hb').1
    · exact absurd e.symm (h1 _ ha').1
    · exact ih ha' hb'
theorem Min.uniq {S : List Tm} (h : Dist S) {a b : Tm} (ha : Min S a) (hb : Min S b) : a = b := by
  refine h.uniq ha.mem hb.mem ?_
  have h1 := ha.le b hb.mem
  have h2 := hb.le a ha.mem
  rw [bef_not] at h1 h2
  omega
theorem Min.minOf {S : List Tm} (h : Dist S) {a : Tm} (ha : Min S a) : minOf S = some a := by
  cases e : Go.Proofs.Ytkhfbnlmjnbhmaa.minOf S with
  | none => rw [minOf_none e] at ha; exact absurd ha.mem (by simp)
  | some b => rw [Min.uniq h ha (minOf_min e)]
/-- without a number -/
def wo (S : List Tm) (id : Nat) : List Tm := S.filter fun t => t.1 != id
theorem wo_mem {S : List Tm} {id : Nat} {t : Tm} : t ∈ wo S id ↔ t ∈ S ∧ t.1 ≠ id := by simp [wo]
theorem dist_wo {S : List Tm} (h : Dist S) (id : Nat) : Dist (wo S id) := List.Pairwise.filter _ h
theorem wo_none {S : List Tm} {id : Nat} (h : ∀ t ∈ S, t.1 ≠ id) : wo S id = S := by
  unfold wo; rw [List.filter_eq_self]; simpa using h
theorem wo_len {S : List Tm} (h : Dist S) {x : Tm} (hx : x ∈ S) : (wo S x.1).length + 1 = S.length := by
  induction h with
  | nil => cases hx
  | @cons a r h1 h2 ih =>
    rcases List.mem_cons.1 hx with rfl | hx'
    · have : wo r x.1 = r := wo_none fun t ht => Ne.symm (h1 t ht).1
      unfold wo at this ⊢
      rw [List.filter_cons, if_neg (by simp), this]; simp
    · have := ih hx'
      unfold wo at this ⊢
      rw [List.filter_cons, if_pos (by simpa using (h1 _ hx').1)]
      simp only [List.length_cons]; omega
/-- all that are due, in order; and what is left -/
def dues (now : Nat) : Nat → List Tm → List Tm × List Tm
  | 0, S => ([], S)
  | n + 1, S => match minOf S with
    | none => ([], S)
    | some x => if x.2.1 ≤ now then (x :: (dues now n (wo S x.1)).1, (dues now n (wo S x.1)).2) else ([], S)
end Go.Proofs.Ytkhfbnlmjnbhmaa
