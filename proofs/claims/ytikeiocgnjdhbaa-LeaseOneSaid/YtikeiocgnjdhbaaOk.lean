/- Tables stay as they should be. -/
import Derived.Test.YtikeiocgnjdhbaaWh
namespace Go.Proofs.Ytikeiocgnjdhbaa
open Go.RowKit Go.Sort
set_option linter.unusedVariables false
set_option linter.unusedSimpArgs false
set_option maxRecDepth 100000

theorem refuse_facts {T : Tb} {D : Dc} (h : refuse T D = 0) : (T.m D.node.toNat = !decide (D.kind = 4)) ∧ (D.kind = 1 → D.cnt = T.r D.node.toNat + 1) ∧ (D.kind = 5 → hasAny T D.node = false) ∧ (D.kind = 2 ∨ D.kind = 3 → arcNo T D = 0) := by
  unfold refuse at h
  split at h
  · cases h
  · split at h
    · cases h
    · rename_i hm
      have hm' : T.m D.node.toNat = !decide (D.kind = 4) := by
        revert hm
        cases T.m D.node.toNat <;> cases decide (D.kind = 4) <;> simp
      refine ⟨hm', ?_, ?_, ?_⟩
      · intro hk; rw [if_pos hk] at h
        split at h
        · assumption
        · cases h
      · intro hk; rw [if_neg (by omega), if_pos hk] at h
        split at h
        · cases h
        · rename_i ha; simpa using ha
      · intro hk; rw [if_neg (by omega), if_neg (by omega), if_neg (by omega)] at h
        exact h
theorem arcNo_facts {T : Tb} {D : Dc} (h : arcNo T D = 0) : rightB D.f D.z = true ∧ ¬ D.z = 0 ∧ ¬ D.by_ = D.node ∧ allB T D.by_ D.f (np D.f D.z) = true ∧ (D.kind = 3 → T.r D.by_.toNat = D.seen) := by
  unfold arcNo at h
  split at h
  · cases h
  · rename_i h1
    split at h
    · cases h
    · rename_i h2
      split at h
      · cases h
      · rename_i h3
        refine ⟨by cases hh : rightB D.f D.z; exact absurd (.inl hh) h1; rfl, fun x => h1 (.inr x), fun x => h2 (.inl x), by cases hh : allB T D.by_ D.f (np D.f D.z); exact absurd (.inr hh) h2; rfl, fun k => ?_⟩
        exact Classical.byContradiction fun x => h3 ⟨k, x⟩
theorem ownL_in (T : Tb) (n : Int) {p : Nat} (hp : p < 64) : inB (ownL T n) p = ownB T n p := by
  rw [← in_get (by rw [ownL_length]; exact hp)]
  unfold ownL
  simp only [upto_all, List.getElem_map, List.getElem_range, Int.toNat_natCast]
theorem ofL_none {bs : List Bool} (hl : bs.length = 64) (h : (ofL bs).length = 0) {p : Nat} (hp : p < 64) : inB bs p = false := by
  unfold ofL at h
  split at h
  · cases h
  · rename_i ha
    rw [← Bool.not_eq_true]
    intro hi
    obtain ⟨q, k, hq, hs, hk, e⟩ := in_arc (by simpa using ha) hp hi
    have := (ofK_mem bs 64 (q, runN bs q)).2 ⟨q, hq, hs, rfl⟩
    rw [List.length_eq_zero_iff.1 h] at this
    cases this
theorem hasAny_no {T : Tb} {n : Nat} (hn : n < 12) (h : hasAny T (n : Int) = false) {p : Nat} (hp : p < 64) : ¬ T.o p = (n : Int) := by
  have h0 : (ofL (ownL T (n : Int))).length = 0 := by simpa [hasAny] using h
  have h1 := ofL_none (ownL_length T _) h0 hp
  rw [ownL_in T _ hp] at h1
  intro he
  unfold ownB at h1
  rw [he, show isN (n : Int) = true from isN_spec.2 ⟨by omega, by omega⟩] at h1
  simp at h1
theorem apT_ok {T : Tb} (h : T.Ok) (D : Dc) (c0 : 0 ≤ D.cnt) (c1 : D.cnt ≤ 4294967295) : (apT T D).Ok := by
  unfold apT
  split
  · rename_i h0
    have d := did h.sz h0
    obtain ⟨hk, ⟨q, hq, hq12⟩, v1⟩ := refuse_ok h0
    obtain ⟨f1, f2, f3, f4⟩ := refuse_facts h0
    have hv0 := h.v0
    have hqt : D.node.toNat = q := by omega
    rw [hqt] at f1
    refine ⟨behindT_sz h.sz D, by rw [d.ver]; omega, by rw [d.ver]; omega, ?_, ?_, ?_⟩
    · intro n hn
      rw [d.r n hn]
      split
      · omega
      · split
        · omega
        · exact h.r n hn
    · intro p hp
      rw [d.o p hp]
      split
      · rename_i hc
        refine ⟨q, hq, hq12, ?_⟩
        rw [d.m q hq12]
        rw [Bool.and_eq_true, Bool.or_eq_true, decide_eq_true_eq, decide_eq_true_eq] at hc
        have hk4 : ¬ D.kind = 4 := by omega
        have hk5 : ¬ D.kind = 5 := by omega
        simp [hk4, hk5] at f1 ⊢
        exact f1
      · obtain ⟨n, e, hn, hm⟩ := h.o p hp
        refine ⟨n, e, hn, ?_⟩
        rw [d.m n hn]
        split
        · rfl
        · split
          · rename_i hc
            rw [Bool.and_eq_true, decide_eq_true_eq, decide_eq_true_eq] at hc
            have h5 := f3 hc.1
            rw [hc.2] at h5
            exact absurd e (hasAny_no hn h5 hp)
          · exact hm
    · intro p hp
      rw [d.i p hp, d.ver]
      have := h.i p hp
      split <;> omega
  · exact h
end Go.Proofs.Ytikeiocgnjdhbaa
