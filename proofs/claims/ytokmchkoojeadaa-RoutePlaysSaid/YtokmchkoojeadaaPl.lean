/- Plain facts: a list that is sorted rises. -/
import Derived.Test.YtokmchkoojeadaaSo
namespace Go.Proofs.Ytokmchkoojeadaa
open Go.RowKit Go.Sort
set_option linter.unusedVariables false
set_option linter.unusedSimpArgs false
/-- the first stands ahead of the second -/
abbrev Pe.ahead (x y : Pe) : Prop := ls x.h x.l y.h y.l = true
theorem ls_trans {a b c d e f : Int} (h : ls a b c d = true) (k : ls c d e f = true) : ls a b e f = true := by
  rw [ls_iff] at *; omega
theorem ls_irrefl {a b : Int} : ls a b a b = false := by
  rw [← Bool.not_eq_true, ls_iff]; omega
theorem ls_tri {a b c d : Int} (h : ls a b c d = false) (hne : ¬ (c = a ∧ d = b)) : ls c d a b = true := by
  rw [← Bool.not_eq_true, ls_iff] at h; rw [ls_iff]; omega
/-- what the insertion is when none stands at the place: those ahead, the new one, those behind -/
theorem insFold_rises (h l : Int) : ∀ (L : List Pe) (O : List Pe) (i t : Bool), L.Pairwise Pe.ahead → O.Pairwise Pe.ahead →
    (∀ a ∈ O, ∀ b ∈ L, a.ahead b) → (i = true → ∀ b ∈ L, ls h l b.h b.l = true) → (i = false → ∀ a ∈ O, ls a.h a.l h l = true) →
    (L.foldl (insStep h l) (O, i, t)).2.2 = false →
    (L.foldl (insStep h l) (O, i, t)).1.Pairwise Pe.ahead ∧ ((L.foldl (insStep h l) (O, i, t)).2.1 = false → ∀ a ∈ (L.foldl (insStep h l) (O, i, t)).1, ls a.h a.l h l = true)
  | [], O, i, t, _, hO, _, _, hi, _ => ⟨hO, hi⟩
  | x :: L, O, i, t, hL, hO, hOL, hit, hif, ht => by
    obtain ⟨hx, hL'⟩ := List.pairwise_cons.1 hL
    have key : ∀ (L : List Pe) (s : List Pe × Bool × Bool), s.2.2 = true → (L.foldl (insStep h l) s).2.2 = true := fun L => by
      induction L with
      | nil => intro s hs; exact hs
      | cons y L ih => intro s hs; exact ih _ (by simp [insStep, hs])
    have hxne : ¬ (x.h = h ∧ x.l = l) := fun e => by
      have := key L (insStep h l (O, i, t) x) (by simp [insStep, e.1, e.2])
      rw [List.foldl_cons, this] at ht; cases ht
    have hOx : ∀ a ∈ O, a.ahead x := fun a ha => hOL a ha x (List.mem_cons_self ..)
    rw [List.foldl_cons] at ht ⊢
    cases hlw : ls h l x.h x.l with
    | false =>
      have hxr : ls x.h x.l h l = true := ls_tri hlw hxne
      have hifalse : i = false := by
        cases i with
        | false => rfl
        | true => have := hit rfl x (List.mem_cons_self ..); rw [hlw] at this; cases this
      subst hifalse
      have e : insStep h l (O, false, t) x = (O ++ [x], false, t || (x.h == h && x.l == l)) := by simp [insStep, hlw]
      rw [e] at ht ⊢
      refine insFold_rises h l L _ _ _ hL' ?_ ?_ (by simp) ?_ ht
      · rw [List.pairwise_append]; exact ⟨hO, by simp, fun a ha b hb => by simp only [List.mem_singleton] at hb; subst hb; exact hOx a ha⟩
      · intro a ha b hb
        rcases List.mem_append.1 ha with h1 | h1
        · exact hOL a h1 b (List.mem_cons_of_mem _ hb)
        · simp only [List.mem_singleton] at h1; subst h1; exact hx b hb
      · intro _ a ha
        rcases List.mem_append.1 ha with h1 | h1
        · exact hif rfl a h1
        · simp only [List.mem_singleton] at h1; subst h1; exact hxr
    | true =>
      have hbl : ∀ b ∈ L, ls h l b.h b.l = true := fun b hb => ls_trans hlw (hx b hb)
      cases i with
      | true =>
        have e : insStep h l (O, true, t) x = (O ++ [x], true, t || (x.h == h && x.l == l)) := by simp [insStep]
        rw [e] at ht ⊢
        refine insFold_rises h l L _ _ _ hL' ?_ ?_ (fun _ => hbl) (by simp) ht
        · rw [List.pairwise_append]; exact ⟨hO, by simp, fun a ha b hb => by simp only [List.mem_singleton] at hb; subst hb; exact hOx a ha⟩
        · intro a ha b hb
          rcases List.mem_append.1 ha with h1 | h1
          · exact hOL a h1 b (List.mem_cons_of_mem _ hb)
          · simp only [List.mem_singleton] at h1; subst h1; exact hx b hb
      | false =>
        have e : insStep h l (O, false, t) x = (O ++ [⟨0, h, l⟩] ++ [x], true, t || (x.h == h && x.l == l)) := by simp [insStep, hlw]
        have hr := hif rfl
        rw [e] at ht ⊢
        have hO2 : (O ++ [(⟨0, h, l⟩ : Pe)]).Pairwise Pe.ahead := by
          rw [List.pairwise_append]; exact ⟨hO, by simp, fun a ha b hb => by simp only [List.mem_singleton] at hb; subst hb; exact hr a ha⟩
        refine insFold_rises h l L _ _ _ hL' ?_ ?_ (fun _ => hbl) (by simp) ht
        · rw [List.pairwise_append]; exact ⟨hO2, by simp, fun a ha b hb => by
            simp only [List.mem_singleton] at hb; subst hb
            rcases List.mem_append.1 ha with h1 | h1
            · exact hOx a h1
            · simp only [List.mem_singleton] at h1; subst h1; exact hlw⟩
        · intro a ha b hb
          rcases List.mem_append.1 ha with h1 | h1
          · rcases List.mem_append.1 h1 with h2 | h2
            · exact hOL a h2 b (List.mem_cons_of_mem _ hb)
            · simp only [List.mem_singleton] at h2; subst h2; exact hbl b hb
          · simp only [List.mem_singleton] at h1; subst h1; exact hx b hb
theorem insOne_rises {L : List Pe} (r : Int × Int) (hL : L.Pairwise Pe.ahead) : (insOne L r).Pairwise Pe.ahead := by
  unfold insOne insAll
  simp only
  cases ht : (L.foldl (insStep r.1 r.2) ([], false, false)).2.2 with
  | true => exact hL
  | false =>
    obtain ⟨h1, h2⟩ := insFold_rises r.1 r.2 L [] false false hL List.Pairwise.nil (by simp) (by simp) (by simp) ht
    simp only [Bool.false_eq_true, if_false]
    cases hi : (L.foldl (insStep r.1 r.2) ([], false, false)).2.1 with
    | true => exact h1
    | false =>
      simp only [Bool.false_eq_true, if_false]
      rw [List.pairwise_append]
      exact ⟨h1, by simp, fun a ha b hb => by simp only [List.mem_singleton] at hb; subst hb; exact h2 hi a ha⟩
theorem insMany_rises : ∀ (R : List (Int × Int)) (L : List Pe), L.Pairwise Pe.ahead → (insMany R L).Pairwise Pe.ahead
  | [], _, h => h
  | r :: R, L, h => by
    rw [insMany]
    split
    · exact insMany_rises R _ (insOne_rises r h)
    · exact h
theorem insOne_len (L : List Pe) (r : Int × Int) : (insOne L r).length ≤ L.length + 1 := by
  unfold insOne
  simp only
  have h : (insAll r.1 r.2 L).1.length = L.length + (insAll r.1 r.2 L).2.1.toNat := insAll_len rfl
  split
  · omega
  · split
    · rename_i h1; rw [h1] at h; simp at h; omega
    · rename_i h1; simp only [Bool.not_eq_true] at h1; rw [h1] at h; simp at h; simp; omega
theorem insMany_len : ∀ (R : List (Int × Int)) (L : List Pe), L.length ≤ 12 → (insMany R L).length ≤ 12
  | [], _, h => h
  | r :: R, L, h => by
    rw [insMany]
    split
    · exact insMany_len R _ (by have := insOne_len L r; omega)
    · exact h
theorem sortedN_rises (R : List (Int × Int)) : (sortedN R).Pairwise Pe.ahead := by
  have key : ∀ M : List Pe, M.Pairwise Pe.ahead → (numbered M).Pairwise Pe.ahead := fun M h => by
    rw [List.pairwise_iff_getElem] at h ⊢
    intro i j hi hj hij
    rw [numbered_len] at hi hj
    have e1 : (numbered M)[i]? = some (⟨(i : Int), M[i].h, M[i].l⟩ : Pe) := by rw [numbered_at, List.getElem?_eq_getElem hi]; rfl
    have e2 : (numbered M)[j]? = some (⟨(j : Int), M[j].h, M[j].l⟩ : Pe) := by rw [numbered_at, List.getElem?_eq_getElem hj]; rfl
    rw [(List.getElem?_eq_some_iff.1 e1).2, (List.getElem?_eq_some_iff.1 e2).2]
    exact h i j hi hj hij
  unfold sortedN
  refine key _ ?_
  split
  · simp
  · exact insMany_rises R [] List.Pairwise.nil
theorem sortedN_len (R : List (Int × Int)) : 1 ≤ (sortedN R).length ∧ (sortedN R).length ≤ 12 := by
  unfold sortedN
  have := insMany_len R [] (by simp)
  simp only [numbered_len]
  split
  · simp
  · omega
theorem sortedN_num (R : List (Int × Int)) (j : Nat) (x : Pe) (h : (sortedN R)[j]? = some x) : x.n = (j : Int) := by
  unfold sortedN at h
  rw [numbered_at] at h
  obtain ⟨y, _, rfl⟩ := Option.map_eq_some_iff.1 h
  rfl
end Go.Proofs.Ytokmchkoojeadaa
