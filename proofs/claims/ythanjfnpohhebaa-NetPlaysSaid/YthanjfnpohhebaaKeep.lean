/- NetKeeps: what a step does to what is under way and to what was sent; plain. -/
import Derived.Test.YthanjfnpohhebaaForg
import Derived.Test.YthanjfnpohhebaaSpoil
namespace Go.Proofs.Ythanjfnpohhebaa
open Go.RowKit Go.Sort
set_option linter.unusedVariables false

structure KS (S : List Pkt) (L : List (Option (List Nat))) (T : Tr) (made : Nat) : Prop where
  len : L.length = made
  all : T.sent + T.twice = made
  gone : T.taken + T.lost + S.length = made
  ids : ∀ p ∈ S, 1 ≤ p.id ∧ p.id ≤ made
  same : ∀ p ∈ S, ∀ l, L[p.id - 1]? = some (some l) → p.data = l
section
variable {S : List Pkt} {L : List (Option (List Nat))} {T : Tr} {made id : Nat} {p : Pkt}
theorem KS.nil : KS [] [] ⟨0, 0, 0, 0, 0⟩ 0 := ⟨rfl, rfl, rfl, by simp, by simp⟩
theorem KS.app (h : KS S L T made) {fr dest : Int} {ao : Option Addr} {cap : Nat} {l : List Nat} {o : Option (List Nat)} (ho : ∀ l', o = some l' → l = l') {T' : Tr} (h1 : T'.sent + T'.twice = made + 1) (h2 : T'.taken + T'.lost = T.taken + T.lost) :
    KS (S ++ [⟨made + 1, fr, dest, ao, cap, l⟩]) (L ++ [o]) T' (made + 1) := by
  have hl := h.len
  have hg := h.gone
  refine ⟨by simp [hl], h1, by simp; omega, fun p hp => ?_, fun p hp l' hl' => ?_⟩
  · rcases List.mem_append.1 hp with h3 | h3
    · have := h.ids p h3; omega
    · simp only [List.mem_singleton] at h3; subst h3; simp
  · rcases List.mem_append.1 hp with h3 | h3
    · have h4 := h.ids p h3
      rw [List.getElem?_append_left (by omega)] at hl'
      exact h.same p h3 l' hl'
    · simp only [List.mem_singleton] at h3; subst h3
      simp only [Nat.add_sub_cancel] at hl'
      rw [List.getElem?_append_right (by omega), hl, Nat.sub_self] at hl'
      exact ho l' (by simpa using hl')
theorem KS.send (h : KS S L T made) {fr dest : Int} {ao : Option Addr} {cap : Nat} {l : List Nat} : KS (S ++ [⟨made + 1, fr, dest, ao, cap, l⟩]) (L ++ [some l]) T.addSent (made + 1) :=
  h.app (fun l' e => Option.some.inj e) (by have := h.all; simp only [Tr.addSent]; omega) rfl
theorem KS.twice (h : KS S L T made) (hl : look S id = some p) {o : Option (List Nat)} (ho : L[id - 1]? = some o) {ao : Option Addr} {cap : Nat} : KS (S ++ [⟨made + 1, p.fr, p.to, ao, cap, p.data⟩]) (L ++ [o]) T.addTwice (made + 1) := by
  obtain ⟨hp, hid⟩ := look_some hl
  exact h.app (fun l' e => h.same p hp l' (by rw [hid, ho, e])) (by have := h.all; simp only [Tr.addTwice]; omega) rfl
theorem KS.less (h : KS S L T made) {S' : List Pkt} {T' : Tr} (hs : ∀ q ∈ S', q ∈ S) (h1 : T'.sent + T'.twice = T.sent + T.twice) (h2 : T'.taken + T'.lost + S'.length = T.taken + T.lost + S.length) : KS S' L T' made :=
  ⟨h.len, h1.trans h.all, h2.trans h.gone, fun q hq => h.ids q (hs q hq), fun q hq => h.same q (hs q hq)⟩
theorem KS.take (h : KS S L T made) (hS : Inc S) (hl : look S id = some p) : KS (wo S id) L T.addTaken made :=
  h.less (fun q hq => (wo_mem.1 hq).1) rfl (by have := wo_len hS hl; simp only [Tr.addTaken]; omega)
theorem KS.lose (h : KS S L T made) (hS : Inc S) (hl : look S id = some p) : KS (wo S id) L T.addLost made :=
  h.less (fun q hq => (wo_mem.1 hq).1) rfl (by have := wo_len hS hl; simp only [Tr.addLost]; omega)
theorem KS.spoil (h : KS S L T made) (hid : 1 ≤ id) (at_ z : Nat) : KS (spS S id at_ z) (L.set (id - 1) none) T.addSpoilt made := by
  refine ⟨by rw [List.length_set]; exact h.len, h.all, by have := h.gone; unfold spS; rw [List.length_map]; exact this, fun q hq => ?_, fun q hq l hl => ?_⟩
  · obtain ⟨y, hy, rfl⟩ := List.mem_map.1 hq
    rw [setB_id]
    exact h.ids y hy
  · obtain ⟨y, hy, rfl⟩ := List.mem_map.1 hq
    rw [setB_id] at hl
    have hy1 := (h.ids y hy).1
    by_cases e : id = y.id
    · subst e
      rw [List.getElem?_set_self' ] at hl
      cases hq : L[y.id - 1]? with
      | none => rw [hq] at hl; cases hl
      | some u => rw [hq] at hl; cases hl
    · rw [List.getElem?_set_ne (by omega)] at hl
      have : setB id at_ z y = y := by unfold setB; rw [if_neg (fun e2 => e e2.symm)]
      rw [this]
      exact h.same y hy l hl
theorem woAll_eq : ∀ (ids : List Nat) (S : List Pkt), woAll S ids = S.filter fun p => !ids.contains p.id
  | [], S => by unfold woAll; exact (List.filter_eq_self.2 (by simp)).symm
  | x :: r, S => by
    have := woAll_eq r (wo S x)
    unfold woAll at this ⊢
    rw [List.foldl_cons, this, wo, List.filter_filter]
    refine List.filter_congr fun p _ => ?_
    rw [List.contains_cons, Bool.not_or, Bool.and_comm]
    rfl
theorem woAll_to (hS : Inc S) (node : Int) : woAll S ((to_ S node).map (·.id)) = S.filter fun p => !decide (p.to = node) := by
  rw [woAll_eq]
  refine List.filter_congr fun p hp => ?_
  congr 1
  rw [Bool.eq_iff_iff, List.contains_iff_mem, List.mem_map, decide_eq_true_iff]
  constructor
  · rintro ⟨q, hq, e⟩
    obtain ⟨h1, h2⟩ := List.mem_filter.1 hq
    rw [← hS.one h1 hp e]
    exact of_decide_eq_true h2
  · intro e
    exact ⟨p, List.mem_filter.2 ⟨hp, decide_eq_true e⟩, rfl⟩
theorem parts (S : List Pkt) (f : Pkt → Bool) : (S.filter f).length + (S.filter fun p => !f p).length = S.length := by
  induction S with
  | nil => rfl
  | cons x r ih =>
    rw [List.filter_cons, List.filter_cons]
    cases f x <;> simp <;> omega
theorem KS.forget (h : KS S L T made) (hS : Inc S) (node : Int) : KS (woAll S ((to_ S node).map (·.id))) L (T.lostK (to_ S node).length) made := by
  rw [woAll_to hS]
  refine h.less (fun q hq => (List.mem_filter.1 hq).1) rfl ?_
  have := parts S fun p => decide (p.to = node)
  unfold to_
  simp only [Tr.lostK]
  omega
end
end Go.Proofs.Ythanjfnpohhebaa
