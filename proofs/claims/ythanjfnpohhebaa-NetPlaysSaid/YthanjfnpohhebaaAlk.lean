/- NetPlays: the program's packets and the document's are alike. -/
import Derived.Test.YthanjfnpohhebaaPsm
import Derived.Test.YthanjfnpohhebaaKeep
namespace Go.Proofs.Ythanjfnpohhebaa
open Go.RowKit Go.Sort
set_option linter.unusedVariables false
/-- what is told of a packet -/
def told (p : Pkt) : Nat × Int × Int × List Nat := (p.id, p.fr, p.to, p.data)
def Alike (S D : List Pkt) : Prop := S.map told = D.map told
theorem told_eq {p q : Pkt} (h : told p = told q) : p.id = q.id ∧ p.fr = q.fr ∧ p.to = q.to ∧ p.data = q.data := by
  simp only [told, Prod.mk.injEq] at h
  exact h
theorem Alike.len {S D : List Pkt} (h : Alike S D) : S.length = D.length := by simpa using congrArg List.length h
theorem Alike.symm {S D : List Pkt} (h : Alike S D) : Alike D S := Eq.symm h
theorem Alike.nil : Alike [] [] := rfl
theorem Alike.ids {S D : List Pkt} (h : Alike S D) : S.map (·.id) = D.map (·.id) := by
  have := congrArg (List.map Prod.fst) h
  simpa [List.map_map, Function.comp_def, told] using this
theorem Alike.at_ {S D : List Pkt} (h : Alike S D) {k : Nat} {p : Pkt} (hp : S[k]? = some p) : ∃ q, D[k]? = some q ∧ told p = told q := by
  have := congrArg (·[k]?) h
  simp only [List.getElem?_map, hp, Option.map_some] at this
  cases hd : D[k]? with
  | none => rw [hd] at this; cases this
  | some q => rw [hd] at this; exact ⟨q, rfl, by simpa using this⟩
theorem Inc.of_ids {S : List Pkt} : Inc S ↔ (S.map (·.id)).Pairwise (· < ·) := by unfold Inc; rw [List.pairwise_map]
theorem Alike.inc {S D : List Pkt} (h : Alike S D) (hi : Inc S) : Inc D := by
  rw [Inc.of_ids] at hi ⊢
  rw [← h.ids]; exact hi
theorem Alike.app {S D : List Pkt} (h : Alike S D) {p q : Pkt} (e : told p = told q) : Alike (S ++ [p]) (D ++ [q]) := by
  unfold Alike at *
  rw [List.map_append, List.map_append, h]
  simp [e]
theorem At.mem {D : List Pkt} {id k : Nat} {p : Pkt} (h : At D id k p) : p ∈ D := List.mem_of_getElem? h.1
/-- where the program finds a packet the document does -/
theorem Alike.look {S D : List Pkt} (h : Alike S D) (hi : Inc S) {id : Nat} {p : Pkt} (hl : look S id = some p) : ∃ k q, At D id k q ∧ told p = told q := by
  obtain ⟨hp, hid⟩ := look_some hl
  obtain ⟨k, hk⟩ := List.getElem?_of_mem hp
  obtain ⟨q, hq, e⟩ := h.at_ hk
  refine ⟨k, q, ⟨hq, (told_eq e).1.symm.trans hid, fun j x hj hx hxid => ?_⟩, e⟩
  obtain ⟨y, hy, e2⟩ := h.symm.at_ hx
  have hyid : y.id = p.id := (told_eq e2).1.symm.trans (hxid.trans hid.symm)
  have hlt := List.pairwise_iff_getElem.1 hi j k (List.getElem?_eq_some_iff.1 hy).1 (List.getElem?_eq_some_iff.1 hk).1 hj
  rw [(List.getElem?_eq_some_iff.1 hy).2, (List.getElem?_eq_some_iff.1 hk).2] at hlt
  omega
theorem Alike.nowhere {S D : List Pkt} (h : Alike S D) {id : Nat} (hl : Ythanjfnpohhebaa.look S id = none) : Nowhere D id := by
  intro q hq e
  obtain ⟨k, hk⟩ := List.getElem?_of_mem hq
  obtain ⟨p, hp, e2⟩ := h.symm.at_ hk
  exact look_none hl p (List.mem_of_getElem? hp) ((told_eq e2).1.symm.trans e)
theorem filter_tk {S : List Pkt} {k : Nat} {p : Pkt} (hi : Inc S) (hk : S[k]? = some p) : wo S p.id = S.take k ++ S.drop (k + 1) := by
  obtain ⟨hlt, hget⟩ := List.getElem?_eq_some_iff.1 hk
  have hs : S = S.take k ++ p :: S.drop (k + 1) := by
    conv => lhs; rw [← List.take_append_drop k S]
    rw [List.drop_eq_getElem_cons hlt, hget]
  have hi2 : Inc (S.take k ++ p :: S.drop (k + 1)) := by rw [← hs]; exact hi
  obtain ⟨_, h2, h3⟩ := List.pairwise_append.1 hi2
  obtain ⟨h4, _⟩ := List.pairwise_cons.1 h2
  have e1 : wo (S.take k) p.id = S.take k := by
    unfold wo
    refine List.filter_eq_self.2 fun x hx => ?_
    have := h3 x hx p (List.mem_cons_self ..)
    simp; omega
  have e2 : wo (S.drop (k + 1)) p.id = S.drop (k + 1) := by
    unfold wo
    refine List.filter_eq_self.2 fun x hx => ?_
    have := h4 x hx
    simp; omega
  calc wo S p.id = wo (S.take k ++ p :: S.drop (k + 1)) p.id := by rw [← hs]
    _ = wo (S.take k) p.id ++ wo (S.drop (k + 1)) p.id := by simp [wo]
    _ = _ := by rw [e1, e2]
theorem Alike.wo {S D : List Pkt} (h : Alike S D) (hi : Inc S) {id k : Nat} {q : Pkt} (hat : At D id k q) : Alike (wo S id) (D.take k ++ D.drop (k + 1)) := by
  obtain ⟨p, hp, e⟩ := h.symm.at_ hat.1
  have hid : p.id = id := (told_eq e).1.symm.trans hat.2.1
  rw [← hid, filter_tk hi hp]
  unfold Alike at *
  rw [List.map_append, List.map_append, List.map_take, List.map_take, List.map_drop, List.map_drop, h]
theorem told_setB (id at_ z : Nat) {p q : Pkt} (e : told p = told q) : told (setB id at_ z p) = told (setB id at_ z q) := by
  obtain ⟨e1, e2, e3, e4⟩ := told_eq e
  unfold setB
  rw [e1]
  split
  · simp only [told, e2, e3, e4]
  · exact e
theorem Alike.map {S D : List Pkt} (f : Pkt → Pkt) (hf : ∀ p q, told p = told q → told (f p) = told (f q)) (h : Alike S D) : Alike (S.map f) (D.map f) := by
  unfold Alike at *
  induction S generalizing D with
  | nil => cases D with
    | nil => rfl
    | cons _ _ => cases h
  | cons x S ih => cases D with
    | nil => cases h
    | cons y D =>
      simp only [List.map_cons, List.cons.injEq] at h ⊢
      exact ⟨hf _ _ h.1, ih h.2⟩
theorem Alike.sp {S D : List Pkt} (h : Alike S D) (id at_ z : Nat) : Alike (spS S id at_ z) (spS D id at_ z) := h.map _ fun _ _ e => told_setB id at_ z e
theorem Alike.filter {S D : List Pkt} (f : Pkt → Bool) (hf : ∀ p q, told p = told q → f p = f q) (h : Alike S D) : Alike (S.filter f) (D.filter f) := by
  unfold Alike at *
  induction S generalizing D with
  | nil => cases D with
    | nil => rfl
    | cons _ _ => cases h
  | cons x S ih => cases D with
    | nil => cases h
    | cons y D =>
      simp only [List.map_cons, List.cons.injEq] at h
      have e := hf _ _ h.1
      simp only [List.filter_cons, e]
      split
      · simp only [List.map_cons, h.1, ih h.2]
      · exact ih h.2
theorem Alike.to_ {S D : List Pkt} (h : Alike S D) (node : Int) : (to_ S node).length = (to_ D node).length :=
  (h.filter (fun p => decide (p.to = node)) fun p q e => by rw [(told_eq e).2.2.1]).len
theorem Alike.forget {S D : List Pkt} (h : Alike S D) (hi : Inc S) (node : Int) : Alike (woAll S ((Ythanjfnpohhebaa.to_ S node).map (·.id))) (notTo D node) := by
  rw [woAll_to hi]
  have e : notTo D node = D.filter fun p => !decide (p.to = node) := by
    unfold notTo
    congr 1
    funext p
    simp
  rw [e]
  exact h.filter _ fun p q e => by rw [(told_eq e).2.2.1]
end Go.Proofs.Ythanjfnpohhebaa
