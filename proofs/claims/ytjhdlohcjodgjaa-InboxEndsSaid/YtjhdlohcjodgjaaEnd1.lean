/- InboxEnds: what the law keeps of each call. -/
import Derived.Test.YtjhdlohcjodgjaaTwin6
namespace Go.Proofs.Ytjhdlohcjodgjaa
open Go.RowKit
set_option linter.unusedVariables false

abbrev C4 : Cfg := ⟨256, 3, 20, 4⟩
/-- what the law keeps of call x: when it was last made, how often -/
def Entry (now : Nat) (x : Cal) (l r : Int) : Prop :=
  (0 < x.tries → ∃ g : Nat, l = (g : Int) ∧ g ≤ now ∧ r = (x.tries : Int) ∧ x.due = g + waitN 3 20 (x.tries - 1) ∧ x.tries ≤ 4) ∧ (x.tries = 0 → l = -1)
structure EndsR (T : List Cal) (L R : List Int) (now : Nat) : Prop where
  lenL : L.length = T.length
  lenR : R.length = T.length
  ent : ∀ (i : Nat) (x : Cal), T[i]? = some x → ∃ l r, L[i]? = some l ∧ R[i]? = some r ∧ Entry now x l r
section
variable {T T' L1 L2 : List Cal} {L R : List Int} {now : Nat}
theorem Entry.mono {x : Cal} {l r : Int} {m : Nat} (h : Entry now x l r) (hm : now ≤ m) : Entry m x l r :=
  ⟨fun h0 => by obtain ⟨g, a, b, c⟩ := h.1 h0; exact ⟨g, a, by omega, c⟩, h.2⟩
theorem EndsR.mono {m : Nat} (h : EndsR T L R now) (hm : now ≤ m) : EndsR T L R m :=
  ⟨h.lenL, h.lenR, fun i x hx => by obtain ⟨l, r, a, b, c⟩ := h.ent i x hx; exact ⟨l, r, a, b, c.mono hm⟩⟩
theorem EndsR.none : EndsR [] [] [] now := ⟨rfl, rfl, by simp⟩
theorem EndsR.opened (h : EndsR T L R now) (to : Int) : EndsR (T ++ [opened C4 (T.length + 1) to now]) (L ++ [(now : Int)]) (R ++ [1]) now := by
  refine ⟨by simp [h.lenL], by simp [h.lenR], fun i x hx => ?_⟩
  by_cases hi : i < T.length
  · rw [List.getElem?_append_left hi] at hx
    obtain ⟨l, r, a, b, c⟩ := h.ent i x hx
    exact ⟨l, r, by rw [List.getElem?_append_left (by rw [h.lenL]; exact hi)]; exact a, by rw [List.getElem?_append_left (by rw [h.lenR]; exact hi)]; exact b, c⟩
  · have hlt := (List.getElem?_eq_some_iff.1 hx).1
    simp at hlt
    obtain rfl : i = T.length := by omega
    simp at hx
    subst hx
    refine ⟨now, 1, by simp [← h.lenL], by simp [← h.lenR], ⟨fun _ => ⟨now, rfl, Nat.le_refl _, rfl, ?_, by show (1 : Nat) ≤ 4; omega⟩, fun h0 => by have h1 : (1 : Nat) = 0 := h0; omega⟩⟩
    simp [Ytjhdlohcjodgjaa.opened, waitN]
theorem EndsR.closed (h : EndsR T L R now) (i : Nat) (hi : i < T.length) : EndsR (closeT T (i + 1)) (L.set i (-1)) R now := by
  obtain ⟨x, hx⟩ : ∃ x, T[i]? = some x := ⟨_, List.getElem?_eq_getElem hi⟩
  have hcx : closeX T (i + 1) = some x := by unfold closeX; rw [if_pos (by omega)]; exact hx
  refine ⟨by rw [List.length_set, closeT_len]; exact h.lenL, by rw [closeT_len]; exact h.lenR, fun j y hy => ?_⟩
  have hset : (closeT T (i + 1))[j]? = some y → (j = i ∧ y.tries = 0) ∨ (j ≠ i ∧ T[j]? = some y) := by
    intro hy
    unfold closeT at hy
    rw [hcx] at hy
    simp only at hy
    by_cases e : j = i
    · subst e
      left
      refine ⟨rfl, ?_⟩
      split at hy
      · rw [show j + 1 - 1 = j by omega, List.getElem?_set_self hi] at hy
        injection hy with hy; subst hy; rfl
      · rw [hx] at hy; injection hy with hy; subst hy; omega
    · right
      refine ⟨e, ?_⟩
      split at hy
      · rw [show i + 1 - 1 = i by omega, List.getElem?_set_ne (Ne.symm e)] at hy; exact hy
      · exact hy
  rcases hset hy with ⟨rfl, h0⟩ | ⟨hne, hy2⟩
  · obtain ⟨l, r, a, b, c⟩ := h.ent j x hx
    exact ⟨-1, r, List.getElem?_set_self (by rw [h.lenL]; exact hi), b, ⟨fun h1 => by omega, fun _ => rfl⟩⟩
  · obtain ⟨l, r, a, b, c⟩ := h.ent j y hy2
    exact ⟨l, r, by rw [List.getElem?_set_ne (Ne.symm hne)]; exact a, b, c⟩
/-- what Due comes to, call by call -/
structure DueS (T T' L1 L2 : List Cal) (now : Nat) : Prop where
  len : T'.length = T.length
  ag : ∀ y ∈ L1, ∃ i x, y.id = i + 1 ∧ T[i]? = some x ∧ 0 < x.tries ∧ x.tries < 4 ∧ x.due ≤ now ∧ y.tries = x.tries + 1 ∧ y.due = now + waitN 3 20 x.tries ∧ T'[i]? = some y
  ov : ∀ z ∈ L2, ∃ i, z.id = i + 1 ∧ T[i]? = some z ∧ 0 < z.tries ∧ 4 ≤ z.tries ∧ z.due ≤ now ∧ T'[i]? = some z.ended
  nd : ((L1 ++ L2).map (·.id)).Nodup
  rest : ∀ (i : Nat) (x : Cal), T[i]? = some x → (∀ y ∈ L1, y.id ≠ i + 1) → (∀ z ∈ L2, z.id ≠ i + 1) → T'[i]? = some x
theorem foldR (C : Cfg) (now : Nat) : ∀ (l : List Cal) (r : RefR), (l.foldl (rStep C now) r).again = r.again ++ (l.filter fun x => decide (x.tries < C.tries)).map (fun x => triedC C x now) ∧ (l.foldl (rStep C now) r).over = r.over ++ l.filter fun x => decide (C.tries ≤ x.tries)
  | [], r => by simp
  | x :: t, r => by
    rw [List.foldl_cons]
    obtain ⟨h1, h2⟩ := foldR C now t (rStep C now r x)
    rw [h1, h2]
    unfold rStep
    by_cases hc : C.tries ≤ x.tries
    · have hc2 : ¬ x.tries < C.tries := by omega
      rw [if_pos hc]
      simp [hc, hc2]
    · have hc2 : x.tries < C.tries := by omega
      rw [if_neg hc]
      simp [hc, hc2]
theorem foldT (C : Cfg) (now : Nat) : ∀ (l : List Cal) (r : RefR), (l.map (·.id)).Nodup → (∀ x ∈ l, 1 ≤ x.id ∧ x.id - 1 < r.T.length) → ∀ x ∈ l, (l.foldl (rStep C now) r).T[x.id - 1]? = some (if C.tries ≤ x.tries then x.ended else triedC C x now)
  | [], r, _, _ => by simp
  | y :: t, r, hn, hl => by
    intro x hx
    rw [List.map_cons, List.nodup_cons] at hn
    rw [List.foldl_cons]
    rcases List.mem_cons.1 hx with rfl | hx
    · have key := rRun_other' C now t (rStep C now r x) (fun z hz => (hl z (List.mem_cons_of_mem _ hz)).1) (i := x.id - 1) (by
        have := (hl x (List.mem_cons_self ..)).1
        rw [show x.id - 1 + 1 = x.id by omega]; exact hn.1)
      rw [key]
      have hlt := (hl x (List.mem_cons_self ..)).2
      unfold rStep
      split
      · simp [List.getElem?_set_self hlt]
      · simp [List.getElem?_set_self hlt]
    · exact foldT C now t _ hn.2 (fun z hz => by rw [rStep_len]; exact hl z (List.mem_cons_of_mem _ hz)) x hx
where
  rRun_other' (C : Cfg) (now : Nat) : ∀ (l : List Cal) (r : RefR), (∀ x ∈ l, 1 ≤ x.id) → ∀ {i : Nat}, i + 1 ∉ l.map (·.id) → (l.foldl (rStep C now) r).T[i]? = r.T[i]?
    | [], r, _, i, _ => rfl
    | y :: t, r, h1, i, h2 => by
      simp only [List.map_cons, List.mem_cons, not_or] at h2
      rw [List.foldl_cons, rRun_other' C now t _ (fun z hz => h1 z (List.mem_cons_of_mem _ hz)) h2.2, rStep_other C now r y (h1 y (List.mem_cons_self ..)) h2.1]
theorem dueS {l : List Cal} (hIds : IdsO 0 T) (hp : l.Perm ((live T).filter fun x => decide (x.due ≤ now))) : DueS T (rRun C4 now T l).T (rRun C4 now T l).again (rRun C4 now T l).over now := by
  have hm := dueMem hIds hp
  have hnd := dueNodup hIds hp
  have hd : ∀ x ∈ l, x.due ≤ now := fun x hx => by have h1 := hp.mem_iff.1 hx; rw [List.mem_filter] at h1; simpa using h1.2
  obtain ⟨e1, e2⟩ := foldR C4 now l ⟨T, [], []⟩
  have e3 := foldT C4 now l ⟨T, [], []⟩ hnd (fun x hx => ⟨(hm x hx).2.2, (List.getElem?_eq_some_iff.1 (hm x hx).1).1⟩)
  have e4 : ∀ {i : Nat}, i + 1 ∉ l.map (·.id) → (rRun C4 now T l).T[i]? = T[i]? := fun h => rRun_other C4 now T l (fun x hx => (hm x hx).2.2) h
  simp only [List.nil_append] at e1 e2
  refine ⟨rRun_len C4 now T l, fun y hy => ?_, fun z hz => ?_, ?_, fun i x hx h1 h2 => ?_⟩
  · unfold rRun at hy
    rw [e1, List.mem_map] at hy
    obtain ⟨x, hx, rfl⟩ := hy
    rw [List.mem_filter] at hx
    obtain ⟨a, b, c⟩ := hm x hx.1
    have ht : x.tries < 4 := by simpa using hx.2
    refine ⟨x.id - 1, x, ?_, a, b, ht, hd x hx.1, rfl, rfl, ?_⟩
    · show x.id = x.id - 1 + 1
      omega
    · have h9 := e3 x hx.1
      rw [if_neg (by show ¬ 4 ≤ x.tries; omega)] at h9
      exact h9
  · unfold rRun at hz
    rw [e2, List.mem_filter] at hz
    obtain ⟨a, b, c⟩ := hm z hz.1
    have ht : 4 ≤ z.tries := by simpa using hz.2
    refine ⟨z.id - 1, by omega, a, b, ht, hd z hz.1, ?_⟩
    have h9 := e3 z hz.1
    rw [if_pos (by show 4 ≤ z.tries; omega)] at h9
    exact h9
  · unfold rRun
    rw [e1, e2, List.map_append, List.map_map]
    have e5 : ((fun x : Cal => x.id) ∘ fun x => triedC C4 x now) = fun x => x.id := rfl
    rw [e5, ← List.map_append]
    refine List.Perm.nodup (l := l.map (·.id)) ?_ hnd
    refine List.Perm.map _ ?_
    have := List.filter_append_perm (fun x : Cal => decide (x.tries < C4.tries)) l
    refine (this.symm).trans (List.Perm.append_left _ (List.Perm.of_eq ?_))
    apply List.filter_congr
    intro x _
    simp only [Nat.not_lt, ← decide_not]
  · rw [e4 (fun hmem => ?_)]
    · exact hx
    · obtain ⟨y, hy, hye⟩ := List.mem_map.1 hmem
      by_cases hc : y.tries < 4
      · refine h1 (triedC C4 y now) ?_ hye
        unfold rRun
        rw [e1]
        exact List.mem_map.2 ⟨y, List.mem_filter.2 ⟨hy, by simpa using hc⟩, rfl⟩
      · refine h2 y ?_ hye
        unfold rRun
        rw [e2]
        exact List.mem_filter.2 ⟨hy, by simp; omega⟩
end
end Go.Proofs.Ytjhdlohcjodgjaa
