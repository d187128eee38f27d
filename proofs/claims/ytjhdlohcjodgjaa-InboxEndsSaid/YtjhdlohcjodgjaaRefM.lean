/- The document's Due on lists. -/
import Derived.Test.YtjhdlohcjodgjaaRefD
namespace Go.Proofs.Ytjhdlohcjodgjaa
open Go.RowKit
set_option linter.unusedVariables false

structure RefR where
  T : List Cal
  again : List Cal
  over : List Cal
def rStep (C : Cfg) (now : Nat) (r : RefR) (x : Cal) : RefR :=
  if C.tries ≤ x.tries then ⟨r.T.set (x.id - 1) x.ended, r.again, r.over ++ [x]⟩ else ⟨r.T.set (x.id - 1) (triedC C x now), r.again ++ [triedC C x now], r.over⟩
def rRun (C : Cfg) (now : Nat) (T l : List Cal) : RefR := l.foldl (rStep C now) ⟨T, [], []⟩
theorem rRun_succ (C : Cfg) (now : Nat) (T l : List Cal) (k : Nat) {x : Cal} (h : l[k]? = some x) : rRun C now T (l.take (k + 1)) = rStep C now (rRun C now T (l.take k)) x := by
  unfold rRun
  have hk := (List.getElem?_eq_some_iff.1 h).1
  have hx := (List.getElem?_eq_some_iff.1 h).2
  rw [List.take_succ_eq_append_getElem hk, hx, List.foldl_append]
  rfl
theorem run_lists (C : Cfg) (now : Nat) : ∀ (l : List Cal) (r : RefR) (r' : DueR), r.again = r'.again → r.over = r'.over → (l.foldl (rStep C now) r).again = (l.foldl (dueStep C now) r').again ∧ (l.foldl (rStep C now) r).over = (l.foldl (dueStep C now) r').over
  | [], r, r', h1, h2 => ⟨h1, h2⟩
  | x :: t, r, r', h1, h2 => by
    rw [List.foldl_cons, List.foldl_cons]
    refine run_lists C now t _ _ ?_ ?_
    · unfold rStep dueStep; split <;> simp [h1]
    · unfold rStep dueStep; split <;> simp [h2]
theorem rRun_lists (C : Cfg) (now : Nat) (T S l : List Cal) : (rRun C now T l).again = (dueRun C now S l).again ∧ (rRun C now T l).over = (dueRun C now S l).over := run_lists C now l _ _ rfl rfl
theorem rStep_len (C : Cfg) (now : Nat) (r : RefR) (x : Cal) : (rStep C now r x).T.length = r.T.length := by unfold rStep; split <;> simp
theorem rRun_len (C : Cfg) (now : Nat) (T l : List Cal) : (rRun C now T l).T.length = T.length := by
  have key : ∀ (l : List Cal) (r : RefR), (l.foldl (rStep C now) r).T.length = r.T.length := by
    intro l
    induction l with
    | nil => intro r; rfl
    | cons x t ih => intro r; rw [List.foldl_cons, ih, rStep_len]
  exact key l ⟨T, [], []⟩
theorem rStep_other (C : Cfg) (now : Nat) (r : RefR) (x : Cal) (hx : 1 ≤ x.id) {i : Nat} (hi : i + 1 ≠ x.id) : (rStep C now r x).T[i]? = r.T[i]? := by
  unfold rStep; split <;> simp only <;> rw [List.getElem?_set_ne (by omega)]
theorem rRun_other (C : Cfg) (now : Nat) (T l : List Cal) (hl : ∀ x ∈ l, 1 ≤ x.id) {i : Nat} (hi : i + 1 ∉ l.map (·.id)) : (rRun C now T l).T[i]? = T[i]? := by
  have key : ∀ (l : List Cal) (r : RefR), (∀ x ∈ l, 1 ≤ x.id) → i + 1 ∉ l.map (·.id) → (l.foldl (rStep C now) r).T[i]? = r.T[i]? := by
    intro l
    induction l with
    | nil => intro r _ _; rfl
    | cons x t ih =>
      intro r h1 h2
      simp only [List.map_cons, List.mem_cons, not_or] at h2
      rw [List.foldl_cons, ih _ (fun y hy => h1 y (List.mem_cons_of_mem _ hy)) h2.2, rStep_other C now r x (h1 x (List.mem_cons_self ..)) h2.1]
  exact key l ⟨T, [], []⟩ hl hi
/-- numbers are places -/
def IdsO (o : Nat) (T : List Cal) : Prop := ∀ i x, T[i]? = some x → x.id = o + i + 1
theorem IdsO.tail {o : Nat} {a : Cal} {r : List Cal} (h : IdsO o (a :: r)) : IdsO (o + 1) r := fun i x hx => by have := h (i + 1) x (by simpa using hx); omega
theorem IdsO.gt {o : Nat} {r : List Cal} (h : IdsO o r) : ∀ x ∈ r, o < x.id := fun x hx => by
  obtain ⟨i, hi, rfl⟩ := List.getElem_of_mem hx
  have := h i _ (List.getElem?_eq_getElem hi); omega
theorem wo_none {S : List Cal} {id : Nat} (h : ∀ x ∈ S, x.id ≠ id) : wo S id = S := by
  unfold wo; rw [List.filter_eq_self]; intro x hx; simpa using h x hx
theorem upS_none {id : Nat} {y : Cal} : ∀ {S : List Cal}, (∀ x ∈ S, x.id ≠ id) → upS S id y = S
  | [], _ => rfl
  | a :: r, h => by
    show (if a.id = id then y else a) :: upS r id y = a :: r
    rw [if_neg (h a (List.mem_cons_self ..)), upS_none fun x hx => h x (List.mem_cons_of_mem _ hx)]
theorem live_cons (a : Cal) (r : List Cal) : live (a :: r) = if 0 < a.tries then a :: live r else live r := by
  unfold live
  by_cases h : 0 < a.tries
  · rw [if_pos h, List.filter_cons_of_pos (by simp [liveB, h])]
  · rw [if_neg h, List.filter_cons_of_neg (by simp [liveB, h])]
theorem live_mem {T : List Cal} {x : Cal} : x ∈ live T ↔ x ∈ T ∧ 0 < x.tries := by simp [live, liveB, List.mem_filter]
theorem live_ended : ∀ (T : List Cal) (o j : Nat) (x : Cal), IdsO o T → T[j]? = some x → live (T.set j x.ended) = wo (live T) x.id
  | [], o, j, x, h, hx => by simp at hx
  | a :: r, o, 0, x, h, hx => by
    simp at hx
    subst hx
    have hid := h 0 a rfl
    have hr : ∀ z ∈ live r, z.id ≠ a.id := fun z hz => by have := h.tail.gt z (live_mem.1 hz).1; omega
    rw [List.set_cons_zero, live_cons, live_cons, if_neg (by simp [Cal.ended])]
    by_cases h0 : 0 < a.tries
    · rw [if_pos h0]
      have : wo (a :: live r) a.id = wo (live r) a.id := by unfold wo; rw [List.filter_cons_of_neg (by simp)]
      rw [this, wo_none hr]
    · rw [if_neg h0, wo_none hr]
  | a :: r, o, j + 1, x, h, hx => by
    simp at hx
    have hid := h 0 a rfl
    have hxid := h.tail j x hx
    rw [List.set_cons_succ, live_cons, live_cons, live_ended r (o + 1) j x h.tail hx]
    by_cases h0 : 0 < a.tries
    · rw [if_pos h0, if_pos h0]
      unfold wo
      rw [List.filter_cons_of_pos (by simp; omega)]
    · rw [if_neg h0, if_neg h0]
theorem live_tried : ∀ (T : List Cal) (o j : Nat) (x y : Cal), IdsO o T → T[j]? = some x → 0 < x.tries → y.id = x.id → 0 < y.tries → live (T.set j y) = upS (live T) x.id y
  | [], o, j, x, y, h, hx, _, _, _ => by simp at hx
  | a :: r, o, 0, x, y, h, hx, h1, h2, h3 => by
    simp at hx
    subst hx
    have hid := h 0 a rfl
    have hr : ∀ z ∈ live r, z.id ≠ a.id := fun z hz => by have := h.tail.gt z (live_mem.1 hz).1; omega
    rw [List.set_cons_zero, live_cons, live_cons, if_pos h3, if_pos h1]
    show _ = (if a.id = a.id then y else a) :: upS (live r) a.id y
    rw [if_pos rfl, upS_none hr]
  | a :: r, o, j + 1, x, y, h, hx, h1, h2, h3 => by
    simp at hx
    have hid := h 0 a rfl
    have hxid := h.tail j x hx
    rw [List.set_cons_succ, live_cons, live_cons, live_tried r (o + 1) j x y h.tail hx h1 h2 h3]
    by_cases h0 : 0 < a.tries
    · rw [if_pos h0, if_pos h0]
      show _ = (if a.id = x.id then y else a) :: upS (live r) x.id y
      rw [if_neg (by omega)]
    · rw [if_neg h0, if_neg h0]
theorem IdsO.set {T : List Cal} (h : IdsO 0 T) (j : Nat) {x y : Cal} (hx : T[j]? = some x) (hy : y.id = x.id) : IdsO 0 (T.set j y) := fun i z hz => by
  have hj := (List.getElem?_eq_some_iff.1 hx).1
  by_cases e : i = j
  · subst e
    rw [List.getElem?_set_self hj] at hz
    cases hz
    rw [hy]; exact h i x hx
  · rw [List.getElem?_set_ne (Ne.symm e)] at hz; exact h i z hz
/-- the document's state behind Due is the program's -/
theorem rRun_live (C : Cfg) (now : Nat) : ∀ (l : List Cal) (r : RefR) (r' : DueR), IdsO 0 r.T → (∀ x ∈ l, r.T[x.id - 1]? = some x ∧ 0 < x.tries ∧ 1 ≤ x.id) → (l.map (·.id)).Nodup → live r.T = r'.S → live (l.foldl (rStep C now) r).T = (l.foldl (dueStep C now) r').S
  | [], r, r', _, _, _, h => h
  | x :: t, r, r', hi, hx, hd, h => by
    rw [List.foldl_cons, List.foldl_cons]
    obtain ⟨hx1, hx2, hx3⟩ := hx x (List.mem_cons_self ..)
    rw [List.map_cons, List.nodup_cons] at hd
    refine rRun_live C now t _ _ ?_ (fun z hz => ?_) hd.2 ?_
    · unfold rStep; split
      · exact hi.set _ hx1 rfl
      · exact hi.set _ hx1 rfl
    · obtain ⟨h1, h2, h3⟩ := hx z (List.mem_cons_of_mem _ hz)
      have hne : z.id ≠ x.id := fun e => hd.1 (e ▸ List.mem_map.2 ⟨z, hz, rfl⟩)
      exact ⟨by rw [rStep_other C now r x hx3 (by omega)]; exact h1, h2, h3⟩
    · unfold rStep dueStep; split
      · simp only; rw [live_ended r.T 0 _ x hi hx1, h]
      · simp only; rw [live_tried r.T 0 (x.id - 1) x (triedC C x now) hi hx1 hx2 rfl (by simp [triedC]), h]

/-- may call i be told? -/
def Cand (T : List Cal) (dn : List Bool) (now i : Nat) (x : Cal) : Prop := T[i]? = some x ∧ dn[i]? = some false ∧ 0 < x.tries ∧ x.due ≤ now
/-- the soonest of those below i -/
def Best (T : List Cal) (dn : List Bool) (now i : Nat) (a : Option Nat) : Prop :=
  (a = none ∧ ∀ j x, j < i → ¬ Cand T dn now j x) ∨ ∃ b y, a = some b ∧ b < i ∧ Cand T dn now b y ∧ ∀ j x, j < i → Cand T dn now j x → (y.due < x.due ∨ (y.due = x.due ∧ b ≤ j))
section
variable {T : List Cal} {dn : List Bool} {now i : Nat} {a : Option Nat}
theorem Best.zero : Best T dn now 0 none := .inl ⟨rfl, fun j x h => by omega⟩
theorem Best.skip (h : Best T dn now i a) (hn : ∀ x, ¬ Cand T dn now i x) : Best T dn now (i + 1) a := by
  rcases h with ⟨h1, h2⟩ | ⟨b, y, h1, h2, h3, h4⟩
  · exact .inl ⟨h1, fun j x hj hc => if e : j = i then hn x (e ▸ hc) else h2 j x (by omega) hc⟩
  · exact .inr ⟨b, y, h1, by omega, h3, fun j x hj hc => if e : j = i then absurd (e ▸ hc) (hn x) else h4 j x (by omega) hc⟩
theorem Best.take (h : Best T dn now i a) {x : Cal} (hc : Cand T dn now i x) (ha : ∀ b y, a = some b → T[b]? = some y → x.due < y.due) : Best T dn now (i + 1) (some i) := by
  refine .inr ⟨i, x, rfl, by omega, hc, fun j z hj hz => ?_⟩
  by_cases e : j = i
  · subst e
    have : x = z := by have := hc.1.symm.trans hz.1; injection this
    subst this; omega
  · rcases h with ⟨h1, h2⟩ | ⟨b, y, h1, h2, h3, h4⟩
    · exact absurd hz (h2 j z (by omega))
    · have := ha b y h1 h3.1
      have := h4 j z (by omega) hz
      omega
theorem Best.stay (h : Best T dn now i a) {x : Cal} (hc : Cand T dn now i x) {b : Nat} {y : Cal} (ha : a = some b) (hy : T[b]? = some y) (hd : ¬ x.due < y.due) : Best T dn now (i + 1) a := by
  rcases h with ⟨h1, h2⟩ | ⟨b', y', h1, h2, h3, h4⟩
  · rw [h1] at ha; cases ha
  · have e : b' = b := by rw [h1] at ha; injection ha
    subst e
    have e2 : y' = y := by have := h3.1.symm.trans hy; injection this
    subst e2
    refine .inr ⟨b', y', h1, by omega, h3, fun j z hj hz => ?_⟩
    by_cases e : j = i
    · subst e
      have : x = z := by have := hc.1.symm.trans hz.1; injection this
      subst this; omega
    · exact h4 j z (by omega) hz
end
/-- what comes next in order -/
theorem Best.next {C : Cfg} {T0 l : List Cal} {dn : List Bool} {now n : Nat} {a : Option Nat} (hT : IdsO 0 T0) (hp : l.Perm ((live T0).filter fun x => decide (x.due ≤ now))) (hs : SortedBy cfDue l) (hd : (l.map (·.id)).Nodup) (hn : n ≤ l.length)
    (hdn : ∀ i, i < T0.length → dn[i]? = some (decide (i + 1 ∈ (l.take n).map (·.id)))) (h : Best (rRun C now T0 (l.take n)).T dn now T0.length a) :
    (a = none ∧ n = l.length) ∨ ∃ x, l[n]? = some x ∧ a = some (x.id - 1) := by
  have hmem : ∀ x, x ∈ l ↔ x ∈ T0 ∧ 0 < x.tries ∧ x.due ≤ now := fun x => by
    rw [hp.mem_iff, List.mem_filter, live_mem]; simp [and_assoc]
  have hpos : ∀ x ∈ l, 1 ≤ x.id := fun x hx => by have := hT.gt x ((hmem x).1 hx).1; omega
  have hplace : ∀ x ∈ l, T0[x.id - 1]? = some x := fun x hx => by
    obtain ⟨i, hi, e⟩ := List.getElem_of_mem ((hmem x).1 hx).1
    have h1 := List.getElem?_eq_getElem hi
    rw [e] at h1
    have h2 := hT i x h1
    rw [show x.id - 1 = i by omega]; exact h1
  have htk : ∀ x ∈ l.take n, 1 ≤ x.id := fun x hx => hpos x (List.mem_of_mem_take hx)
  have hun : ∀ i, i + 1 ∉ (l.take n).map (·.id) → (rRun C now T0 (l.take n)).T[i]? = T0[i]? := fun i hi => rRun_other C now T0 _ htk hi
  -- those that may be told are those that are left
  have hcand : ∀ i x, Cand (rRun C now T0 (l.take n)).T dn now i x → x ∈ l.drop n ∧ x.id = i + 1 := fun i x hc => by
    obtain ⟨h1, h2, h3, h4⟩ := hc
    have hi : i < T0.length := by have := (List.getElem?_eq_some_iff.1 h1).1; rw [rRun_len] at this; exact this
    rw [hdn i hi] at h2
    simp only [Option.some.injEq, decide_eq_false_iff_not] at h2
    rw [hun i h2] at h1
    have hid := hT i x h1
    have hxl : x ∈ l := (hmem x).2 ⟨List.mem_of_getElem? h1, h3, h4⟩
    rw [← List.take_append_drop n l, List.mem_append] at hxl
    rcases hxl with hxl | hxl
    · exact absurd (List.mem_map.2 ⟨x, hxl, by omega⟩) h2
    · exact ⟨hxl, by omega⟩
  have hback : ∀ x ∈ l.drop n, Cand (rRun C now T0 (l.take n)).T dn now (x.id - 1) x := fun x hx => by
    have hxl := List.mem_of_mem_drop hx
    obtain ⟨h1, h2, h3⟩ := (hmem x).1 hxl
    have hnot : x.id ∉ (l.take n).map (·.id) := fun hm => by
      rw [← List.take_append_drop n l, List.map_append, List.nodup_append] at hd
      exact hd.2.2 x.id hm x.id (List.mem_map.2 ⟨x, hx, rfl⟩) rfl
    have hp1 := hpos x hxl
    have e : x.id - 1 + 1 = x.id := by omega
    have hi := (List.getElem?_eq_some_iff.1 (hplace x hxl)).1
    refine ⟨by rw [hun _ (by rw [e]; exact hnot)]; exact hplace x hxl, ?_, h2, h3⟩
    rw [hdn _ hi, e]
    simp only [Option.some.injEq, decide_eq_false_iff_not]
    exact hnot
  have hlen : ∀ x ∈ l, x.id - 1 < T0.length := fun x hx => (List.getElem?_eq_some_iff.1 (hplace x hx)).1
  rcases h with ⟨h1, h2⟩ | ⟨b, y, h1, h2, h3, h4⟩
  · refine .inl ⟨h1, ?_⟩
    refine Classical.byContradiction fun hne => ?_
    have hlt : n < l.length := by omega
    have hx : l[n] ∈ l.drop n := List.mem_of_getElem? (i := 0) (by rw [List.getElem?_drop, Nat.add_zero]; exact List.getElem?_eq_getElem hlt)
    exact h2 _ _ (hlen _ (List.mem_of_mem_drop hx)) (hback _ hx)
  · obtain ⟨hyd, hyi⟩ := hcand b y h3
    have hlt : n < l.length := by
      refine Classical.byContradiction fun hne => ?_
      rw [List.drop_eq_nil_of_le (by omega)] at hyd
      cases hyd
    have hx : l[n] ∈ l.drop n := List.mem_of_getElem? (i := 0) (by rw [List.getElem?_drop, Nat.add_zero]; exact List.getElem?_eq_getElem hlt)
    have h5 := h4 _ _ (hlen _ (List.mem_of_mem_drop hx)) (hback _ hx)
    have h6 : y = l[n] ∨ ¬ cfDue y l[n] < 0 := by
      rw [List.drop_eq_getElem_cons hlt] at hyd
      rcases List.mem_cons.1 hyd with h | h
      · exact .inl h
      · right
        have hs2 : SortedBy cfDue (l.drop n) := hs.sublist (List.drop_sublist n l)
        rw [List.drop_eq_getElem_cons hlt] at hs2
        exact (List.pairwise_cons.1 hs2).1 y h
    have hxp := hpos _ (List.mem_of_mem_drop hx)
    have hid : y.id = l[n].id := by
      rcases h6 with h6 | h6
      · rw [h6]
      · rw [cfDue_neg] at h6
        omega
    exact .inr ⟨l[n], List.getElem?_eq_getElem hlt, by rw [h1]; congr 1; omega⟩
end Go.Proofs.Ytjhdlohcjodgjaa
