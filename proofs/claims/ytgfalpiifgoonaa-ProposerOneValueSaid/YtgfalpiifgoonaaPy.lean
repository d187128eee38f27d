/- Paxos in plain Lean: an acceptor accepts, a proposer hears a promise, a learner hears. -/
import Derived.Test.YtgfalpiifgoonaaPx
namespace Go.Proofs.Ytgfalpiifgoonaa
open Go.RowKit Go.Sort
set_option linter.unusedVariables false
set_option linter.unusedSectionVars false
set_option linter.unusedSimpArgs false
set_option maxRecDepth 100000
section
variable {n : Nat} {vote : ByteArray} {x : PX}
/-- an acceptor accepts -/
theorem inv_accept (h : x.Inv n vote) {k : Nat} (hk : k < n) (b : Bl) (v : ByteArray) (hc : x.C b v) (hb : low b (x.r k).p = false) (l : List Mg) (hl : l ≠ []) (hm : ∀ m ∈ l, m.fr = (k : Int) ∧ m.b = b ∧ m.v = v) :
    ({x with A := upA x.A k ⟨b, ⟨true, b, v⟩⟩, m5 := x.m5 ++ l} : PX).Inv n vote := by
  obtain ⟨X, hX⟩ : ∃ X, X = ({x with A := upA x.A k ⟨b, ⟨true, b, v⟩⟩, m5 := x.m5 ++ l} : PX) := ⟨_, rfl⟩
  have hrk : X.r k = ⟨b, ⟨true, b, v⟩⟩ := by rw [hX]; simp only [PX.r, r_same]
  have hro : ∀ i, i ≠ k → X.r i = x.r i := fun i e => by rw [hX]; simp only [PX.r, r_other e]
  have hr : ∀ i c, low (x.r i).p c = false → low (X.r i).p c = false := by
    intro i c hc
    by_cases e : i = k
    · subst e; rw [hrk]; exact le_le hb hc
    · rw [hro i e]; exact hc
  have hr2 : ∀ i c, low c (x.r i).p = true → low c (X.r i).p = true := fun i c hc => lt_le hc (hr i _ (le_self _))
  have hV : ∀ i c u, x.V i c u → X.V i c u := fun i c u ⟨m, h1, h2⟩ => by rw [hX]; exact ⟨m, List.mem_append.2 (.inl h1), h2⟩
  have hVk : X.V k b v := by
    obtain ⟨m, r, e⟩ := List.exists_cons_of_ne_nil hl
    have : m ∈ l := by rw [e]; simp
    rw [hX]
    exact ⟨m, List.mem_append.2 (.inr this), hm m this⟩
  have hV2 : ∀ i c u, X.V i c u → x.V i c u ∨ (i = k ∧ c = b ∧ u = v) := fun i c u hh => by
    rw [hX] at hh
    obtain ⟨m, h1, h2, h3, h4⟩ := hh
    rcases List.mem_append.1 h1 with h1 | h1
    · exact .inl ⟨m, h1, h2, h3, h4⟩
    · obtain ⟨g1, g2, g3⟩ := hm m h1
      refine .inr ⟨?_, h3.symm.trans g2, h4.symm.trans g3⟩
      have := h2.symm.trans g1
      omega
  have hC : ∀ c u, X.C c u ↔ x.C c u := fun c u => by rw [hX]; exact Iff.rfl
  have hP : X.P = x.P := by rw [hX]
  have hL : X.L = x.L := by rw [hX]
  have hrd : X.rd = x.rd := by rw [hX]
  have hds : X.ds = x.ds := by rw [hX]
  have hm4 : X.m4 = x.m4 := by rw [hX]
  rw [← hX]
  clear hX
  exact {
    rd0 := hrd ▸ h.rd0
    vok := fun i c u hv => by
      rcases hV2 i c u hv with hv | ⟨e1, e2, e3⟩
      · obtain ⟨h1, h2, h3, h4, h5⟩ := h.vok i c u hv
        by_cases e : i = k
        · subst e
          rw [hrk]
          exact ⟨h1, (hC _ _).2 h2, le_le hb h3, rfl, le_le hb h3⟩
        · rw [hro i e]
          exact ⟨h1, (hC _ _).2 h2, h3, h4, h5⟩
      · rw [e1, e2, e3, hrk]
        exact ⟨hk, (hC _ _).2 hc, le_self _, rfl, le_self _⟩
    aok := fun i hi hh => by
      by_cases e : i = k
      · subst e
        rw [hrk]; exact hVk
      · rw [hro i e] at hh ⊢
        exact hV _ _ _ (h.aok i hi hh)
    uniq := fun c u u2 h1 h2 => h.uniq c u u2 ((hC _ _).1 h1) ((hC _ _).1 h2)
    cok := fun c u h1 => by rw [hrd]; exact h.cok c u ((hC _ _).1 h1)
    cD := fun c u h1 => by rw [hds]; exact h.cD c u ((hC _ _).1 h1)
    safe := fun c u h1 c2 u2 p1 p2 p3 => by
      obtain ⟨Q, q1, q2⟩ := h.safe c u ((hC _ _).1 h1) c2 u2 p1 p2 p3
      refine ⟨Q, q1, fun i hi hq => ⟨hr2 _ _ (q2 i hi hq).1, fun hv => ?_⟩⟩
      rcases hV2 i c2 u2 hv with hv | ⟨e1, e2, e3⟩
      · exact (q2 i hi hq).2 hv
      · have := (q2 i hi hq).1
        rw [e1, e2] at this
        exact lt_not this hb
    say := fun q hq => by
      rw [hm4] at hq
      obtain ⟨i, s⟩ := h.say q hq
      refine ⟨i, s.fr, s.lt, hr i _ s.pr, fun hh => hV _ _ _ (s.has hh), fun c u hv hlo => ?_⟩
      rcases hV2 i c u hv with hv | ⟨e1, e2, e3⟩
      · exact s.top c u hv hlo
      · have h1 := s.pr
        rw [e2] at hlo
        rw [e1] at h1
        exact (lt_not (lt_le hlo h1) hb).elim
    pz := fun j hj => by
      rw [hP, hrd]
      obtain ⟨a1, a2, a3⟩ := h.pz j hj
      refine ⟨a1, a2, a3.imp id fun s => ⟨s.r1, s.nd, fun v hc => s.no v ((hC _ _).1 hc), fun hh => hds ▸ s.own hh, fun hh => let ⟨i, hi⟩ := s.has hh; ⟨i, hV _ _ _ hi⟩, fun i hi hs => ?_⟩⟩
      obtain ⟨p1, p2⟩ := s.pr i hi hs
      refine ⟨hr i _ p1, fun c u hv hlo => ?_⟩
      rcases hV2 i c u hv with hv | ⟨e1, e2, e3⟩
      · exact p2 c u hv hlo
      · rw [e2] at hlo
        rw [e1] at p1
        exact (lt_not (lt_le hlo p1) hb).elim
    fit := fun j hj => by rw [hL]; exact h.fit j hj
    ch := fun j hj => by
      rw [hL]
      intro hh
      obtain ⟨Q, q1, q2⟩ := h.ch j hj hh
      exact ⟨Q, q1, fun i hi hq => hV _ _ _ (q2 i hi hq)⟩
    last := fun j hj => by
      rw [hL]
      exact fun i y h1 h2 => hV _ _ _ (h.last j hj i y h1 h2) }
/-! ### what is weighed -/
theorem wg_cases (best a : Ac) : (heavy best a = true ∧ wg best a = a ∧ a.is = true ∧ (best.is = true → low a.b best.b = false)) ∨ (heavy best a = false ∧ wg best a = best ∧ (a.is = true → best.is = true ∧ low best.b a.b = false)) := by
  unfold wg
  cases hh : heavy best a
  · refine .inr ⟨rfl, by simp, fun ha => ?_⟩
    unfold heavy at hh
    rw [ha] at hh
    simpa using hh
  · refine .inl ⟨rfl, by simp, ?_, fun hb => ?_⟩
    · unfold heavy at hh
      cases ha : a.is
      · rw [ha] at hh; simp at hh
      · rfl
    · unfold heavy at hh
      rw [hb] at hh
      simp at hh
      exact lt_as hh.2
/-- a promise is counted -/
theorem und_more {j : Nat} {s : Pst} (hu : x.Und n j s) {m : Mg} {k : Nat} (hs : x.Say n m k) (hb : m.b = s.bal) : x.Und n j ⟨s.bal, wout s.S k, wg s.best m.a⟩ := by
  have hw := wg_cases s.best m.a
  refine ⟨hu.r1, hu.nd, hu.no, fun hh => ?_, fun hh => ?_, fun i hi ho => ?_⟩
  · show (wg s.best m.a).v ∈ x.ds
    change (wg s.best m.a).is = false at hh
    rcases hw with ⟨_, e, e2, _⟩ | ⟨_, e, _⟩
    · rw [e, e2] at hh; cases hh
    · rw [e] at hh ⊢; exact hu.own hh
  · show ∃ k, x.V k (wg s.best m.a).b (wg s.best m.a).v
    change (wg s.best m.a).is = true at hh
    rcases hw with ⟨_, e, e2, _⟩ | ⟨_, e, _⟩
    · rw [e]; exact ⟨k, hs.has e2⟩
    · rw [e] at hh ⊢; exact hu.has hh
  · show low (x.r i).p s.bal = false ∧ ∀ c u, x.V i c u → low c s.bal = true → (wg s.best m.a).is = true ∧ low (wg s.best m.a).b c = false
    change wout s.S k i = false at ho
    by_cases e : i = k
    · subst e
      rw [← hb]
      refine ⟨hs.pr, fun c u hv hlo => ?_⟩
      obtain ⟨t1, t2⟩ := hs.top c u hv hlo
      rcases hw with ⟨_, e, e2, _⟩ | ⟨_, e, e2⟩
      · rw [e]; exact ⟨t1, t2⟩
      · rw [e]; exact ⟨(e2 t1).1, le_le (e2 t1).2 t2⟩
    · simp only [wout, if_neg e] at ho
      obtain ⟨p1, p2⟩ := hu.pr i hi ho
      refine ⟨p1, fun c u hv hlo => ?_⟩
      obtain ⟨t1, t2⟩ := p2 c u hv hlo
      rcases hw with ⟨_, e, e2, e3⟩ | ⟨_, e, _⟩
      · rw [e]; exact ⟨e2, le_le (e3 t1) t2⟩
      · rw [e]; exact ⟨t1, t2⟩
/-- with more than half, the value is safe -/
theorem und_safe (h : x.Inv n vote) {j : Nat} {s : Pst} (hu : x.Und n j s) (hq : n < 2 * (n - cnt n s.S)) (c : Bl) (u : ByteArray) (h0 : low c b0 = false) (hlo : low c s.bal = true) (hne : u ≠ s.best.v) :
    ∃ Q, n < 2 * cnt n Q ∧ ∀ k, k < n → Q k = true → low c (x.r k).p = true ∧ ¬ x.V k c u := by
  by_cases hd : s.best.is = true ∧ low c s.best.b = true
  · obtain ⟨k, hk⟩ := hu.has hd.1
    exact h.safe _ _ (h.vok _ _ _ hk).2.1 c u h0 hd.2 hne
  · refine ⟨fun k => !(s.S k), ?_, fun k hk ho => ?_⟩
    · have := cnt_not s.S n
      omega
    · have ho2 : s.S k = false := by simpa using ho
      obtain ⟨p1, p2⟩ := hu.pr k hk ho2
      refine ⟨lt_le hlo p1, fun hv => ?_⟩
      obtain ⟨t1, t2⟩ := p2 c u hv hlo
      rcases tri c s.best.b with e | e | e
      · exact hd ⟨t1, e⟩
      · obtain ⟨k2, hk2⟩ := hu.has t1
        have c1 := (h.vok _ _ _ hk2).2.1
        have c2 := (h.vok _ _ _ hv).2.1
        rw [e] at c2
        exact hne (h.uniq _ _ _ c2 c1)
      · exact lt_not e t2
theorem und_D (h : x.Inv n vote) {j : Nat} {s : Pst} (hu : x.Und n j s) : s.best.v ∈ x.ds := by
  cases hb : s.best.is
  · exact hu.own hb
  · obtain ⟨k, hk⟩ := hu.has hb
    exact h.cD _ _ (h.vok _ _ _ hk).2.1
abbrev upP {α : Type} (P : Nat → α) (j : Nat) (s : α) : Nat → α := fun i => if i = j then s else P i
/-- a proposer hears a promise: what it then asks -/
theorem inv_promise (h : x.Inv n vote) {j : Nat} (hj : j < 3) {m : Mg} {k : Nat} (hs : x.Say n m k) (l : List Mg) (hl : ∀ q ∈ l, q.b = m.b ∧ q.v = (prmP n (x.P j) m.fr m.b m.a).v) :
    ({x with P := upP x.P j (prmP n (x.P j) m.fr m.b m.a).s, m3 := x.m3 ++ if (prmP n (x.P j) m.fr m.b m.a).ok = true then l else []} : PX).Inv n vote := by
  obtain ⟨a1, a2, a3⟩ := h.pz j hj
  have hno : ∀ s : Pst, (s.S = noS ∨ x.Und n j s) → s.bal = (x.P j).bal → ({x with P := upP x.P j s} : PX).Inv n vote := fun s hs he => {
    rd0 := h.rd0
    vok := h.vok
    aok := h.aok
    uniq := h.uniq
    cok := h.cok
    cD := h.cD
    safe := h.safe
    say := fun m hm => let ⟨k, s⟩ := h.say m hm; ⟨k, s.fr, s.lt, s.pr, s.has, s.top⟩
    pz := fun i hi => by
      show 0 ≤ (upP x.P j s i).bal.round ∧ (upP x.P j s i).bal.round ≤ x.rd ∧ ((upP x.P j s i).S = noS ∨ _)
      by_cases e : i = j
      · subst e
        simp only [upP, if_pos]
        rw [he]
        exact ⟨a1, a2, hs.imp id fun s => ⟨s.r1, s.nd, s.no, s.own, s.has, s.pr⟩⟩
      · simp only [upP, if_neg e]
        obtain ⟨h1, h2, h3⟩ := h.pz i hi
        exact ⟨h1, h2, h3.imp id fun s => ⟨s.r1, s.nd, s.no, s.own, s.has, s.pr⟩⟩
    fit := h.fit
    ch := h.ch
    last := h.last }
  by_cases hc : m.b = (x.P j).bal ∧ 0 ≤ m.fr ∧ m.fr < n ∧ (x.P j).S m.fr.toNat = true
  · have hfr : m.fr.toNat = k := by rw [hs.fr]; simp
    rcases a3 with e | hu
    · rw [e] at hc; exact absurd hc.2.2.2 (by simp)
    have hu2 := und_more hu hs hc.1
    by_cases hq : n < 2 * (n - cnt n (wout (x.P j).S m.fr.toNat))
    · have e : prmP n (x.P j) m.fr m.b m.a = ⟨⟨(x.P j).bal, noS, wg (x.P j).best m.a⟩, (wg (x.P j).best m.a).v, true⟩ := by
        unfold prmP; rw [if_pos hc, if_pos hq]
      rw [e] at hl ⊢
      rw [if_pos rfl]
      rw [hfr] at hq
      refine inv_ask h _ l m.b (wg (x.P j).best m.a).v hl (fun u hcu => ?_) (.inr ?_) (und_D h hu2) (fun c u p1 p2 p3 => und_safe h hu2 hq c u p1 (hc.1 ▸ p2) p3) fun i hi => ?_
      · rw [hc.1] at hcu; exact (hu.no u hcu).elim
      · rw [hc.1]; exact ⟨hu.r1, a2⟩
      · by_cases e : i = j
        · subst e
          simp only [upP, if_pos]
          exact ⟨a1, a2, .inl trivial⟩
        · simp only [upP, if_neg e]
          obtain ⟨h1, h2, h3⟩ := h.pz i hi
          refine ⟨h1, h2, h3.imp id fun s => ⟨s, fun e2 => ?_⟩⟩
          have n1 := s.nd
          have n2 := hu.nd
          rw [e2, hc.1, n2] at n1
          omega
    · have e : prmP n (x.P j) m.fr m.b m.a = ⟨⟨(x.P j).bal, wout (x.P j).S m.fr.toNat, wg (x.P j).best m.a⟩, nov, false⟩ := by
        unfold prmP; rw [if_pos hc, if_neg hq]
      rw [e, hfr]
      simp only [Bool.false_eq_true, if_false, List.append_nil]
      exact hno _ (.inr hu2) rfl
  · have e : prmP n (x.P j) m.fr m.b m.a = ⟨x.P j, nov, false⟩ := by
      unfold prmP; rw [if_neg hc]
    rw [e]
    simp only [Bool.false_eq_true, if_false, List.append_nil]
    exact hno _ a3 rfl
end
end Go.Proofs.Ytgfalpiifgoonaa
