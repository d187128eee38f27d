/- Paxos in plain Lean: of one instance, what acceptors, proposers and learners hold, and all that was ever sent. -/
import Derived.Test.YtgfalpiifgoonaaAny
namespace Go.Proofs.Ytgfalpiifgoonaa
open Go.RowKit Go.Sort
set_option linter.unusedVariables false
set_option linter.unusedSectionVars false
set_option linter.unusedSimpArgs false
set_option maxRecDepth 100000

/-! ### the order of ballots -/
theorem low_tt {b p : Bl} : low b p = true ↔ (b.round < p.round ∨ (b.round = p.round ∧ b.node < p.node)) := by simp [low]
theorem low_ff {b p : Bl} : low b p = false ↔ (p.round < b.round ∨ (p.round = b.round ∧ p.node ≤ b.node)) := by
  simp [low]; omega
theorem le_self (b : Bl) : low b b = false := by rw [low_ff]; omega
/-- p ≤ b, q ≤ p -/
theorem le_le {b p q : Bl} (h1 : low b p = false) (h2 : low p q = false) : low b q = false := by
  rw [low_ff] at *; omega
theorem lt_le {a b c : Bl} (h1 : low a b = true) (h2 : low c b = false) : low a c = true := by
  rw [low_tt] at *; rw [low_ff] at h2; omega
theorem lt_lt {a b c : Bl} (h1 : low a b = true) (h2 : low b c = true) : low a c = true := by
  rw [low_tt] at *; omega
theorem lt_not {a b : Bl} (h1 : low a b = true) (h2 : low a b = false) : False := by rw [h1] at h2; cases h2
theorem lt_as {a b : Bl} (h1 : low a b = true) : low b a = false := by
  rw [low_tt] at h1; rw [low_ff]; omega
theorem tri (a b : Bl) : low a b = true ∨ a = b ∨ low b a = true := by
  rcases a with ⟨a1, a2⟩; rcases b with ⟨b1, b2⟩
  rw [low_tt, low_tt]
  simp only [Bl.mk.injEq]
  omega

/-! ### more than half -/
theorem cnt_mono {S T : Nat → Bool} : ∀ {n : Nat}, (∀ k, k < n → S k = true → T k = true) → cnt n S ≤ cnt n T
  | 0, _ => by simp [cnt]
  | n + 1, h => by
    rw [cnt_succ, cnt_succ]
    have := cnt_mono (n := n) fun k hk => h k (by omega)
    have h2 := h n (by omega)
    by_cases e : S n = true
    · rw [if_pos e, if_pos (h2 e)]; omega
    · rw [if_neg e]; split <;> omega
theorem cnt_not (S : Nat → Bool) : ∀ n, cnt n (fun k => !(S k)) + cnt n S = n
  | 0 => by simp [cnt]
  | n + 1 => by
    rw [cnt_succ, cnt_succ]
    have := cnt_not S n
    by_cases e : S n = true
    · rw [e]; simp; omega
    · rw [Bool.not_eq_true] at e
      rw [e]; simp; omega
/-- two majorities meet -/
theorem meet2 {n : Nat} {S T : Nat → Bool} (h1 : n < 2 * cnt n S) (h2 : n < 2 * cnt n T) : ∃ k, k < n ∧ S k = true ∧ T k = true := by
  refine Classical.byContradiction fun hno => ?_
  have h3 : cnt n S ≤ cnt n (fun k => !(T k)) := cnt_mono fun k hk hs => by
    cases ht : T k
    · rfl
    · exact (hno ⟨k, hk, hs, ht⟩).elim
  have := cnt_not T n
  omega

/-! ### the state -/
structure Mg where
  to_ : Nat
  fr : Int
  b : Bl
  v : ByteArray
  a : Ac
structure PX where
  A : Nat → Option Rw
  P : Nat → Pst
  L : Nat → Lst
  rd : Int
  m2 : List Mg
  m3 : List Mg
  m4 : List Mg
  m5 : List Mg
  ds : List ByteArray
abbrev PX.r (x : PX) (k : Nat) : Rw := (x.A k).getD r0
/-- was asked to accept -/
def PX.C (x : PX) (b : Bl) (v : ByteArray) : Prop := ∃ m ∈ x.m3, m.b = b ∧ m.v = v
/-- accepted -/
def PX.V (x : PX) (k : Nat) (b : Bl) (v : ByteArray) : Prop := ∃ m ∈ x.m5, m.fr = (k : Int) ∧ m.b = b ∧ m.v = v
/-- a proposer that awaits promises -/
structure PX.Und (x : PX) (n j : Nat) (s : Pst) : Prop where
  r1 : 1 ≤ s.bal.round
  nd : s.bal.node = (j : Int)
  no : ∀ v, ¬ x.C s.bal v
  own : s.best.is = false → s.best.v ∈ x.ds
  has : s.best.is = true → ∃ k, x.V k s.best.b s.best.v
  pr : ∀ k, k < n → s.S k = false → low (x.r k).p s.bal = false ∧ ∀ c u, x.V k c u → low c s.bal = true → s.best.is = true ∧ low s.best.b c = false
/-- what a promise says -/
structure PX.Say (x : PX) (n : Nat) (m : Mg) (k : Nat) : Prop where
  fr : m.fr = (k : Int)
  lt : k < n
  pr : low (x.r k).p m.b = false
  has : m.a.is = true → x.V k m.a.b m.a.v
  top : ∀ c u, x.V k c u → low c m.b = true → m.a.is = true ∧ low m.a.b c = false
structure PX.Inv (n : Nat) (vote : ByteArray) (x : PX) : Prop where
  rd0 : 0 ≤ x.rd
  vok : ∀ k b v, x.V k b v → k < n ∧ x.C b v ∧ low (x.r k).p b = false ∧ (x.r k).a.is = true ∧ low (x.r k).a.b b = false
  aok : ∀ k, k < n → (x.r k).a.is = true → x.V k (x.r k).a.b (x.r k).a.v
  uniq : ∀ b v u, x.C b v → x.C b u → v = u
  cok : ∀ b v, x.C b v → (b = b0 ∧ v = vote) ∨ (1 ≤ b.round ∧ b.round ≤ x.rd)
  cD : ∀ b v, x.C b v → v ∈ x.ds
  safe : ∀ b v, x.C b v → ∀ c u, low c b0 = false → low c b = true → u ≠ v → ∃ Q, n < 2 * cnt n Q ∧ ∀ k, k < n → Q k = true → low c (x.r k).p = true ∧ ¬ x.V k c u
  say : ∀ m ∈ x.m4, ∃ k, x.Say n m k
  pz : ∀ j, j < 3 → 0 ≤ (x.P j).bal.round ∧ (x.P j).bal.round ≤ x.rd ∧ ((x.P j).S = noS ∨ x.Und n j (x.P j))
  fit : ∀ j, j < 3 → (x.L j).Fit
  ch : ∀ j, j < 3 → (x.L j).ch.is = true → ∃ Q, n < 2 * cnt n Q ∧ ∀ k, k < n → Q k = true → x.V k (x.L j).ch.b (x.L j).ch.v
  last : ∀ j, j < 3 → ∀ k y, (x.L j).last[k]? = some y → y.is = true → x.V k y.b y.v
section
variable {n : Nat} {vote : ByteArray} {x : PX}

theorem PX.Inv.pos (h : x.Inv n vote) {b : Bl} {v : ByteArray} (hc : x.C b v) : low b b0 = false := by
  rcases h.cok b v hc with ⟨e, _⟩ | ⟨h1, _⟩
  · rw [e]; exact le_self _
  · rw [low_ff]; left; exact (by omega : (0 : Int) < b.round)
/-- no two values are chosen -/
theorem PX.Inv.one (h : x.Inv n vote) {i j : Nat} (hi : i < 3) (hj : j < 3) (h1 : (x.L i).ch.is = true) (h2 : (x.L j).ch.is = true) : (x.L i).ch.v = (x.L j).ch.v := by
  have main : ∀ (b c : Bl) (v u : ByteArray), (∃ Q, n < 2 * cnt n Q ∧ ∀ k, k < n → Q k = true → x.V k b v) → (∃ Q, n < 2 * cnt n Q ∧ ∀ k, k < n → Q k = true → x.V k c u) → low b c = true → v = u := by
    intro b c v u ⟨Q, q1, q2⟩ ⟨R, s1, s2⟩ hl
    obtain ⟨k, hk, _, hr⟩ := meet2 s1 s1
    have hC := (h.vok k c u (s2 k hk hr)).2.1
    refine Classical.byContradiction fun hne => ?_
    obtain ⟨k2, hk2, hq2, _⟩ := meet2 q1 q1
    obtain ⟨T, t1, t2⟩ := h.safe c u hC b v (h.pos (h.vok k2 b v (q2 k2 hk2 hq2)).2.1) hl hne
    obtain ⟨z, hz, hq, ht⟩ := meet2 q1 t1
    exact (t2 z hz ht).2 (q2 z hz hq)
  have a1 := h.ch i hi h1
  have a2 := h.ch j hj h2
  rcases tri (x.L i).ch.b (x.L j).ch.b with e | e | e
  · exact main _ _ _ _ a1 a2 e
  · obtain ⟨Q, q1, q2⟩ := a1
    obtain ⟨R, s1, s2⟩ := a2
    obtain ⟨k, hk, hq, hr⟩ := meet2 q1 s1
    have c1 := (h.vok _ _ _ (q2 k hk hq)).2.1
    have c2 := (h.vok _ _ _ (s2 k hk hr)).2.1
    rw [e] at c1
    exact h.uniq _ _ _ c1 c2
  · exact (main _ _ _ _ a2 a1 e).symm
/-- what is chosen was proposed -/
theorem PX.Inv.mine (h : x.Inv n vote) {i : Nat} (hi : i < 3) (h1 : (x.L i).ch.is = true) : (x.L i).ch.v ∈ x.ds := by
  obtain ⟨Q, q1, q2⟩ := h.ch i hi h1
  obtain ⟨k, hk, hq, _⟩ := meet2 q1 q1
  exact h.cD _ _ (h.vok _ _ _ (q2 k hk hq)).2.1
/-- the beginning -/
theorem inv_zero {A : Nat → Option Rw} {P : Nat → Pst} {L : Nat → Lst} (hA : ∀ k, A k = none) (hP : ∀ j, j < 3 → (P j).bal = b0 ∧ (P j).S = noS) (hL : ∀ j, j < 3 → (L j).ch = a0 ∧ ∀ (k : Nat) (y : Ac), (L j).last[k]? = some y → y.is = false) :
    (PX.mk A P L 0 [] [] [] [] [vote]).Inv n vote where
  rd0 := Int.le_refl 0
  vok := fun k b v ⟨m, hm, _⟩ => by cases hm
  aok := fun k hk h => by
    simp only [PX.r, hA, Option.getD_none] at h
    cases h
  uniq := fun b v u ⟨m, hm, _⟩ => by cases hm
  cok := fun b v ⟨m, hm, _⟩ => by cases hm
  cD := fun b v ⟨m, hm, _⟩ => by cases hm
  safe := fun b v ⟨m, hm, _⟩ => by cases hm
  say := fun m hm => by cases hm
  pz := fun j hj => by
    obtain ⟨h1, h2⟩ := hP j hj
    refine ⟨?_, ?_, .inl h2⟩ <;> (simp only [h1]; decide)
  fit := fun j hj => .inl (hL j hj).1
  ch := fun j hj h => by
    simp only [(hL j hj).1] at h
    cases h
  last := fun j hj k y h1 h2 => by
    have := (hL j hj).2 k y h1
    rw [h2] at this; cases this
/-- a proposer begins -/
theorem inv_begin (h : x.Inv n vote) (j : Nat) (v : ByteArray) (l : List Mg) :
    ({x with P := fun i => if i = j then ⟨⟨x.rd + 1, (j : Int)⟩, allS, ⟨false, b0, v⟩⟩ else x.P i, rd := x.rd + 1, m2 := l, ds := x.ds ++ [v]} : PX).Inv n vote where
  rd0 := by have := h.rd0; show 0 ≤ x.rd + 1; omega
  vok := h.vok
  aok := h.aok
  uniq := h.uniq
  cok := fun b v hc => (h.cok b v hc).imp id fun ⟨h1, h2⟩ => ⟨h1, by show b.round ≤ x.rd + 1; omega⟩
  cD := fun b v hc => List.mem_append.2 (.inl (h.cD b v hc))
  safe := h.safe
  say := fun m hm => let ⟨k, s⟩ := h.say m hm; ⟨k, s.fr, s.lt, s.pr, s.has, s.top⟩
  pz := fun i hi => by
    have h0 := h.rd0
    by_cases e : i = j
    · subst e
      simp only [if_pos]
      refine ⟨by omega, Int.le_refl _, .inr ⟨?_, rfl, fun u hc => ?_, fun _ => List.mem_append.2 (.inr (by simp)), fun hh => (by cases hh), fun k hk hs => (by cases hs)⟩⟩
      · show 1 ≤ x.rd + 1; omega
      · rcases h.cok _ _ hc with ⟨e2, _⟩ | ⟨_, e2⟩
        · have := congrArg Bl.round e2
          simp only at this; omega
        · simp only at e2; omega
    · simp only [if_neg e]
      obtain ⟨h1, h2, h3⟩ := h.pz i hi
      refine ⟨h1, by omega, h3.imp id fun s => ⟨s.r1, s.nd, s.no, fun hh => List.mem_append.2 (.inl (s.own hh)), s.has, s.pr⟩⟩
  fit := h.fit
  ch := h.ch
  last := h.last
/-- acceptors are asked to accept -/
theorem inv_ask (h : x.Inv n vote) (P : Nat → Pst) (l : List Mg) (b : Bl) (v : ByteArray) (hl : ∀ m ∈ l, m.b = b ∧ m.v = v) (hu : ∀ u, x.C b u → u = v) (hc : (b = b0 ∧ v = vote) ∨ (1 ≤ b.round ∧ b.round ≤ x.rd)) (hD : v ∈ x.ds)
    (hs : ∀ c u, low c b0 = false → low c b = true → u ≠ v → ∃ Q, n < 2 * cnt n Q ∧ ∀ k, k < n → Q k = true → low c (x.r k).p = true ∧ ¬ x.V k c u)
    (hP : ∀ j, j < 3 → 0 ≤ (P j).bal.round ∧ (P j).bal.round ≤ x.rd ∧ ((P j).S = noS ∨ (x.Und n j (P j) ∧ (P j).bal ≠ b))) :
    ({x with P := P, m3 := x.m3 ++ l} : PX).Inv n vote := by
  have hC : ∀ c u, ({x with P := P, m3 := x.m3 ++ l} : PX).C c u → x.C c u ∨ (c = b ∧ u = v) := by
    rintro c u ⟨m, hm, e1, e2⟩
    rcases List.mem_append.1 hm with hm | hm
    · exact .inl ⟨m, hm, e1, e2⟩
    · obtain ⟨e3, e4⟩ := hl m hm
      exact .inr ⟨e1.symm.trans e3, e2.symm.trans e4⟩
  have hC2 : ∀ c u, x.C c u → ({x with P := P, m3 := x.m3 ++ l} : PX).C c u := fun c u ⟨m, hm, e⟩ => ⟨m, List.mem_append.2 (.inl hm), e⟩
  exact {
    rd0 := h.rd0
    vok := fun k c u hv => let ⟨h1, h2, h3⟩ := h.vok k c u hv; ⟨h1, hC2 _ _ h2, h3⟩
    aok := h.aok
    uniq := fun c u u2 h1 h2 => by
      rcases hC _ _ h1 with h3 | ⟨e1, e2⟩ <;> rcases hC _ _ h2 with h4 | ⟨e3, e4⟩
      · exact h.uniq _ _ _ h3 h4
      · rw [e4]; rw [e3] at h3; exact hu _ h3
      · rw [e2]; rw [e1] at h4; exact (hu _ h4).symm
      · rw [e2, e4]
    cok := fun c u h1 => by
      rcases hC _ _ h1 with h3 | ⟨e1, e2⟩
      · exact h.cok _ _ h3
      · rw [e1, e2]; exact hc
    cD := fun c u h1 => by
      rcases hC _ _ h1 with h3 | ⟨e1, e2⟩
      · exact h.cD _ _ h3
      · rw [e2]; exact hD
    safe := fun c u h1 => by
      rcases hC _ _ h1 with h3 | ⟨e1, e2⟩
      · exact h.safe _ _ h3
      · rw [e1, e2]; exact hs
    say := fun m hm => let ⟨k, s⟩ := h.say m hm; ⟨k, s.fr, s.lt, s.pr, s.has, s.top⟩
    pz := fun j hj => by
      obtain ⟨h1, h2, h3⟩ := hP j hj
      refine ⟨h1, h2, h3.imp id fun ⟨s, hne⟩ => ⟨s.r1, s.nd, fun u hu => ?_, s.own, s.has, s.pr⟩⟩
      rcases hC _ _ hu with h3 | ⟨e1, e2⟩
      · exact s.no _ h3
      · exact hne e1
    fit := h.fit
    ch := h.ch
    last := h.last }
/-- the voter's own ballot -/
theorem inv_vote (h : x.Inv n vote) (hv : vote ∈ x.ds) (m : Mg) (h1 : m.b = b0) (h2 : m.v = vote) : ({x with m3 := x.m3 ++ [m]} : PX).Inv n vote := by
  refine inv_ask h x.P [m] b0 vote (fun q hq => ?_) (fun u hu => ?_) (.inl ⟨rfl, rfl⟩) hv (fun c u p1 p2 => (lt_not p2 p1).elim) fun j hj => ?_
  · rw [List.mem_singleton.1 hq]; exact ⟨h1, h2⟩
  · rcases h.cok _ _ hu with ⟨_, e⟩ | ⟨e, _⟩
    · exact e
    · exact absurd e (by decide)
  · obtain ⟨a1, a2, a3⟩ := h.pz j hj
    refine ⟨a1, a2, a3.imp id fun s => ⟨s, fun e => ?_⟩⟩
    have := s.r1
    rw [e] at this
    exact absurd this (by decide)
/-- what is kept of an acceptor -/
def upA (A : Nat → Option Rw) (k : Nat) (r : Rw) : Nat → Option Rw := fun i => if i = k then some r else A i
theorem r_same {A : Nat → Option Rw} {k : Nat} {r : Rw} : (upA A k r k).getD r0 = r := by simp [upA]
theorem r_other {A : Nat → Option Rw} {k i : Nat} {r : Rw} (h : i ≠ k) : (upA A k r i).getD r0 = (A i).getD r0 := by simp [upA, h]
/-- an acceptor promises -/
theorem inv_prepare (h : x.Inv n vote) {k : Nat} (hk : k < n) (b : Bl) (hb : low b (x.r k).p = false) (m : Mg) (e1 : m.fr = (k : Int)) (e2 : m.b = b) (e3 : m.a = (x.r k).a) :
    ({x with A := upA x.A k ⟨b, (x.r k).a⟩, m4 := x.m4 ++ [m]} : PX).Inv n vote := by
  obtain ⟨X, hX⟩ : ∃ X, X = ({x with A := upA x.A k ⟨b, (x.r k).a⟩, m4 := x.m4 ++ [m]} : PX) := ⟨_, rfl⟩
  have hr : ∀ i, (X.r i).a = (x.r i).a ∧ ∀ c, low (x.r i).p c = false → low (X.r i).p c = false := by
    intro i
    rw [hX]
    by_cases e : i = k
    · subst e
      simp only [PX.r, r_same]
      exact ⟨trivial, fun c hc => le_le hb hc⟩
    · simp only [PX.r, r_other e]
      exact ⟨trivial, fun c hc => hc⟩
  have hr2 : ∀ i c, low c (x.r i).p = true → low c (X.r i).p = true := fun i c hc => lt_le hc ((hr i).2 _ (le_self _))
  have hV : ∀ i c u, X.V i c u ↔ x.V i c u := fun i c u => by rw [hX]; exact Iff.rfl
  have hC : ∀ c u, X.C c u ↔ x.C c u := fun c u => by rw [hX]; exact Iff.rfl
  have hP : X.P = x.P := by rw [hX]
  have hL : X.L = x.L := by rw [hX]
  have hrd : X.rd = x.rd := by rw [hX]
  have hds : X.ds = x.ds := by rw [hX]
  have hm4 : X.m4 = x.m4 ++ [m] := by rw [hX]
  have hrk : (X.r k).p = b := by rw [hX]; simp only [PX.r, r_same]
  rw [← hX]
  clear hX
  exact {
    rd0 := hrd ▸ h.rd0
    vok := fun i c u hv => by
      obtain ⟨h1, h2, h3, h4, h5⟩ := h.vok i c u ((hV _ _ _).1 hv)
      rw [(hr i).1]
      exact ⟨h1, (hC _ _).2 h2, (hr i).2 _ h3, h4, h5⟩
    aok := fun i hi => by
      rw [(hr i).1]
      exact fun hh => (hV _ _ _).2 (h.aok i hi hh)
    uniq := fun c u u2 h1 h2 => h.uniq c u u2 ((hC _ _).1 h1) ((hC _ _).1 h2)
    cok := fun c u h1 => by rw [hrd]; exact h.cok c u ((hC _ _).1 h1)
    cD := fun c u h1 => by rw [hds]; exact h.cD c u ((hC _ _).1 h1)
    safe := fun c u h1 c2 u2 p1 p2 p3 => by
      obtain ⟨Q, q1, q2⟩ := h.safe c u ((hC _ _).1 h1) c2 u2 p1 p2 p3
      exact ⟨Q, q1, fun i hi hq => ⟨hr2 _ _ (q2 i hi hq).1, fun hv => (q2 i hi hq).2 ((hV _ _ _).1 hv)⟩⟩
    say := fun q hq => by
      rw [hm4] at hq
      rcases List.mem_append.1 hq with hq | hq
      · obtain ⟨i, s⟩ := h.say q hq
        exact ⟨i, s.fr, s.lt, (hr i).2 _ s.pr, fun hh => (hV _ _ _).2 (s.has hh), fun c u hv => s.top c u ((hV _ _ _).1 hv)⟩
      · rw [List.mem_singleton.1 hq]
        refine ⟨k, e1, hk, ?_, fun hh => ?_, fun c u hv _ => ?_⟩
        · rw [hrk, e2]; exact le_self _
        · rw [e3] at hh ⊢; exact (hV _ _ _).2 (h.aok k hk hh)
        · rw [e3]
          obtain ⟨_, _, _, h4, h5⟩ := h.vok k c u ((hV _ _ _).1 hv)
          exact ⟨h4, h5⟩
    pz := fun j hj => by
      rw [hP, hrd]
      obtain ⟨a1, a2, a3⟩ := h.pz j hj
      refine ⟨a1, a2, a3.imp id fun s => ⟨s.r1, s.nd, fun v hc => s.no v ((hC _ _).1 hc), fun hh => hds ▸ s.own hh, fun hh => let ⟨i, hi⟩ := s.has hh; ⟨i, (hV _ _ _).2 hi⟩, fun i hi hs => ?_⟩⟩
      obtain ⟨p1, p2⟩ := s.pr i hi hs
      exact ⟨(hr i).2 _ p1, fun c u hv => p2 c u ((hV _ _ _).1 hv)⟩
    fit := fun j hj => by rw [hL]; exact h.fit j hj
    ch := fun j hj => by
      rw [hL]
      intro hh
      obtain ⟨Q, q1, q2⟩ := h.ch j hj hh
      exact ⟨Q, q1, fun i hi hq => (hV _ _ _).2 (q2 i hi hq)⟩
    last := fun j hj => by
      rw [hL]
      exact fun i y h1 h2 => (hV _ _ _).2 (h.last j hj i y h1 h2) }
end
end Go.Proofs.Ytgfalpiifgoonaa
