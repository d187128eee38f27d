/- What a proposer adopts: plain facts for ProposerAdopts. -/
import Derived.Test.YtgfalpiifgoonaaHv
namespace Go.Proofs.Ytgfalpiifgoonaa
open Go.RowKit Go.Sort
set_option linter.unusedVariables false
set_option linter.unusedSectionVars false
set_option linter.unusedSimpArgs false
set_option maxRecDepth 100000

abbrev owt : ByteArray := ⟨#[111, 119, 110]⟩
abbrev b73 : Bl := ⟨7, 3⟩
/-- what the law holds to be accepted, beside what the proposer does -/
def AI (sc : Nat → Tld) (N : Nat) (s : Pst) (f : Nat → Bool) (top : Bl) (sm : Bool) (k : Nat) : Prop :=
  s.bal = b73 ∧ ((2 * cnt N f ≤ N ∧ (∀ j, j < N → s.S j = !f j) ∧ s.best.is = sm ∧ (sm = true → s.best.b = top ∧ ∃ j, j < k ∧ (sc j).a = s.best) ∧ (sm = false → s.best.v = owt)) ∨ (N < 2 * cnt N f ∧ s.S = noS))
theorem AI.zero (sc : Nat → Tld) (N : Nat) : AI sc N ⟨b73, allS, ⟨false, b0, owt⟩⟩ noS b0 false 0 := by
  refine ⟨rfl, .inl ⟨?_, fun j _ => rfl, rfl, by intro h; (cases h), fun _ => rfl⟩⟩
  rw [cnt_none]; omega
section
variable {sc : Nat → Tld} {N k kk : Nat} {s : Pst} {f : Nat → Bool} {top : Bl} {sm : Bool}
theorem AI.next (h : AI sc N s f top sm k) : AI sc N s f top sm (k + 1) := by
  refine ⟨h.1, ?_⟩
  rcases h.2 with ⟨h1, h2, h3, h4, h5⟩ | h6
  · refine .inl ⟨h1, h2, h3, fun hs => ?_, h5⟩
    obtain ⟨h6, j, h7, h8⟩ := h4 hs
    exact ⟨h6, j, by omega, h8⟩
  · exact .inr h6
/-- an acceptor that was seen -/
theorem AI.seen (h : AI sc N s f top sm k) (hk : kk < N) (hf : f kk = true) (a : Ac) : prmP N s (kk : Int) b73 a = ⟨s, nov, false⟩ := by
  unfold prmP
  rw [if_neg]
  rintro ⟨_, _, _, h4⟩
  rw [Int.toNat_natCast] at h4
  rcases h.2 with ⟨_, h2, _⟩ | ⟨_, h6⟩
  · rw [h2 kk hk, hf] at h4; cases h4
  · rw [h6] at h4; cases h4
/-- behind the decision -/
theorem AI.late (h : AI sc N s f top sm k) (hd : N < 2 * cnt N f) (a : Ac) : prmP N s (kk : Int) b73 a = ⟨s, nov, false⟩ := by
  unfold prmP
  rw [if_neg]
  rintro ⟨_, _, _, h4⟩
  rcases h.2 with ⟨h1, _⟩ | ⟨_, h6⟩
  · omega
  · rw [h6] at h4; cases h4
theorem AI.lateF (h : AI sc N s f top sm k) (hd : N < 2 * cnt N f) (hk : kk < N) (hf : f kk = false) : AI sc N s (wth f kk) top sm (k + 1) := by
  refine ⟨h.1, .inr ⟨?_, ?_⟩⟩
  · rw [cnt_wth N f kk hk hf]; omega
  · rcases h.2 with ⟨h1, _⟩ | ⟨_, h6⟩
    · omega
    · exact h6
/-- a promise that counts: whether it decides -/
def dkB (N : Nat) (f : Nat → Bool) : Bool := decide (N < 2 * (cnt N f + 1))
theorem AI.counts (h : AI sc N s f top sm k) (hd : 2 * cnt N f ≤ N) (hk : kk < N) (hf : f kk = false) (a : Ac) :
    prmP N s (kk : Int) b73 a = ⟨⟨b73, if dkB N f then noS else wout s.S kk, wg s.best a⟩, if dkB N f then (wg s.best a).v else nov, dkB N f⟩ := by
  have hb := h.1
  rcases h.2 with ⟨h1, h2, _⟩ | ⟨h6, _⟩
  · have hs : s.S kk = true := by rw [h2 kk hk, hf]; rfl
    have hc := cnt_wout N s.S kk hk hs
    have hcf : cnt N s.S + cnt N f = N := by
      have : ∀ n, n ≤ N → cnt n s.S + cnt n f = n := by
        intro n
        induction n with
        | zero => intro _; rfl
        | succ n ih =>
          intro hn
          have := ih (by omega)
          rw [cnt_succ, cnt_succ, h2 n (by omega)]
          cases f n <;> simp <;> omega
      exact this N (Nat.le_refl _)
    have e : N - cnt N (wout s.S kk) = cnt N f + 1 := by omega
    unfold prmP dkB
    rw [if_pos ⟨hb.symm, by omega, by omega, by rw [Int.toNat_natCast]; exact hs⟩, Int.toNat_natCast, e]
    by_cases hd2 : N < 2 * (cnt N f + 1)
    · simp [hd2, hb]
    · simp [hd2, hb]
  · omega
/-- what the law holds to be the greatest, behind a promise that counts -/
def TS (best : Ac) (top : Bl) (sm : Bool) : Prop := best.is = sm ∧ (sm = true → best.b = top)
theorem AI.ts (h : AI sc N s f top sm k) (hd : 2 * cnt N f ≤ N) : TS s.best top sm := by
  rcases h.2 with ⟨h1, h2, h3, h4, h5⟩ | ⟨h6, _⟩
  · exact ⟨h3, fun hs => (h4 hs).1⟩
  · omega
theorem TS.no {best a : Ac} (h : TS best top sm) (ha : a.is = false) : TS (wg best a) top sm := by
  unfold wg heavy
  rw [ha]
  exact h
theorem TS.up {best a : Ac} (h : TS best top sm) (ha : a.is = true) (hu : sm = false ∨ low top a.b = true) : TS (wg best a) a.b true := by
  have : heavy best a = true := by
    unfold heavy
    rw [ha, h.1]
    cases hs : sm
    · rfl
    · rcases hu with hu | hu
      · rw [hs] at hu; cases hu
      · rw [h.2 hs, hu]; rfl
  unfold wg
  rw [if_pos this]
  exact ⟨ha, fun _ => rfl⟩
theorem TS.low {best a : Ac} (h : TS best top sm) (ha : a.is = true) (hs : sm = true) (hl : low top a.b = false) : TS (wg best a) top true := by
  have : heavy best a = false := by
    unfold heavy
    rw [ha, h.1, hs, h.2 hs, hl]; rfl
  unfold wg
  rw [if_neg (by rw [this]; decide)]
  rw [hs] at h
  exact h
theorem AI.hit {top' : Bl} {sm' : Bool} (h : AI sc N s f top sm k) (hd : 2 * cnt N f ≤ N) (hk : kk < N) (hf : f kk = false) (ht : TS (wg s.best (sc k).a) top' sm') :
    AI sc N ⟨b73, if dkB N f then noS else wout s.S kk, wg s.best (sc k).a⟩ (wth f kk) top' sm' (k + 1) ∧ (sm' = false → (wg s.best (sc k).a).v = owt) ∧ (sm' = true → ∃ j, j < k + 1 ∧ (sc j).a.is = true ∧ (sc j).a.b = top' ∧ (sc j).a.v = (wg s.best (sc k).a).v) := by
  rcases h.2 with ⟨h1, h2, h3, h4, h5⟩ | ⟨h6, _⟩
  · have hown : sm' = false → (wg s.best (sc k).a).v = owt := fun e => by
      have hi : (wg s.best (sc k).a).is = false := by rw [ht.1, e]
      unfold wg at hi ⊢
      by_cases hh : heavy s.best (sc k).a = true
      · rw [if_pos hh] at hi
        unfold heavy at hh
        rw [hi] at hh; cases hh
      · rw [if_neg hh] at hi ⊢
        exact h5 (by rw [← h3]; exact hi)
    have hfrom : sm' = true → ∃ j, j < k + 1 ∧ (sc j).a = wg s.best (sc k).a := fun e => by
      have hi : (wg s.best (sc k).a).is = true := by rw [ht.1, e]
      unfold wg at hi ⊢
      by_cases hh : heavy s.best (sc k).a = true
      · rw [if_pos hh]
        exact ⟨k, by omega, rfl⟩
      · rw [if_neg hh] at hi ⊢
        obtain ⟨_, j, h7, h8⟩ := h4 (by rw [← h3]; exact hi)
        exact ⟨j, by omega, h8⟩
    refine ⟨⟨rfl, ?_⟩, hown, fun e => ?_⟩
    · by_cases hdk : N < 2 * (cnt N f + 1)
      · refine .inr ⟨by rw [cnt_wth N f kk hk hf]; exact hdk, ?_⟩
        simp [dkB, hdk]
      · refine .inl ⟨by rw [cnt_wth N f kk hk hf]; omega, fun j hj => ?_, ht.1, fun e => ⟨ht.2 e, hfrom e⟩, hown⟩
        simp only [dkB, hdk, decide_false, Bool.false_eq_true, if_false, wout, wth]
        by_cases ej : j = kk
        · simp [ej]
        · simp [ej, h2 j hj]
    · obtain ⟨j, h7, h8⟩ := hfrom e
      exact ⟨j, h7, by rw [h8, ht.1, e], by rw [h8, ht.2 e], by rw [h8]⟩
  · omega
end
/-- whether it was told, among the first q -/
def fnd (sc : Nat → Tld) (top : Bl) (v : ByteArray) : Nat → Bool
  | 0 => false
  | q + 1 => fnd sc top v q || ((sc q).a.is && decide ((sc q).a.b = top) && decide ((sc q).a.v = v))
theorem fnd_of {sc : Nat → Tld} {top : Bl} {v : ByteArray} : ∀ {q j : Nat}, j < q → (sc j).a.is = true → (sc j).a.b = top → (sc j).a.v = v → fnd sc top v q = true
  | 0, j, h, _, _, _ => by omega
  | q + 1, j, h, h1, h2, h3 => by
    unfold fnd
    by_cases e : j = q
    · subst e; simp [h1, h2, h3]
    · rw [fnd_of (q := q) (j := j) (by omega) h1 h2 h3]; rfl
end Go.Proofs.Ytgfalpiifgoonaa
