/- The program's proposer and learner beside the document's: plain facts. -/
import Derived.Test.YtgfalpiifgoonaaRl
namespace Go.Proofs.Ytgfalpiifgoonaa
open Go.RowKit Go.Sort
set_option linter.unusedVariables false
set_option linter.unusedSectionVars false
set_option linter.unusedSimpArgs false
set_option maxRecDepth 100000

def inF (F : List Int) : Nat → Bool := fun j => decide ((j : Int) ∈ F)
def RelP (n : Nat) (s : Pst) (r : Rst) : Prop :=
  s.bal = r.bal ∧ 0 ≤ r.bal.round ∧ cnt n (inF r.F) = r.F.length ∧ r.L.length = r.F.length ∧
    ((2 * r.F.length ≤ n ∧ (∀ j, j < n → s.S j = (decide (r.bal.round ≠ 0) && !inF r.F j)) ∧ (r.bal.round = 0 → r.F = []) ∧ s.best = foldA r.own r.L) ∨ (n < 2 * r.F.length ∧ s.S = noS ∧ ¬ r.bal.round = 0))
theorem cnt_in_nil (n : Nat) : cnt n (inF []) = 0 := by
  rw [cnt_congr (T := noS) (fun k _ => by simp [inF]), cnt_none]
theorem RelP.zero (n : Nat) : RelP n ⟨b0, noS, a0⟩ ⟨b0, nov, [], []⟩ :=
  ⟨rfl, by decide, cnt_in_nil n, rfl, .inl ⟨by simp, fun j _ => by simp, fun _ => rfl, rfl⟩⟩
section
variable {n node : Nat} {s : Pst} {r : Rst}
theorem RelP.begin_ (h : RelP n s r) (rd : Int) (hr : 0 ≤ rd) (v : ByteArray) : (begP node s rd v).b = (begR node r rd v).b ∧ (begP node s rd v).e = (begR node r rd v).e ∧ RelP n (begP node s rd v).s (begR node r rd v).s := by
  have hb := h.1
  unfold begP begR
  rw [hb]
  by_cases h0 : rd = 0
  · rw [if_pos h0, if_pos h0]; exact ⟨rfl, rfl, h⟩
  · rw [if_neg h0, if_neg h0]
    by_cases h1 : rd ≤ r.bal.round
    · rw [if_pos h1, if_pos h1]; exact ⟨rfl, rfl, h⟩
    · rw [if_neg h1, if_neg h1]
      refine ⟨rfl, rfl, rfl, hr, cnt_in_nil n, rfl, .inl ⟨by simp, fun j _ => ?_, fun e => absurd e h0, rfl⟩⟩
      simp [inF, h0]
theorem RelP.few (h : RelP n s r) (hn : n ≤ 9) (x : Int) (h0 : 0 ≤ x) (h1 : x < n) (hx : ¬ x ∈ r.F) : r.F.length < 9 ∧ r.L.length < 9 := by
  obtain ⟨k, rfl⟩ : ∃ k : Nat, x = (k : Int) := ⟨x.toNat, by omega⟩
  have h2 := cnt_wth n (inF r.F) k (by omega) (by simp [inF, hx])
  have h3 := cnt_le n (wth (inF r.F) k)
  have h4 := h.2.2.1
  have h5 := h.2.2.2.1
  omega
theorem inF_app (F : List Int) (k j : Nat) : inF (F ++ [(k : Int)]) j = wth (inF F) k j := by
  unfold inF wth
  by_cases e : j = k
  · simp [e]
  · have : ¬ (j : Int) = (k : Int) := by omega
    simp [e, this]
theorem RelP.prm (h : RelP n s r) (fr : Int) (b : Bl) (a : Ac) : (prmP n s fr b a).v = (rprm n r fr b a).v ∧ (prmP n s fr b a).ok = (rprm n r fr b a).ok ∧ RelP n (prmP n s fr b a).s (rprm n r fr b a).s := by
  obtain ⟨hb, hr0, hc, hl, hw⟩ := h
  have h : RelP n s r := ⟨hb, hr0, hc, hl, hw⟩
  by_cases hno : r.bal.round = 0 ∨ ¬ b = r.bal ∨ fr < 0 ∨ (n : Int) ≤ fr
  · have e2 : rprm n r fr b a = ⟨r, nov, false⟩ := by unfold rprm; rw [if_pos hno]
    have e1 : prmP n s fr b a = ⟨s, nov, false⟩ := by
      unfold prmP
      rw [if_neg]
      rintro ⟨g1, g2, g3, g4⟩
      rcases hno with g | g | g | g
      · rcases hw with ⟨_, w2, _⟩ | ⟨_, _, w3⟩
        · rw [w2 fr.toNat (by omega)] at g4
          simp [g] at g4
        · exact w3 g
      · exact g (by rw [g1, hb])
      · omega
      · omega
    rw [e1, e2]; exact ⟨rfl, rfl, h⟩
  · have hbb : b = r.bal := Classical.byContradiction fun hh => hno (.inr (.inl hh))
    have hr : ¬ r.bal.round = 0 := fun hh => hno (.inl hh)
    obtain ⟨k, rfl⟩ : ∃ k : Nat, fr = (k : Int) := ⟨fr.toNat, by omega⟩
    have hk : k < n := by omega
    have e2 : rprm n r (k : Int) b a = if (k : Int) ∈ r.F then ⟨r, nov, false⟩ else if 2 * (r.L.length + 1) ≤ n ∨ n < 2 * r.L.length then ⟨⟨r.bal, r.own, r.F ++ [(k : Int)], r.L ++ [a]⟩, nov, false⟩
      else ⟨⟨r.bal, r.own, r.F ++ [(k : Int)], r.L ++ [a]⟩, (foldA r.own (r.L ++ [a])).v, true⟩ := by unfold rprm; rw [if_neg hno]
    have e1 : prmP n s (k : Int) b a = if s.S k = true then (if n < 2 * (n - cnt n (wout s.S k)) then ⟨⟨s.bal, noS, wg s.best a⟩, (wg s.best a).v, true⟩ else ⟨⟨s.bal, wout s.S k, wg s.best a⟩, nov, false⟩) else ⟨s, nov, false⟩ := by
      unfold prmP
      rw [Int.toNat_natCast]
      by_cases hs : s.S k = true
      · rw [if_pos ⟨by rw [hbb, hb], by omega, by omega, hs⟩, if_pos hs]
      · rw [if_neg (fun hh => hs hh.2.2.2), if_neg hs]
    rw [e1, e2]
    by_cases hm : (k : Int) ∈ r.F
    · have hs : ¬ s.S k = true := by
        rcases hw with ⟨_, w2, _⟩ | ⟨_, w2, _⟩
        · rw [w2 k hk]; simp [inF, hm]
        · rw [w2]; simp
      rw [if_pos hm, if_neg hs]
      exact ⟨rfl, rfl, h⟩
    · rw [if_neg hm]
      have hinf : inF r.F k = false := by simp [inF, hm]
      have hc2 : cnt n (inF (r.F ++ [(k : Int)])) = (r.F ++ [(k : Int)]).length := by
        rw [cnt_congr (T := wth (inF r.F) k) (fun j _ => inF_app r.F k j), cnt_wth n _ k hk hinf, hc, List.length_append]; rfl
      have hl2 : (r.L ++ [a]).length = (r.F ++ [(k : Int)]).length := by rw [List.length_append, List.length_append, hl]; rfl
      have hlen : (r.F ++ [(k : Int)]).length = r.F.length + 1 := by rw [List.length_append]; rfl
      rcases hw with ⟨w1, w2, w3, w4⟩ | ⟨w1, w2, w3⟩
      · have hs : s.S k = true := by rw [w2 k hk]; simp [hinf, hr]
        rw [if_pos hs]
        have hcs : cnt n s.S + cnt n (inF r.F) = n := by
          have : ∀ m, m ≤ n → cnt m s.S + cnt m (inF r.F) = m := by
            intro m
            induction m with
            | zero => intro _; rfl
            | succ m ih =>
              intro hm2
              have := ih (by omega)
              rw [cnt_succ, cnt_succ, w2 m (by omega)]
              cases inF r.F m <;> simp [hr] <;> omega
          exact this n (Nat.le_refl _)
        have hcw := cnt_wout n s.S k hk hs
        have e : n - cnt n (wout s.S k) = r.F.length + 1 := by omega
        rw [e, hl]
        have hbest : wg s.best a = foldA r.own (r.L ++ [a]) := by
          rw [w4]; unfold foldA; rw [List.foldl_append]; rfl
        by_cases hd : n < 2 * (r.F.length + 1)
        · rw [if_pos hd, if_neg (by omega)]
          refine ⟨by rw [hbest], rfl, hb, hr0, hc2, hl2, .inr ⟨by simp only [hlen]; exact hd, rfl, hr⟩⟩
        · rw [if_neg hd, if_pos (.inl (by omega))]
          refine ⟨rfl, rfl, hb, hr0, hc2, hl2, .inl ⟨by simp only [hlen]; omega, fun j hj => ?_, fun e => absurd e hr, hbest⟩⟩
          simp only
          rw [inF_app]
          unfold wout wth
          by_cases ej : j = k
          · simp [ej]
          · rw [if_neg ej, if_neg ej, w2 j hj]
      · have hs : ¬ s.S k = true := by rw [w2]; simp
        rw [if_neg hs, hl, if_pos (.inr w1)]
        exact ⟨rfl, rfl, hb, hr0, hc2, hl2, .inr ⟨by simp only [hlen]; omega, w2, w3⟩⟩
end
/-! ### the learners -/
def RelL (n : Nat) (l : Lst) (r : Rls) : Prop := r.is = l.ch.is ∧ r.ch = l.ch.v ∧ r.L.length = n ∧ l.Fit ∧ (l.ch.is = false → l.last = r.L ++ List.replicate (9 - n) a0)
theorem RelL.zero (n : Nat) (h : n ≤ 9) : RelL n ⟨none9, a0⟩ ⟨List.replicate n a0, false, nov⟩ :=
  ⟨rfl, rfl, by simp, .inl rfl, fun _ => by
    show List.replicate 9 a0 = _
    rw [List.replicate_append_replicate, show n + (9 - n) = 9 by omega]⟩
theorem RelL.acc {n : Nat} {l : Lst} {r : Rls} (h : RelL n l r) (fr : Int) (b : Bl) (v : ByteArray) : (accL n l fr b v).v = (raccL n r fr b v).v ∧ (accL n l fr b v).ok = (raccL n r fr b v).ok ∧ RelL n (accL n l fr b v).s (raccL n r fr b v).s := by
  obtain ⟨h1, h2, h3, h4, h5⟩ := h
  have h : RelL n l r := ⟨h1, h2, h3, h4, h5⟩
  by_cases hno : l.ch.is = true ∨ fr < 0 ∨ (n : Int) ≤ fr
  · have e1 : accL n l fr b v = ⟨l, nov, false⟩ := by unfold accL; rw [if_pos hno]
    have e2 : raccL n r fr b v = ⟨r, nov, false⟩ := by unfold raccL; rw [h1, if_pos hno]
    rw [e1, e2]; exact ⟨rfl, rfl, h⟩
  · have hci : l.ch.is = false := by
      cases hq : l.ch.is
      · rfl
      · exact absurd (.inl hq) hno
    have hc0 : l.ch = a0 := by
      rcases h4 with h | h
      · exact h
      · rw [hci] at h; cases h
    obtain ⟨k, rfl⟩ : ∃ k : Nat, fr = (k : Int) := ⟨fr.toNat, by omega⟩
    have hk : k < n := by omega
    have hlast := h5 hci
    have hg : l.last[k]? = r.L[k]? := by rw [hlast, List.getElem?_append_left (by omega)]
    have hset : ∀ x, l.last.set k x = r.L.set k x ++ List.replicate (9 - n) a0 := fun x => by rw [hlast, List.set_append_left _ _ (by omega)]
    have hocc : ∀ x : Ac, x.is = true → occ (l.last.set k x) x = occ (r.L.set k x) x := fun x hx => by
      rw [hset x]
      unfold occ
      rw [List.countP_append]
      have hne : ¬ a0 = x := by intro e; subst e; cases hx
      have : List.countP (fun y => decide (y = x)) (List.replicate (9 - n) a0) = 0 := by
        rw [List.countP_replicate]; simp [hne]
      omega
    unfold accL raccL
    rw [if_neg hno, h1, if_neg hno]
    simp only [Int.toNat_natCast, hg]
    cases hq : r.L[k]? with
    | none => exact ⟨rfl, rfl, h⟩
    | some old =>
      simp only
      by_cases hst : (old.is && !(low old.b b)) = true
      · rw [if_pos hst, if_pos hst]; exact ⟨rfl, rfl, h⟩
      · rw [if_neg hst, if_neg hst, hocc ⟨true, b, v⟩ rfl]
        by_cases hm : n < 2 * occ (r.L.set k ⟨true, b, v⟩) ⟨true, b, v⟩
        · rw [if_pos hm, if_pos hm]
          exact ⟨rfl, rfl, rfl, rfl, by simp only [List.length_set]; exact h3, .inr rfl, fun e => by cases e⟩
        · rw [if_neg hm, if_neg hm]
          exact ⟨rfl, rfl, by simp only [hci], by rw [h2, hc0], by simp only [List.length_set]; exact h3, .inl rfl, fun _ => hset _⟩
end Go.Proofs.Ytgfalpiifgoonaa
