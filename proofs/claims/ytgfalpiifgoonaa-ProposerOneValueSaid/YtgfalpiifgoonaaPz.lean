/- Paxos in plain Lean: a learner hears. -/
import Derived.Test.YtgfalpiifgoonaaPy
namespace Go.Proofs.Ytgfalpiifgoonaa
open Go.RowKit Go.Sort
set_option linter.unusedVariables false
set_option linter.unusedSectionVars false
set_option linter.unusedSimpArgs false
set_option maxRecDepth 100000
theorem cnt_past {S : Nat → Bool} {n : Nat} (h : ∀ k, S k = true → k < n) : ∀ m, cnt m S ≤ cnt n S
  | 0 => by simp [cnt]
  | m + 1 => by
    by_cases hm : m + 1 ≤ n
    · have : ∀ d, cnt (m + 1) S ≤ cnt (m + 1 + d) S := fun d => by
        induction d with
        | zero => exact Nat.le_refl _
        | succ d ih =>
          rw [show m + 1 + (d + 1) = (m + 1 + d) + 1 from rfl, cnt_succ (m + 1 + d)]
          exact Nat.le_trans ih (Nat.le_add_right _ _)
      have := this (n - (m + 1))
      rwa [show m + 1 + (n - (m + 1)) = n by omega] at this
    · rw [cnt_succ, if_neg (fun e => by have := h m e; omega)]
      exact cnt_past h m
theorem cnt_shift (S : Nat → Bool) : ∀ n, cnt (n + 1) S = (if S 0 = true then 1 else 0) + cnt n (fun k => S (k + 1))
  | 0 => by rw [cnt_succ]; simp [cnt]
  | n + 1 => by
    rw [cnt_succ, cnt_shift S n, cnt_succ n fun k => S (k + 1), Nat.add_assoc]
theorem occ_cnt (z : Ac) : ∀ (l : List Ac), occ l z = cnt l.length (fun k => decide (l[k]? = some z))
  | [] => rfl
  | y :: l => by
    rw [List.length_cons, cnt_shift, show occ (y :: l) z = occ l z + if y = z then 1 else 0 by simp only [occ, List.countP_cons, decide_eq_true_eq], occ_cnt z l, Nat.add_comm]
    simp
section
variable {n : Nat} {vote : ByteArray} {x : PX}
/-- a learner hears -/
theorem inv_hear (h : x.Inv n vote) {j : Nat} (hj : j < 3) {m : Mg} (hm : m ∈ x.m5) {k : Nat} (hk : m.fr = (k : Int)) :
    ({x with L := upP x.L j (accL n (x.L j) m.fr m.b m.v).s} : PX).Inv n vote := by
  have hv : x.V k m.b m.v := ⟨m, hm, hk, rfl, rfl⟩
  have main : ∀ s : Lst, s.Fit → (s.ch.is = true → ∃ Q, n < 2 * cnt n Q ∧ ∀ k, k < n → Q k = true → x.V k s.ch.b s.ch.v) → (∀ k (y : Ac), s.last[k]? = some y → y.is = true → x.V k y.b y.v) → ({x with L := upP x.L j s} : PX).Inv n vote := fun s h1 h2 h3 => {
    rd0 := h.rd0
    vok := h.vok
    aok := h.aok
    uniq := h.uniq
    cok := h.cok
    cD := h.cD
    safe := h.safe
    say := fun m hm => let ⟨k, s⟩ := h.say m hm; ⟨k, s.fr, s.lt, s.pr, s.has, s.top⟩
    pz := fun i hi => let ⟨g1, g2, g3⟩ := h.pz i hi; ⟨g1, g2, g3.imp id fun s => ⟨s.r1, s.nd, s.no, s.own, s.has, s.pr⟩⟩
    fit := fun i hi => by
      show (upP x.L j s i).Fit
      by_cases e : i = j
      · subst e; simp only [upP, if_pos]; exact h1
      · simp only [upP, if_neg e]; exact h.fit i hi
    ch := fun i hi => by
      show (upP x.L j s i).ch.is = true → ∃ Q, n < 2 * cnt n Q ∧ ∀ k, k < n → Q k = true → x.V k (upP x.L j s i).ch.b (upP x.L j s i).ch.v
      by_cases e : i = j
      · subst e; simp only [upP, if_pos]; exact h2
      · simp only [upP, if_neg e]; exact h.ch i hi
    last := fun i hi => by
      show ∀ k (y : Ac), (upP x.L j s i).last[k]? = some y → y.is = true → x.V k y.b y.v
      by_cases e : i = j
      · subst e; simp only [upP, if_pos]; exact h3
      · simp only [upP, if_neg e]; exact h.last i hi }
  have hsame := main (x.L j) (h.fit j hj) (h.ch j hj) (h.last j hj)
  have hset : ∀ i (y : Ac), ((x.L j).last.set k ⟨true, m.b, m.v⟩)[i]? = some y → y.is = true → x.V i y.b y.v := fun i y hy hi => by
    by_cases e : i = k
    · subst e
      by_cases hlt : i < (x.L j).last.length
      · rw [List.getElem?_set_self hlt] at hy
        injection hy with hy
        rw [← hy]; exact hv
      · rw [List.getElem?_eq_none (by simp; omega)] at hy; cases hy
    · rw [List.getElem?_set_ne (fun e2 => e e2.symm)] at hy
      exact h.last j hj i y hy hi
  have hfit := accL_fit (n := n) (fr := m.fr) (b := m.b) (v := m.v) (h.fit j hj)
  have hfr : m.fr.toNat = k := by rw [hk]; simp
  unfold accL at hfit ⊢
  rw [hfr] at hfit ⊢
  by_cases c1 : (x.L j).ch.is = true ∨ m.fr < 0 ∨ (n : Int) ≤ m.fr
  · rw [if_pos c1]; exact hsame
  rw [if_neg c1] at hfit ⊢
  cases ho : (x.L j).last[k]? with
  | none => exact hsame
  | some old =>
    rw [ho] at hfit
    simp only at hfit ⊢
    by_cases c2 : (old.is && !(low old.b m.b)) = true
    · rw [if_pos c2]; exact hsame
    rw [if_neg c2] at hfit ⊢
    by_cases c3 : n < 2 * occ ((x.L j).last.set k ⟨true, m.b, m.v⟩) ⟨true, m.b, m.v⟩
    · rw [if_pos c3] at hfit ⊢
      refine main _ hfit (fun _ => ?_) fun i y hy hi => ?_
      · refine ⟨fun i => decide (((x.L j).last.set k ⟨true, m.b, m.v⟩)[i]? = some ⟨true, m.b, m.v⟩), ?_, fun i hi hq => ?_⟩
        · rw [occ_cnt] at c3
          have := cnt_past (S := fun i => decide (((x.L j).last.set k ⟨true, m.b, m.v⟩)[i]? = some ⟨true, m.b, m.v⟩)) (n := n) (fun i hi => (h.vok _ _ _ (hset i ⟨true, m.b, m.v⟩ (by simpa using hi) rfl)).1) ((x.L j).last.set k ⟨true, m.b, m.v⟩).length
          omega
        · exact hset i ⟨true, m.b, m.v⟩ (of_decide_eq_true hq) rfl
      · simp only [none9] at hy
        rw [List.getElem?_replicate] at hy
        split at hy
        · injection hy with hy
          rw [← hy] at hi; cases hi
        · cases hy
    · rw [if_neg c3] at hfit ⊢
      exact main _ hfit (fun hh => by cases hh) hset
end
end Go.Proofs.Ytgfalpiifgoonaa
