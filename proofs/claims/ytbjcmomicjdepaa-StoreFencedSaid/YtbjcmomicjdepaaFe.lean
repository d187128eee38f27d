/- What StoreFenced rests on, in plain data. -/
import Derived.Test.YtbjcmomicjdepaaFn
namespace Go.Proofs.Ytbjcmomicjdepaa
open Go.RowKit Go.Sort
set_option linter.unusedVariables false
set_option linter.unusedSimpArgs false
theorem vote_fen {rep : Int} {c c1 : Cp} {l : Lk} {v e : Int} (h : voteR rep c l = (v, e, c1)) : c1.state = c.state ∧ c1.f0 = c.f0 ∧ c1.f1 = c.f1 ∧ c1.f2 = c.f2 ∧ c1.f3 = c.f3 := by
  unfold voteR at h
  repeat' split at h
  all_goals cases h; exact ⟨rfl, rfl, rfl, rfl, rfl⟩
theorem voted_zero {vs : List Vd} {tx : Int} (h : ∀ v ∈ vs, v.tx ≠ tx) : votedP vs tx = 0 := by
  unfold votedP
  rw [List.find?_eq_none.2 (fun v hv => by simpa using h v hv)]
theorem vote_prep {rep : Int} {c c1 : Cp} {l : Lk} {e : Int} (h : voteR rep c l = (1, e, c1)) (hn : ∀ v ∈ c.vs, v.tx ≠ l.tx) : fencedP rep c l.it = false := by
  have hz := voted_zero hn
  unfold voteR at h
  split at h
  · simp at h
  split at h
  · simp at h
  split at h
  · rename_i h3; exact absurd hz h3
  split at h
  · simp at h
  split at h
  · rename_i hm
    unfold mayP at hm
    simp only [Bool.and_eq_true, Bool.not_eq_true'] at hm
    exact hm.1
  · simp at h
theorem fenced_not {c : Cp} {i : It} (h : fencedP 0 c i = false) : (i.i1 ≠ 0 → c.f1 ≤ i.i1) ∧ (i.i2 ≠ 0 → c.f2 ≤ i.i2) ∧ (i.i3 ≠ 0 → c.f3 ≤ i.i3) := by
  unfold fencedP lowF at h
  simp only [Bool.or_eq_false_iff, Bool.and_eq_false_iff, decide_eq_false_iff_not, decide_not] at h
  obtain ⟨-, h1, h2, h3⟩ := h
  refine ⟨fun hn => ?_, fun hn => ?_, fun hn => ?_⟩
  · rcases h1 with h | h | h
    · simp at h
    · simp [hn] at h
    · omega
  · rcases h2 with h | h | h
    · simp at h
    · simp [hn] at h
    · omega
  · rcases h3 with h | h | h
    · simp at h
    · simp [hn] at h
    · omega
theorem fence_said {rep : Int} {c ct c1 : Cp} {of inc e : Int} (h : fenceR rep c of inc = (ct, e, c1)) : (e ≠ 0 ∧ c1 = c) ∨ (e = 0 ∧ 0 ≤ of ∧ of < 4 ∧ ¬ inc < c.fen of.toNat ∧ ct = c.setF of.toNat inc ∧ c1 = ct) := by
  unfold fenceR at h
  split at h
  · cases h; exact .inl ⟨by decide, rfl⟩
  split at h
  · cases h; exact .inl ⟨by decide, rfl⟩
  · rename_i h1 h2
    cases h
    exact .inr ⟨rfl, by omega, by omega, h2, rfl, rfl⟩
theorem setF_state (c : Cp) (q : Nat) (v : Int) : (c.setF q v).state = c.state := by unfold Cp.setF; split <;> rfl
/-- the cells of an op whose item names the bucket 0 and the incarnation 1 -/
def opSet (oc : List Value) : List Value := (oc.set 10 (.int .i64 0)).set 14 (.int .u32 1)
/-- such an op's lock -/
abbrev Lk.at1 (l : Lk) : Lk := ⟨l.tx, l.m0, l.m1, l.m2, ⟨0, l.it.ver, l.it.write, l.it.es, 1, l.it.i1, l.it.i2, l.it.i3⟩⟩
theorem opSet_eq {W : World} {oc : List Value} {kind bk rp of inc : Int} {is : Bool} {l : Lk} {s : Sd} {rest : List Value} (h : OpIs W oc kind bk rp of inc is l s rest) : opSet oc = .int .i64 kind :: .int .i64 bk :: .int .i64 rp :: .int .i64 of :: .int .u32 inc :: .bool is :: (Lk.list l.at1 s ++ rest) := by
  rw [h.eq]; rfl
theorem opSet_size (oc : List Value) : (opSet oc).length = oc.length := by unfold opSet; simp
end Go.Proofs.Ytbjcmomicjdepaa
