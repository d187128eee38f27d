/- Both calls: what Open and Close come to on either side. -/
import Derived.Test.YtjhdlohcjodgjaaRefD
namespace Go.Proofs.Ytjhdlohcjodgjaa
open Go.RowKit
set_option linter.unusedVariables false

theorem live_app (T : List Cal) (x : Cal) (h : 0 < x.tries) : live (T ++ [x]) = live T ++ [x] := by
  unfold live; rw [List.filter_append, List.filter_cons_of_pos (by simp [liveB, h])]; rfl
/-- what Open comes to -/
def openT (C : Cfg) (T : List Cal) (to at_ : Int) : List Cal := if timeB at_ = true ∧ (live T).length ≠ C.room then T ++ [opened C (T.length + 1) to at_.toNat] else T
def openI (C : Cfg) (T : List Cal) (at_ : Int) : Nat := if timeB at_ = true ∧ (live T).length ≠ C.room then T.length + 1 else 0
def openE (C : Cfg) (T : List Cal) (at_ : Int) : Nat := if timeB at_ = true then if (live T).length ≠ C.room then 0 else 81 else 1
section
variable {w : World} {B hn gm rb cap : Nat} {ao : Option Addr} {T : List Cal} {C : Cfg}
theorem timeB_iff {a : Int} : timeB a = true ↔ 0 ≤ a ∧ a ≤ 1099511627776 := by unfold timeB; simp
theorem aopen_any (to at_ : Int) (w : World) (h : CalsW w B hn gm (live T) C T.length) (hT : T.length ≤ 1000) : Calls Try.prog 24 #[.pointer (some ⟨hn, 0, none⟩), .int .i64 to, .int .i64 at_] w fun e w' =>
    e = .returned (.tuple #[.int .u64 (openI C T at_ : Int), .int .i64 (openE C T at_ : Int)]) ∧ CalsW w' B hn gm (live (openT C T to at_)) C (openT C T to at_).length ∧ Keep [hn, gm] w w' := by
  unfold openI openE openT
  cases ht : timeB at_
  · rw [if_neg (by simp), if_neg (by simp), if_neg (by simp)]
    exact (open_time to at_ ht w).mono fun e w' ⟨h1, h2⟩ => ⟨h1, by subst h2; exact h, by subst h2; exact Keep.refl _ _⟩
  · obtain ⟨h1, h2⟩ := timeB_iff.1 ht
    obtain ⟨a, rfl⟩ : ∃ a : Nat, at_ = a := ⟨at_.toNat, by omega⟩
    by_cases hf : (live T).length = C.room
    · rw [if_neg (by simp [hf]), if_pos rfl, if_neg (by simp [hf]), if_neg (by simp [hf])]
      exact (open_full to a (by omega) w h (by omega)).mono fun e w' ⟨h1, h2⟩ => ⟨h1, h.below h2, Keep.of_below h2 _⟩
    · rw [if_pos ⟨rfl, hf⟩, if_pos rfl, if_pos hf, if_pos ⟨rfl, hf⟩]
      have hfew := h.few
      refine (open_yes to a (T.length + 1) (by omega) w h (by omega) rfl (by omega)).mono fun e w' ⟨h1, h2, h3⟩ => ⟨h1, ?_, h3⟩
      rw [live_app _ _ (by simp [opened])]
      simpa using h2
theorem ropen_any (to at_ : Int) (w : World) (h : RefW w B rb ao cap T C) (hT : T.length ≤ 1000) (hB : B ≤ w.heap.size) : Calls Try.prog 32 #[.pointer (some ⟨rb, 0, none⟩), .int .i64 to, .int .i64 at_] w fun e w' =>
    e = .returned (.tuple #[.int .u64 (openI C T at_ : Int), .int .i64 (openE C T at_ : Int)]) ∧ ∃ ao' cap', RefW w' B rb ao' cap' (openT C T to at_) C ∧ Keep (rb :: blk ao) w w' ∧ ∀ g ∈ blk ao', g ∈ blk ao ∨ w.heap.size ≤ g := by
  unfold openI openE openT
  cases ht : timeB at_
  · rw [if_neg (by simp), if_neg (by simp), if_neg (by simp)]
    exact (ropen_time to at_ ht w).mono fun e w' ⟨h1, h2⟩ => ⟨h1, ao, cap, by subst h2; exact h, by subst h2; exact Keep.refl _ _, fun g hg => .inl hg⟩
  · obtain ⟨h1, h2⟩ := timeB_iff.1 ht
    obtain ⟨a, rfl⟩ : ∃ a : Nat, at_ = a := ⟨at_.toNat, by omega⟩
    by_cases hf : (live T).length = C.room
    · rw [if_neg (by simp [hf]), if_pos rfl, if_neg (by simp [hf]), if_neg (by simp [hf])]
      exact (ropen_full to a (by omega) w h hT hf).mono fun e w' ⟨h1, h2⟩ => ⟨h1, ao, cap, by subst h2; exact h, by subst h2; exact Keep.refl _ _, fun g hg => .inl hg⟩
    · rw [if_pos ⟨rfl, hf⟩, if_pos rfl, if_pos hf, if_pos ⟨rfl, hf⟩]
      refine (ropen_yes to a (T.length + 1) (by omega) w h hT hf rfl hB).mono fun e w' ⟨h1, ao', cap', h2, h3, h4⟩ => ⟨h1, ao', cap', by simpa using h2, h3, h4⟩
end
end Go.Proofs.Ytjhdlohcjodgjaa
