/- DetectTells: what a step does; the walk. -/
import Derived.Test.YtlfnkplgjlpaaaaTell
import Derived.Test.YtlfnkplgjlpaaaaOwn2
import Derived.Deep.CutRange
namespace Go.Proofs.Ytlfnkplgjlpaaaa
open Go.RowKit Go.Sort
set_option linter.unusedVariables false

section
variable {w : World} {B hn guess ga : Nat} {Bs : List Nat} {S : List Nd} {f : Nat → Bool} {p now : Nat}
/-- between two steps -/
structure Tst (w : World) (B hn ga : Nat) (Bs : List Nat) (S : List Nd) (f : Nat → Bool) : Prop where
  det : Det w B hn Bs S 8
  arr : Arr w ga f
  apart : ga ∉ Bs
  tell : Tell S f
  low : Low S
  inc : Inc S
theorem Det.inc (h : Det w B hn Bs S guess) : Inc S := by obtain ⟨_, _, h⟩ := h; exact h.inc
theorem Tst.turned {w' : World} {Bs' : List Nat} {S' : List Nd} (h : Tst w B hn ga Bs S f) (hd : Det w' B hn Bs' S' 8) (t : Turned Bs Bs' w w') (ht : Tell S' f) (hl : Low S') : Tst w' B hn ga Bs' S' f :=
  ⟨hd, h.arr.keep t.keep h.apart, t.apart h.apart h.arr.lt, ht, hl, hd.inc⟩
theorem Tst.below {w' : World} (h : Tst w B hn ga Bs S f) (b : Below w.heap.size w w') : Tst w' B hn ga Bs S f := ⟨h.det.below b, h.arr.below b, h.apart, h.tell, h.low, h.inc⟩
theorem watch_any (hp : p < 12) (hnow : now ≤ 1099511627776) (w : World) (h : Tst w B hn ga Bs S f) : Calls Try.prog 12 #[.pointer (some ⟨hn, 0, none⟩), .int .i64 (p : Int), .int .i64 (now : Int)] w fun e w' =>
    ∃ x Bs' S', e = .returned (.int .i64 x) ∧ Tst w' B hn ga Bs' S' f ∧ Turned Bs Bs' w w' := by
  cases hl : look S (p : Int) with
  | some n => exact (watch_is (p : Int) (by omega) hnow w h.det hl).mono fun e w' ⟨h1, b⟩ => ⟨_, Bs, S, h1, h.below b, Turned.below b⟩
  | none =>
    by_cases hf : 12 ≤ S.length
    · exact (watch_full (p : Int) (by omega) hnow w h.det hl hf).mono fun e w' ⟨h1, b⟩ => ⟨_, Bs, S, h1, h.below b, Turned.below b⟩
    · exact (watch_yes (p : Int) (by omega) hnow w h.det hl (by omega)).mono fun e w' ⟨Bs', h1, h2, h3⟩ => ⟨_, Bs', _, h1, h.turned h2 h3 (h.tell.watch h.inc hl) (h.low.watch hp), h3⟩
theorem leave_any (hp : p < 12) (w : World) (h : Tst w B hn ga Bs S f) : Calls Try.prog 16 #[.pointer (some ⟨hn, 0, none⟩), .int .i64 (p : Int)] w fun e w' =>
    ∃ x, e = .returned (.int .i64 x) ∧ Det w' B hn Bs (wo S (p : Int)) 8 ∧ Turned Bs Bs w w' := by
  have hwf := wf_small (x := (p : Int)) (by omega) (by omega)
  cases hl : look S (p : Int) with
  | none => exact (leave_no (p : Int) hwf w h.det hl).mono fun e w' ⟨h1, b⟩ => ⟨_, h1, by rw [wo_none hl]; exact h.det.below b, Turned.below b⟩
  | some n => exact (leave_yes (p : Int) hwf w h.det hl).mono fun e w' ⟨h1, h2, h3⟩ => ⟨_, h1, h2, h3⟩
theorem beat_any (hp : p < 12) (hnow : now ≤ 1099511627776) (w : World) (h : Tst w B hn ga Bs S f) : Calls Try.prog 14 #[.pointer (some ⟨hn, 0, none⟩), .int .i64 (p : Int), .int .i64 (now : Int)] w fun e w' =>
    ∃ x S', e = .returned (.int .i64 x) ∧ Tst w' B hn ga Bs S' f ∧ Turned Bs Bs w w' := by
  have hwf := wf_small (x := (p : Int)) (by omega) (by omega)
  cases hl : look S (p : Int) with
  | none => exact (beat_no (p : Int) (now : Int) hwf w h.det hl).mono fun e w' ⟨h1, b⟩ => ⟨_, S, h1, h.below b, Turned.below b⟩
  | some n =>
    have hid := (h.det.found hl).2
    exact (beat_yes (p : Int) hwf hnow w h.det hl).mono fun e w' ⟨h1, h2, h3⟩ => ⟨_, _, h1, h.turned h2 h3 (h.tell.put h.inc hid hl rfl) (h.low.put hid hp), h3⟩
/-- Tst behind a change of the array alone -/
theorem Tst.store (hd : Det w B hn Bs (wo S (p : Int)) 8) (ha : Arr w ga f) (hap : ga ∉ Bs) (ht : Tell S f) (hl : Low S) : Tst (w.setCell ⟨ga, p, none⟩ (.bool false)) B hn ga Bs (wo S (p : Int)) (updB f p false) :=
  ⟨hd.keep (Keep.setCell w _ _) (fun q hq hm => hap (by simp at hm; exact hm ▸ hq)), ha.set p false, hap, ht.leave, hl.leave, hd.inc⟩
end
end Go.Proofs.Ytlfnkplgjlpaaaa
