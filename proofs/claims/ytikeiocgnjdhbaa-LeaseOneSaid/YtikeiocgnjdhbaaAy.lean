/- Apply, when the decree goes through and when not. -/
import Derived.Test.YtikeiocgnjdhbaaLd
namespace Go.Proofs.Ytikeiocgnjdhbaa
open Go.RowKit Go.Sort
set_option linter.unusedVariables false
set_option linter.unusedSimpArgs false
set_option maxRecDepth 100000

theorem ap_yes {T : Tb} (h : T.Ok) (D : Dc) (c0 : 0 ≤ D.cnt) (c1 : D.cnt ≤ 4294967295) (h0 : refuse T D = 0) : Ret 13 #[T.v, D.v] (.returned (.tuple #[.agg ⟨(behindT T D).list⟩, .int .i64 0])) := by
  have := apply_any T h.sz D (by have := h.v0; omega) h.r c0 c1
  rwa [show apR T D = .tuple #[.agg ⟨(behindT T D).list⟩, .int .i64 0] by unfold apR apT; rw [if_pos h0, h0]] at this
theorem ap_no {T : Tb} (h : T.Ok) (D : Dc) (c0 : 0 ≤ D.cnt) (c1 : D.cnt ≤ 4294967295) (e : Int) (h0 : refuse T D = e) (he : ¬ e = 0) : Ret 13 #[T.v, D.v] (.returned (.tuple #[.agg ⟨T.list⟩, .int .i64 e])) := by
  have := apply_any T h.sz D (by have := h.v0; omega) h.r c0 c1
  rwa [show apR T D = .tuple #[.agg ⟨T.list⟩, .int .i64 e] by unfold apR apT; rw [h0, if_neg he]] at this
theorem ok_behind {T : Tb} (h : T.Ok) {D : Dc} (c0 : 0 ≤ D.cnt) (c1 : D.cnt ≤ 4294967295) (h0 : refuse T D = 0) : (behindT T D).Ok := by
  have := apT_ok h D c0 c1
  unfold apT at this
  rwa [if_pos h0] at this
theorem zle : (0 : Int) ≤ 0 := by omega
theorem zle32 : (0 : Int) ≤ 4294967295 := by omega

end Go.Proofs.Ytikeiocgnjdhbaa
