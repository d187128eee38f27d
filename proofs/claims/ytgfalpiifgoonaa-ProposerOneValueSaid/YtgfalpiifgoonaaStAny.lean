/- ProposerOneValue: the law's own step, whatever the event. -/
import Derived.Test.YtgfalpiifgoonaaSt0
import Derived.Test.YtgfalpiifgoonaaSt1
import Derived.Test.YtgfalpiifgoonaaSt2
import Derived.Test.YtgfalpiifgoonaaSt3
import Derived.Test.YtgfalpiifgoonaaSt4
import Derived.Test.YtgfalpiifgoonaaSt5
import Derived.Test.YtgfalpiifgoonaaStn
namespace Go.Proofs.Ytgfalpiifgoonaa
open Go.RowKit Go.Sort
set_option linter.unusedVariables false
set_option maxRecDepth 100000
theorem step_any {B xb n c d : Nat} {tg : Nat → Nat} {H : Hd} {vote : ByteArray} {x : PX} (kd a b : Int) (v : ByteArray) (wk : (Lit.int .i64 kd).wf = true) (wa : (Lit.int .i64 a).wf = true) (wb : (Lit.int .i64 b).wf = true) (hv : v.size ≤ 281474976710656) (W : World) (h : WdW W B xb n tg H c d vote x) (hd : d ≤ 10000) (hcc : c < 100000) (hrd : x.rd ≤ 10000) (hvs : vote.size ≤ 281474976710656) (hvd : vote ∈ x.ds) (hin : x.Inv n vote) (hna : x.Nn n) :
    Calls Try.prog 22 #[.pointer (some ⟨xb, 0, none⟩), .agg #[.int .i64 kd, .int .i64 a, .int .i64 b, .string v]] W (StEnd W B xb n tg c d vote x (if kd = 0 then x.ds ++ [v] else x.ds)) := by
  by_cases h1 : kd < 0
  · rw [if_neg (by omega)]
    exact step_km a b v wa wb hv W h hd hcc kd wk h1 hin hna
  by_cases h2 : 5 < kd
  · rw [if_neg (by omega)]
    exact step_kn kd wk h2 a b v wa wb hv W h hd hcc hin hna
  rcases (show kd = 0 ∨ kd = 1 ∨ kd = 2 ∨ kd = 3 ∨ kd = 4 ∨ kd = 5 by omega) with rfl | rfl | rfl | rfl | rfl | rfl
  · rw [if_pos rfl]; exact step_k0 a b v wa wb hv W h hd hcc hrd hin hna
  · rw [if_neg (by decide)]; exact step_k1 a b v wa wb hv W h hd hcc hvs hvd hin hna
  · rw [if_neg (by decide)]; exact step_k2 a b v wa wb hv W h hd hcc hin hna
  · rw [if_neg (by decide)]; exact step_k3 a b v wa wb hv W h hd hcc hin hna
  · rw [if_neg (by decide)]; exact step_k4 a b v wa wb hv W h hd hcc hin hna
  · rw [if_neg (by decide)]; exact step_k5 a b v wa wb hv W h hd hcc hin hna
end Go.Proofs.Ytgfalpiifgoonaa
