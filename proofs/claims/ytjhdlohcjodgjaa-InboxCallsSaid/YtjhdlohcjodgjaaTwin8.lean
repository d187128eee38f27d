/- A step of a script: any. -/
import Derived.Test.YtjhdlohcjodgjaaTwin4
import Derived.Test.YtjhdlohcjodgjaaTwin5
import Derived.Test.YtjhdlohcjodgjaaTwin7
namespace Go.Proofs.Ytjhdlohcjodgjaa
open Go.RowKit
set_option linter.unusedVariables false

section
variable {w : World} {B tb hn gm rb cap now k : Nat} {ao : Option Addr} {T : List Cal} {C : Cfg}
set_option maxRecDepth 100000 in
set_option maxHeartbeats 8000000 in
theorem step_other (kind n a : Int) (raw : Bool) (h : TwinW w B tb hn gm rb cap ao T C now) (hk : T.length ≤ k) (hk2 : k < 1000) (h1 : kind ≠ 1) (h2 : kind ≠ 2) (h3 : kind ≠ 3) :
    Calls Try.prog 16 #[.pointer (some ⟨tb, 0, none⟩), stv kind n a raw] w (Stepped B tb hn k w) := by
  have k1 : (kind == 1) = false := by simp [h1]
  have k2 : (kind == 2) = false := by simp [h2]
  have k3 : (kind == 3) = false := by simp [h3]
  clear h1 h2 h3
  have HT := Lib.hid h
  have hT : T.length ≤ 1000 := by omega
  have htb := h.tlt
  have HI := Lib.hid h.time
  have d2 := h.at_ 2
  have e0 := (Begun.of h kind n a raw).tw.at_ 0; have e1 := (Begun.of h kind n a raw).tw.at_ 1; have e2 := (Begun.of h kind n a raw).tw.at_ 2; have f2 := (Begun.of h kind n a raw).tw.fr 2
  simp only [rowT, List.getElem?_toArray, List.getElem?_cons_succ, List.getElem?_cons_zero] at d2 e0 e1 e2
  obtain ⟨⟨⟨x0, x1, x2, x3⟩, x4⟩⟩ : Nonempty (BoxS w.heap.size kind n a raw (w.alloc (sto kind n a raw))) := ⟨(Begun.of h kind n a raw).box⟩
  have hw := ways raw a now
  unfold Ways at hw
  have HG := Lib.hid (Begun.of h kind n a raw)
  clear h
  go_enter Try.func16, Try.ntmps16
  obtain ⟨z, hz⟩ : ∃ z : Int, z = (now : Int) := ⟨_, rfl⟩
  rw [← hz] at e2 d2 hw
  have HZ := Lib.hid hz
  have hz0 : 0 ≤ z := by omega
  clear hz
  rcases hw with rfl | ⟨rfl, h2⟩ | ⟨rfl, h2, h3⟩ | ⟨rfl, h2, h3, h4⟩ | ⟨rfl, h2, h3, h4⟩
  all_goals go_wp2_with fail
  all_goals first
    | (replace HG := Lib.hid (Begun.set HT.out kind n a false (now + a.toNat) (z + a) (by have := HZ.out; have := HI.out; omega) (by have := HZ.out; have := HI.out; omega))
       generalize (w.setCell ⟨tb, 2, none⟩ (.int .i64 (z + a))).alloc (sto kind n a false) = W at *
       generalize w.heap.size = bx at *
       generalize z + a = q at *
       generalize now + a.toNat = now1 at *)
    | (have hx := (x3 : (w.alloc (sto kind n a true)).cell? ⟨w.heap.size, 3, none⟩ = some (.bool true))
       clear hx
       generalize w.alloc (sto kind n a true) = W at *
       generalize w.heap.size = bx at *
       generalize a = q at *
       generalize now = now1 at HG)
    | (generalize w.alloc (sto kind n a false) = W at *
       generalize w.heap.size = bx at *
       generalize a = q at *
       generalize now = now1 at HG)
  all_goals go_wp2_with fail
  all_goals go_ret
  all_goals exact ⟨rfl, ⟨gm, rb, cap, ao, T, C, now1, HG.out.tw, by omega⟩, HG.out.bel⟩
theorem step_any (kind n a : Int) (raw : Bool) (h : TwinW w B tb hn gm rb cap ao T C now) (hk : T.length ≤ k) (hk2 : k < 1000) :
    Calls Try.prog 16 #[.pointer (some ⟨tb, 0, none⟩), stv kind n a raw] w (Stepped B tb hn k w) := by
  by_cases h1 : kind = 1
  · subst h1; exact step_open n a raw h hk hk2
  by_cases h2 : kind = 2
  · subst h2; exact step_close n a raw h hk hk2
  by_cases h3 : kind = 3
  · subst h3; exact step_due n a raw h hk hk2
  exact step_other kind n a raw h hk hk2 h1 h2 h3
end
end Go.Proofs.Ytjhdlohcjodgjaa
