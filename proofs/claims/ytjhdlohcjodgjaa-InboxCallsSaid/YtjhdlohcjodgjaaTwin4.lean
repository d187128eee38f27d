/- A step of a script: Open. -/
import Derived.Test.YtjhdlohcjodgjaaTwin3
namespace Go.Proofs.Ytjhdlohcjodgjaa
open Go.RowKit
set_option linter.unusedVariables false

section
variable {w : World} {B tb hn gm rb cap now k : Nat} {ao : Option Addr} {T : List Cal} {C : Cfg}
theorem openT_len (C : Cfg) (T : List Cal) (to at_ : Int) : (openT C T to at_).length ≤ T.length + 1 := by unfold openT; split <;> simp
theorem openT_tries (hok : C.ok) (h : ∀ x ∈ T, x.tries ≤ C.tries) (to at_ : Int) : ∀ x ∈ openT C T to at_, x.tries ≤ C.tries := by
  intro x hx
  unfold openT at hx
  split at hx
  · rcases List.mem_append.1 hx with h1 | h1
    · exact h x h1
    · simp only [List.mem_singleton] at h1
      subst h1
      obtain ⟨_, _, _, _, _, h2, _⟩ := hok
      simpa [opened] using h2
  · exact h x hx
set_option maxRecDepth 100000 in
set_option maxHeartbeats 8000000 in
theorem step_open (n a : Int) (raw : Bool) (h : TwinW w B tb hn gm rb cap ao T C now) (hk : T.length ≤ k) (hk2 : k < 1000) :
    Calls Try.prog 16 #[.pointer (some ⟨tb, 0, none⟩), stv 1 n a raw] w (Stepped B tb hn k w) := by
  have HT := Lib.hid h
  have hT : T.length ≤ 1000 := by omega
  have htb := h.tlt
  have HI := Lib.hid h.time
  have d2 := h.at_ 2
  have e0 := (Begun.of h 1 n a raw).tw.at_ 0; have e1 := (Begun.of h 1 n a raw).tw.at_ 1; have e2 := (Begun.of h 1 n a raw).tw.at_ 2; have f2 := (Begun.of h 1 n a raw).tw.fr 2
  simp only [rowT, List.getElem?_toArray, List.getElem?_cons_succ, List.getElem?_cons_zero] at d2 e0 e1 e2
  obtain ⟨⟨⟨x0, x1, x2, x3⟩, x4⟩⟩ : Nonempty (BoxS w.heap.size 1 n a raw (w.alloc (sto 1 n a raw))) := ⟨(Begun.of h 1 n a raw).box⟩
  have hw := ways raw a now
  unfold Ways at hw
  have HG := Lib.hid (Begun.of h 1 n a raw)
  clear h
  go_enter Try.func16, Try.ntmps16
  obtain ⟨z, hz⟩ : ∃ z : Int, z = (now : Int) := ⟨_, rfl⟩
  rw [← hz] at e2 d2 hw
  have HZ := Lib.hid hz
  have hz0 : 0 ≤ z := by omega
  clear hz
  rcases hw with rfl | ⟨rfl, h2⟩ | ⟨rfl, h2, h3⟩ | ⟨rfl, h2, h3, h4⟩ | ⟨rfl, h2, h3, h4⟩
  all_goals go_wp2_with fail
  all_goals first
    | (replace HG := Lib.hid (Begun.set HT.out 1 n a false (now + a.toNat) (z + a) (by have := HZ.out; have := HI.out; omega) (by have := HZ.out; have := HI.out; omega))
       generalize (w.setCell ⟨tb, 2, none⟩ (.int .i64 (z + a))).alloc (sto 1 n a false) = W at *
       generalize w.heap.size = bx at *
       generalize z + a = q at *
       generalize now + a.toNat = now1 at *)
    | (have hx := (x3 : (w.alloc (sto 1 n a true)).cell? ⟨w.heap.size, 3, none⟩ = some (.bool true))
       clear hx
       generalize w.alloc (sto 1 n a true) = W at *
       generalize w.heap.size = bx at *
       generalize a = q at *
       generalize now = now1 at HG)
    | (generalize w.alloc (sto 1 n a false) = W at *
       generalize w.heap.size = bx at *
       generalize a = q at *
       generalize now = now1 at HG)
  all_goals clear x0 x1 x2 x3 x4 e0 e1 e2 f2 d2
  all_goals have c0 := HG.out.tw.at_ 0
  all_goals have c1 := HG.out.tw.at_ 1
  all_goals simp only [rowT, List.getElem?_toArray, List.getElem?_cons_succ, List.getElem?_cons_zero] at c0 c1
  all_goals obtain ⟨⟨_, y1, _, _⟩, y4⟩ := HG.out.box
  all_goals have htl := HG.out.tw.tlt
  all_goals have HNA := Lib.hid (show tb ∉ [hn, gm] ∧ bx ∉ [hn, gm] from HG.out.apA)
  all_goals have hS : W.cell? ⟨tb, 0, none⟩ = some (.pointer (some ⟨hn, 0, none⟩)) ∧ W.cell? ⟨tb, 1, none⟩ = some (.pointer (some ⟨rb, 0, none⟩)) ∧ W.cell? ⟨bx, 1, none⟩ = some (.int .i64 n) ∧ tb < W.heap.size ∧ bx < W.heap.size := ⟨c0, c1, y1, htl, y4⟩
  all_goals go_region_held3 (fun w' => w'.cell? ⟨tb, 0, none⟩ = some (.pointer (some ⟨hn, 0, none⟩)) ∧ w'.cell? ⟨tb, 1, none⟩ = some (.pointer (some ⟨rb, 0, none⟩)) ∧ w'.cell? ⟨bx, 1, none⟩ = some (.int .i64 n) ∧ tb < w'.heap.size ∧ bx < w'.heap.size)
    (first | assumption | exact heldKeep (by assumption) (by assumption) HNA.out.1 HNA.out.2 | exact heldKeep (by assumption) (Keep.of_below (Below.refl _ _).drew []) (by simp) (by simp))
    (first | (go_at_call 24; refine (aopen_any n q _ (HG.out.tw.A.below (Below.refl _ _).drew) hT).mono ?_; rintro e w3 ⟨rfl, h3, k3⟩; have H3 := Lib.hid h3; have K3 := Lib.hid k3; clear h3))
  all_goals clear k3 c0 c1 y1 y4 htl hS
  all_goals have hS : w3.cell? ⟨tb, 0, none⟩ = some (.pointer (some ⟨hn, 0, none⟩)) ∧ w3.cell? ⟨tb, 1, none⟩ = some (.pointer (some ⟨rb, 0, none⟩)) ∧ w3.cell? ⟨bx, 1, none⟩ = some (.int .i64 n) ∧ tb < w3.heap.size ∧ bx < w3.heap.size := by assumption
  all_goals have HR3 := Lib.hid (HG.out.ref3 K3.out)
  all_goals have HNR := Lib.hid (show tb ∉ rb :: blk ao ∧ bx ∉ rb :: blk ao from HG.out.apR)
  all_goals go_wp2_with fail
  all_goals go_region_held3 (fun w' => w'.cell? ⟨tb, 0, none⟩ = some (.pointer (some ⟨hn, 0, none⟩)) ∧ w'.cell? ⟨tb, 1, none⟩ = some (.pointer (some ⟨rb, 0, none⟩)) ∧ w'.cell? ⟨bx, 1, none⟩ = some (.int .i64 n) ∧ tb < w'.heap.size ∧ bx < w'.heap.size)
    (first | assumption | exact heldKeep (by assumption) (by assumption) HNR.out.1 HNR.out.2 | exact heldKeep (by assumption) (Keep.of_below (Below.refl _ _).drew []) (by simp) (by simp))
    (first | (go_at_call 32; refine (ropen_any n q _ (HR3.out.1.below (Below.refl _ _).drew) hT (Nat.le_trans HR3.out.2 (Begun.drew _).size)).mono ?_; rintro e w4 ⟨rfl, ao', cap', h4, k4, g4⟩; have H4 := Lib.hid h4; have K4 := Lib.hid k4; have G4 := Lib.hid g4; clear h4 g4))
  all_goals have HE := Lib.hid (HG.out.both H3.out K3.out H4.out K4.out G4.out (openT_tries HG.out.tw.R.ok HG.out.tw.tries n q))
  all_goals clear k4
  all_goals go_wp2_with fail
  all_goals go_ret
  all_goals exact ⟨rfl, ⟨gm, rb, cap', ao', _, C, now1, HE.out.1, Nat.le_trans (openT_len C T n q) (by omega)⟩, HE.out.2⟩
end
end Go.Proofs.Ytjhdlohcjodgjaa
