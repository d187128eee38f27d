/- The message of a body, whatever it is. The deferred function of Decode. -/
import Derived.Test.YtngcbpgafjnfaaaGreatDoorLoB26
import Derived.Test.YtngcbpgafjnfaaaGreatDoorLoB21
import Derived.Defers
import Derived.Recover
set_option linter.unusedSimpArgs false
set_option linter.unusedVariables false

namespace Go.Proofs.YtngcbpgafjnfaaaGreatDoor
open Go.RowKit
set_option linter.unusedVariables false

theorem msgof_any (bo : Option Addr) (n cap : Nat) (b : List Nat) (hb : b.length = n) (hc : n ≤ cap) (hm : cap ≤ maxLen) (hbig : n ≤ 131072) (w : World) (hr : Rd w bo b) : Calls Tryz.prog 41 #[.slice bo n cap] w (MsgEnd b w) := by
  cases b with
  | nil =>
    obtain rfl : n = 0 := by simpa using hb.symm
    exact msgof_none bo cap w
  | cons k l =>
    simp only [List.length_cons] at hb
    obtain ⟨g, o, rfl, hg, hcell⟩ := hr.at_ 0 (by simp)
    rw [Nat.add_zero] at hcell
    have hk : k < 256 := hr.lt k (by simp)
    by_cases h : k < 1 ∨ 23 < k
    · exact msgof_kind g o n cap k h hk (by omega) l w hg hcell
    · exact msgof_good g o n cap k (by omega) (by omega) l hb hc hm hbig w hr
end Go.Proofs.YtngcbpgafjnfaaaGreatDoor


namespace Go.Proofs.YtngcbpgafjnfaaaGreatDoor
open Go.RowKit
set_option linter.unusedVariables false

theorem idle29 (p q : Addr) (w : World) : CallsD Tryz.prog 39 #[.pointer (some p), .pointer (some q)] .returning w fun e u' w' => e = .returned (.tuple #[]) ∧ u' = .returning ∧ w' = w := by
  refine callsD_of_wpS Tryz.func39 rfl fun c₀ cs hu => ?_
  apply wpS_seq
  apply wpS_region
  simp [wpOpsS, go_sem, recoverD, hu, Tryz.ntmps39, Exit.thenS]
  apply wpS_seq
  apply wpS_region
  simp [wpOpsS, go_sem, Exit.thenS]
  refine wpS_cond (t := false) (by simp [Act.eval, Array.replicate]) ?_
  simp only [Bool.false_eq_true, if_false]
  refine wpS_of_wp (wp_skip ?_)
  cases c₀
  simp_all [bodyPostS, results, Tryz.results39]


set_option maxRecDepth 100000 in
set_option maxHeartbeats 1000000 in
/-- a fault was given up -/
theorem caught29 (gs ge : Nat) (a : Addr) (old : Array Value) (ve : Value) (w : World) (hE : ErrT w) (hga : a.block < w.heap.size) (hs : w.heap[gs]? = some (.cells old 52 (0, 0))) (ho : old.size = 49) (he : w.cell? ⟨ge, 0, none⟩ = some ve) (hne : gs ≠ ge) (hfe : w.frozen? ⟨ge, 0, none⟩ = false) (ha1 : a.block ≠ gs) (ha2 : a.block ≠ ge) :
    CallsD Tryz.prog 39 #[.pointer (some ⟨gs, 0, none⟩), .pointer (some ⟨ge, 0, none⟩)] (.panicking [{ v := .iface 112 (.pointer (some a)), recovered := false }]) w fun e u' w' =>
      e = .returned (.tuple #[]) ∧ u' = .panicking [{ v := .iface 112 (.pointer (some a)), recovered := true }] ∧ w'.heap[gs]? = some (.cells (noughtCs 0 0 0) 52 (0, 0)) ∧ w'.cell? ⟨ge, 0, none⟩ = some (.iface 112 (.pointer (some a))) ∧ (∀ j, w'.cell? ⟨a.block, j, none⟩ = w.cell? ⟨a.block, j, none⟩) ∧ w.heap.size ≤ w'.heap.size ∧ ∀ B, B ≤ gs → B ≤ ge → B ≤ w.heap.size → Below B w w' := by
  refine callsD_of_wpS Tryz.func39 rfl fun c₀ cs hu => ?_
  apply wpS_seq
  apply wpS_region
  simp [wpOpsS, go_sem, recoverD, hu, Tryz.ntmps39, Exit.thenS]
  have hgs : gs < w.heap.size := (Array.getElem?_eq_some_iff.1 hs).1
  have hge := World.block_lt_of_cell? w _ he
  have FO := Lib.hid (faultof_any a w hE)
  have HO := Lib.hid (nought_one 0)
  have HI := Lib.hid msg_size
  have HOLD := Lib.hid (show old.size = (noughtCs 0 0 0).size from ho)
  clear hE ho
  refine wpS_of_wp ?_
  go_wp2_with fail
  refine FO.out.mono ?_
  rintro e w1 ⟨rfl, hb⟩
  have hs1 := (hb.block gs hgs).trans hs
  have he1 := (hb.cell (p := ⟨ge, 0, none⟩) hge).trans he
  have hfe1 := (hb.frozen (p := ⟨ge, 0, none⟩) hge).trans hfe
  have hge1 : ge < w1.heap.size := Nat.lt_of_lt_of_le hge hb.size
  have hk := Keep.setRow w1 gs (noughtCs 0 0 0)
  have he2 := (hk.cell (a := ⟨ge, 0, none⟩) hge1 (by simpa using fun h => hne h.symm)).trans he1
  have hfe2 := (hk.frozen (a := ⟨ge, 0, none⟩) hge1 (by simpa using fun h => hne h.symm)).trans hfe1
  have HB := Lib.hid hb; have HS1 := Lib.hid hs1; have HK := Lib.hid hk
  have HA := Lib.hid (fun j : Nat => hb.cell (p := ⟨a.block, j, none⟩) hga)
  have HGA := Lib.hid (Nat.lt_of_lt_of_le hga hb.size)
  clear hb hs he hfe hs1 he1 hfe1 hk
  simp only [Array.replicate, List.replicate, List.setIfInBounds_toArray, List.set_cons_zero, List.set_cons_succ, List.append_toArray, List.cons_append, List.nil_append]
  go_wp2_with (refine wpList_store_row rfl 52 (.tmp 0) (.tmp 6) rfl gs (noughtCs 0 0 0) rfl rfl 52 old HS1.out HI.out HOLD.out HO.out ?_)
  refine ⟨rfl, _, rfl, .tuple #[], by simp [results, Tryz.results39], rfl, rfl, ?_, ?_, fun j => ?_, ?_, fun B h1 h2 h3 => ?_⟩
  · rw [Below.heap_setCell _ ⟨ge, 0, none⟩ _ _ hne]
    exact setRow_heap _ _ _ _ _ _ HS1.out
  · exact World.cell?_setCell_same _ ⟨ge, 0, none⟩ _ he2
  · rw [World.cell?_setCell_other _ _ _ _ (by intro e; cases e; exact ha2 rfl), HK.out.cell (a := ⟨a.block, j, none⟩) HGA.out (by simpa using ha1)]
    exact HA.out j
  · have := HB.out.size; have := HK.out.size; simp [World.setCell]; omega
  · exact ((HB.out.mono h3).trans (HK.out.below (by have := HB.out.size; omega) (by simpa using h1))).setCell h2 _
end Go.Proofs.YtngcbpgafjnfaaaGreatDoor
