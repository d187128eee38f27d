/- The deferred function of Encode. Encode, from any message. -/
import Derived.Test.YtngcbpgafjnfaaaGreatDoorLoB21
import Derived.Defers
import Derived.Recover
import Derived.Test.YtngcbpgafjnfaaaGreatDoorLoB23
import Derived.Test.YtngcbpgafjnfaaaGreatDoorLoB15
set_option linter.unusedSimpArgs false
set_option linter.unusedVariables false

namespace Go.Proofs.YtngcbpgafjnfaaaGreatDoor
open Go.RowKit
set_option linter.unusedVariables false

theorem idle21 (p q : Addr) (w : World) : CallsD Tryz.prog 31 #[.pointer (some p), .pointer (some q)] .returning w fun e u' w' => e = .returned (.tuple #[]) ∧ u' = .returning ∧ w' = w := by
  refine callsD_of_wpS Tryz.func31 rfl fun c₀ cs hu => ?_
  apply wpS_seq
  apply wpS_region
  simp [wpOpsS, go_sem, recoverD, hu, Tryz.ntmps31, Exit.thenS]
  apply wpS_seq
  apply wpS_region
  simp [wpOpsS, go_sem, Exit.thenS]
  refine wpS_cond (t := false) (by simp [Act.eval, Array.replicate]) ?_
  simp only [Bool.false_eq_true, if_false]
  refine wpS_of_wp (wp_skip ?_)
  cases c₀
  simp_all [bodyPostS, results, Tryz.results31]

set_option maxHeartbeats 1000000 in
/-- a fault was given up -/
theorem caught21 (gs ge : Nat) (a : Addr) (vs ve : Value) (w : World) (hE : ErrT w) (hga : a.block < w.heap.size) (hs : w.cell? ⟨gs, 0, none⟩ = some vs) (he : w.cell? ⟨ge, 0, none⟩ = some ve) (hne : gs ≠ ge) (hfs : w.frozen? ⟨gs, 0, none⟩ = false) (hfe : w.frozen? ⟨ge, 0, none⟩ = false) (ha1 : a.block ≠ gs) (ha2 : a.block ≠ ge) :
    CallsD Tryz.prog 31 #[.pointer (some ⟨gs, 0, none⟩), .pointer (some ⟨ge, 0, none⟩)] (.panicking [{ v := .iface 112 (.pointer (some a)), recovered := false }]) w fun e u' w' =>
      e = .returned (.tuple #[]) ∧ u' = .panicking [{ v := .iface 112 (.pointer (some a)), recovered := true }] ∧ w'.cell? ⟨gs, 0, none⟩ = some (.slice none 0 0) ∧ w'.cell? ⟨ge, 0, none⟩ = some (.iface 112 (.pointer (some a))) ∧ (∀ j, w'.cell? ⟨a.block, j, none⟩ = w.cell? ⟨a.block, j, none⟩) ∧ w.heap.size ≤ w'.heap.size ∧ ∀ B, B ≤ gs → B ≤ ge → B ≤ w.heap.size → Below B w w' := by
  refine callsD_of_wpS Tryz.func31 rfl fun c₀ cs hu => ?_
  apply wpS_seq
  apply wpS_region
  simp [wpOpsS, go_sem, recoverD, hu, Tryz.ntmps31, Exit.thenS]
  have hgs := World.block_lt_of_cell? w _ hs
  have hge := World.block_lt_of_cell? w _ he
  have FO := Lib.hid (faultof_any a w hE)
  clear hE
  refine wpS_of_wp ?_
  go_wp2_with fail
  refine FO.out.mono ?_
  rintro e w1 ⟨rfl, hb⟩
  have hs1 := (hb.cell (p := ⟨gs, 0, none⟩) hgs).trans hs
  have he1 := (hb.cell (p := ⟨ge, 0, none⟩) hge).trans he
  have hfs1 := (hb.frozen (p := ⟨gs, 0, none⟩) hgs).trans hfs
  have hfe1 := (hb.frozen (p := ⟨ge, 0, none⟩) hge).trans hfe
  have HB := Lib.hid hb
  have HA := Lib.hid (fun j : Nat => hb.cell (p := ⟨a.block, j, none⟩) hga)
  clear hb hs he hfs hfe
  go_wp2_with fail
  refine ⟨rfl, _, rfl, .tuple #[], by simp [results, Tryz.results31], rfl, rfl, ?_, ?_, fun j => ?_, ?_, fun B h1 h2 h3 => ?_⟩
  · rw [World.cell?_setCell_other _ _ _ _ (by intro e; cases e; exact hne rfl)]
    exact World.cell?_setCell_same w1 ⟨gs, 0, none⟩ _ hs1
  · exact World.cell?_setCell_same _ ⟨ge, 0, none⟩ _ (show _ = some ve from by rw [World.cell?_setCell_other _ _ _ _ (by intro e; cases e; exact hne rfl)]; exact he1)
  · rw [World.cell?_setCell_other _ _ _ _ (by intro e; cases e; exact ha2 rfl), World.cell?_setCell_other _ _ _ _ (by intro e; cases e; exact ha1 rfl)]
    exact HA.out j
  · simpa [World.setCell] using HB.out.size
  · exact ((HB.out.mono h3).setCell h1 _).setCell h2 _
end Go.Proofs.YtngcbpgafjnfaaaGreatDoor


namespace Go.Proofs.YtngcbpgafjnfaaaGreatDoor
open Go.RowKit
set_option linter.unusedVariables false

/-- the frame of a message, as it is written; or the error, and of what -/
def encW (m : Ms) : Except (Nat × ByteArray) (List Nat) :=
  match bodyW m with
  | .error x => .error x
  | .ok b => if 65536 < b.length then .error (43, ⟨#[98, 111, 100, 121]⟩) else .ok (frameOf b)
/-- what Encode comes to -/
def EncEnd (m : Ms) (w : World) (e : Ending) (w' : World) : Prop :=
  Below w.heap.size w w' ∧ match encW m with
  | .error (n, s) => ∃ a, e = .returned (.tuple #[.slice none 0 0, .iface 112 (.pointer (some ⟨a, 0, none⟩))]) ∧ w.heap.size ≤ a ∧ w'.cell? ⟨a, 0, none⟩ = some (.int .i64 n) ∧ w'.cell? ⟨a, 1, none⟩ = some (.string s)
  | .ok f => ∃ ao cap, e = .returned (.tuple #[.slice ao f.length cap, .nilIface]) ∧ Own w' w.heap.size ao f.length cap f

theorem GaveN.below {n : Int} {f : ByteArray} {e : Ending} {w w' w'' : World} (h : GaveN n f e w w') (b : Below w'.heap.size w' w'') : GaveN n f e w w'' := by
  obtain ⟨a, h1, h2, h3, h4, h5⟩ := h
  exact ⟨a, h1, Nat.lt_of_lt_of_le h2 b.size, h3, (b.cell (p := ⟨a, 0, none⟩) h2).trans h4, (b.cell (p := ⟨a, 1, none⟩) h2).trans h5⟩

set_option maxRecDepth 100000 in
set_option maxHeartbeats 4000000 in
theorem encode_any (m : Ms) (hI : I64 m.kind) (cs : Array Value) (w : World) (hE : ErrT w) (hT : Tab w) (N : Nat → Prop) (hsz : cs.size = 49)
    (hM : Slots (w.alloc (.cells cs 52)) N w.heap.size 0 (slotsOf m)) (hN : ∀ b, N b → b < w.heap.size + 1) (h0 : cs[0]? = some (.int .i64 m.kind)) :
    Calls Tryz.prog 10 #[.agg cs] w (EncEnd m w) := by
  have hmf : ∀ (fn : Fn) (first cap : Array Value) (w : World), (Instr.makeFunc fn first cap).run Tryz.prog w = .ok (.func fn first cap) w := fun _ _ _ _ => rfl
  have hrow : (w.alloc (.cells cs 52)).heap[w.heap.size]? = some (.cells cs 52 (0, 0)) := heap_alloc_new w _
  have hs1 : (w.alloc (.cells cs 52)).heap.size = w.heap.size + 1 := by simp
  have hb1 : Below w.heap.size w (w.alloc (.cells cs 52)) := below_alloc (Below.refl _ _) _
  have HE := Lib.hid hE
  have HT := Lib.hid hT
  clear hE hT
  go_enter_defers Tryz.func10, Tryz.ntmps10
  go_wp2_with fail
  generalize w.alloc (.cells cs 52) = w1 at *
  have hb3 : Below w1.heap.size w1 ((w1.alloc (.cells #[.slice none 0 0] 54)).alloc (.cells #[.nilIface] 56)) := below_alloc (below_alloc (Below.refl _ _) _) _
  have k1 : ((w1.alloc (.cells #[.slice none 0 0] 54)).alloc (.cells #[.nilIface] 56)).cell? ⟨w.heap.size + 1, 0, none⟩ = some (.slice none 0 0) := by rw [← hs1]; go_simp
  have k2 : ((w1.alloc (.cells #[.slice none 0 0] 54)).alloc (.cells #[.nilIface] 56)).cell? ⟨w.heap.size + 1 + 1, 0, none⟩ = some .nilIface := by rw [← hs1]; go_simp
  have f1 : ((w1.alloc (.cells #[.slice none 0 0] 54)).alloc (.cells #[.nilIface] 56)).frozen? ⟨w.heap.size + 1, 0, none⟩ = false := by rw [← hs1]; go_simp
  have f2 : ((w1.alloc (.cells #[.slice none 0 0] 54)).alloc (.cells #[.nilIface] 56)).frozen? ⟨w.heap.size + 1 + 1, 0, none⟩ = false := by rw [← hs1]; go_simp
  have hs3 : ((w1.alloc (.cells #[.slice none 0 0] 54)).alloc (.cells #[.nilIface] 56)).heap.size = w.heap.size + 1 + 1 + 1 := by simp [hs1]
  generalize (w1.alloc (.cells #[.slice none 0 0] 54)).alloc (.cells #[.nilIface] 56) = w3 at *
  have HB3 : Hid (Below w.heap.size w w3) := Lib.hid (hb1.trans (hb3.mono (by omega)))
  have BODY := Lib.hid (bodyof_any m hI w.heap.size w3 N (slots_safe (P := (· < w1.heap.size)) hM (slotsOf_fine m) (safe_of_below hb3) (by show w.heap.size < _; omega) (fun b hb => by have := hN b hb; show b < w1.heap.size; omega) (fun b hb => hb)) (fun b hb => by have := hN b hb; omega) (by omega) (by rw [hb3.cell (p := ⟨w.heap.size, 0, none⟩) (by show w.heap.size < _; omega), cell_of_row w1 w.heap.size 0 _ _ (0, 0) hrow]; exact h0))
  have HS3 := Lib.hid hs3
  clear hb1 hb3 hrow hs1 hM hN h0 hsz
  clear w1
  refine BODY.out.mono ?_
  rintro e w4 ⟨hb, hm⟩
  have HB4 : Hid (Below w.heap.size w w4) := Lib.hid (HB3.out.trans (hb.mono HB3.out.size))
  have k14 := (hb.cell (p := ⟨w.heap.size + 1, 0, none⟩) (by show w.heap.size + 1 < _; omega)).trans k1
  have k24 := (hb.cell (p := ⟨w.heap.size + 1 + 1, 0, none⟩) (by show w.heap.size + 1 + 1 < _; omega)).trans k2
  have f14 := (hb.frozen (p := ⟨w.heap.size + 1, 0, none⟩) (by show w.heap.size + 1 < _; omega)).trans f1
  have f24 := (hb.frozen (p := ⟨w.heap.size + 1 + 1, 0, none⟩) (by show w.heap.size + 1 + 1 < _; omega)).trans f2
  have hs4 : w.heap.size + 1 + 1 + 1 ≤ w4.heap.size := by have := hb.size; omega
  clear k1 k2 f1 f2 hb hs3 BODY
  cases hbw : bodyW m with
  | error x =>
    obtain ⟨n, s⟩ := x
    rw [hbw] at hm
    obtain ⟨a, q1, q2, rfl, q3, q4⟩ := hm
    have ha : w.heap.size + 1 + 1 + 1 ≤ a := by have := HS3.out; omega
    refine leaves_cons (f := 31) (args := #[.pointer (some ⟨w.heap.size + 1, 0, none⟩), .pointer (some ⟨w.heap.size + 1 + 1, 0, none⟩)]) (by simp) (by simp [go_sem]) ?_
    refine (caught21 (w.heap.size + 1) (w.heap.size + 1 + 1) ⟨a, 0, none⟩ _ _ w4 (HE.out.below HB4.out) q2 k14 k24 (by omega) f14 f24 (by show a ≠ _; omega) (by show a ≠ _; omega)).mono ?_
    rintro e u' w5 ⟨rfl, rfl, r1, r2, r3, r4, r5⟩
    have HEND : Hid (EncEnd m w (.returned (.tuple #[.slice none 0 0, .iface 112 (.pointer (some ⟨a, 0, none⟩))])) w5) := Lib.hid (by
      unfold EncEnd encW
      rw [hbw]
      exact ⟨HB4.out.trans (r5 w.heap.size (by omega) (by omega) HB4.out.size), a, rfl, by omega, (r3 0).trans q3, (r3 1).trans q4⟩)
    clear r3 r4 r5 q1 q2 q3 q4 k14 k24 f14 f24
    simp [Leaves, settle, results, Tryz.results10, go_sem, r1, r2]
    exact HEND.out
  | ok b =>
    rw [hbw] at hm
    obtain ⟨ao, cap, rfl, ho⟩ := hm
    have HO := Lib.hid ho
    have hlen : b.length ≤ 9223372036854775807 := by have h1 := ho.le; have h2 := ho.max; unfold maxLen at h2; omega
    have WR := Lib.hid (wrap_any ao b.length cap b rfl hlen w4 (HT.out.below HB4.out) ho.rd)
    have HBW := Lib.hid hbw
    clear ho hlen hbw
    go_wp2_with fail
    refine WR.out.mono ?_
    rintro e w5 (⟨hbig, rfl, rfl⟩ | ⟨hle, ao2, cap2, rfl, o2, hb2⟩)
    · have HBIG := Lib.hid hbig
      clear hbig
      go_wp2_with (go_at_call 35; refine (giveup_any _ _ _).mono ?_; rintro e w' ⟨rfl, rfl⟩)
      have g1 : ((w5.setCell ⟨w.heap.size + 1, 0, none⟩ (.slice none 0 0)).alloc (.cells #[.int .i64 43, .string ⟨#[98, 111, 100, 121]⟩] 121)).cell? ⟨w.heap.size + 1, 0, none⟩ = some (.slice none 0 0) := by
        rw [World.cell?_alloc_lt _ _ ⟨w.heap.size + 1, 0, none⟩ (by show w.heap.size + 1 < (w5.setCell _ _).heap.size; simp [World.setCell]; omega)]
        exact World.cell?_setCell_same w5 ⟨w.heap.size + 1, 0, none⟩ _ k14
      have g2 : ((w5.setCell ⟨w.heap.size + 1, 0, none⟩ (.slice none 0 0)).alloc (.cells #[.int .i64 43, .string ⟨#[98, 111, 100, 121]⟩] 121)).cell? ⟨w.heap.size + 1 + 1, 0, none⟩ = some .nilIface := by
        rw [World.cell?_alloc_lt _ _ ⟨w.heap.size + 1 + 1, 0, none⟩ (by show w.heap.size + 1 + 1 < (w5.setCell _ _).heap.size; simp [World.setCell]; omega), World.cell?_setCell_other _ _ _ _ (by simp)]
        exact k24
      have hss : (w5.setCell ⟨w.heap.size + 1, 0, none⟩ (.slice none 0 0)).heap.size = w5.heap.size := by simp [World.setCell]
      have hob := fun (j : Nat) (hj : j < w5.heap.size) => heap_alloc_old (w5.setCell ⟨w.heap.size + 1, 0, none⟩ (.slice none 0 0)) (.cells #[.int .i64 43, .string ⟨#[98, 111, 100, 121]⟩] 121) (r := j) (by rw [hss]; exact hj)
      have g3 := (World.frozen?_of_block (a := ⟨w.heap.size + 1, 0, none⟩) (hob (w.heap.size + 1) (by omega))).trans ((World.frozen?_setCell _ _ _ _).trans f14)
      have g4 := (World.frozen?_of_block (a := ⟨w.heap.size + 1 + 1, 0, none⟩) (hob (w.heap.size + 1 + 1) (by omega))).trans ((World.frozen?_setCell _ _ _ _).trans f24)
      have hrow := heap_alloc_new (w5.setCell ⟨w.heap.size + 1, 0, none⟩ (.slice none 0 0)) (.cells #[.int .i64 43, .string ⟨#[98, 111, 100, 121]⟩] 121)
      rw [hss] at hrow
      have g5 := cell_of_row _ w5.heap.size 0 _ _ (0, 0) hrow
      have g6 := cell_of_row _ w5.heap.size 1 _ _ (0, 0) hrow
      have g7 : w5.heap.size < ((w5.setCell ⟨w.heap.size + 1, 0, none⟩ (.slice none 0 0)).alloc (.cells #[.int .i64 43, .string ⟨#[98, 111, 100, 121]⟩] 121)).heap.size := by simp [World.setCell]
      have HB6 : Hid (Below w.heap.size w ((w5.setCell ⟨w.heap.size + 1, 0, none⟩ (.slice none 0 0)).alloc (.cells #[.int .i64 43, .string ⟨#[98, 111, 100, 121]⟩] 121))) := Lib.hid (below_alloc (HB4.out.setCell (by show w.heap.size ≤ w.heap.size + 1; omega) _) _)
      clear k14 k24 f14 f24 hss hob hrow WR
      generalize (w5.setCell ⟨w.heap.size + 1, 0, none⟩ (.slice none 0 0)).alloc (.cells #[.int .i64 43, .string ⟨#[98, 111, 100, 121]⟩] 121) = w6 at *
      generalize ha0 : w5.heap.size = a at *
      refine leaves_cons (f := 31) (args := #[.pointer (some ⟨w.heap.size + 1, 0, none⟩), .pointer (some ⟨w.heap.size + 1 + 1, 0, none⟩)]) (by simp) (by simp [go_sem]) ?_
      refine (caught21 (w.heap.size + 1) (w.heap.size + 1 + 1) ⟨a, 0, none⟩ _ _ w6 (HE.out.below HB6.out) g7 g1 g2 (by omega) g3 g4 (by show a ≠ _; omega) (by show a ≠ _; omega)).mono ?_
      rintro e u' w7 ⟨rfl, rfl, r1, r2, r3, r4, r5⟩
      have HEND : Hid (EncEnd m w (.returned (.tuple #[.slice none 0 0, .iface 112 (.pointer (some ⟨a, 0, none⟩))])) w7) := Lib.hid (by
        unfold EncEnd encW
        rw [HBW.out]
        simp only [HBIG.out, if_true]
        exact ⟨HB6.out.trans (r5 w.heap.size (by omega) (by omega) HB6.out.size), a, rfl, by omega, (r3 0).trans g5, (r3 1).trans g6⟩)
      clear r3 r4 r5 g1 g2 g3 g4 g5 g6 g7
      simp [Leaves, settle, results, Tryz.results10, go_sem, r1, r2]
      exact HEND.out
    · have HLE := Lib.hid hle
      have HO2 := Lib.hid o2
      have k15 := (hb2.cell (p := ⟨w.heap.size + 1, 0, none⟩) (by show w.heap.size + 1 < _; omega)).trans k14
      have k25 := (hb2.cell (p := ⟨w.heap.size + 1 + 1, 0, none⟩) (by show w.heap.size + 1 + 1 < _; omega)).trans k24
      have f15 := (hb2.frozen (p := ⟨w.heap.size + 1, 0, none⟩) (by show w.heap.size + 1 < _; omega)).trans f14
      have f25 := (hb2.frozen (p := ⟨w.heap.size + 1 + 1, 0, none⟩) (by show w.heap.size + 1 + 1 < _; omega)).trans f24
      have HB5 := Lib.hid (HB4.out.trans (hb2.mono HB4.out.size))
      clear hle o2 hb2 k14 k24 f14 f24
      go_wp2_with fail
      refine leaves_cons (f := 31) (args := #[.pointer (some ⟨w.heap.size + 1, 0, none⟩), .pointer (some ⟨w.heap.size + 1 + 1, 0, none⟩)]) (by simp) (by simp [go_sem]) ?_
      refine (idle21 _ _ _).mono ?_
      rintro e u' w7 ⟨rfl, rfl, hw⟩
      have r0 := World.cell?_setCell_same w5 ⟨w.heap.size + 1, 0, none⟩ (.slice ao2 (b.length + 10) cap2) k15
      have r1 : w7.cell? ⟨w.heap.size + 1, 0, none⟩ = some (.slice ao2 (b.length + 10) cap2) := by
        rw [hw, World.cell?_setCell_other _ _ _ _ (by simp)]
        exact World.cell?_setCell_same _ ⟨w.heap.size + 1, 0, none⟩ _ r0
      have r2 : w7.cell? ⟨w.heap.size + 1 + 1, 0, none⟩ = some .nilIface := by
        rw [hw]
        exact World.cell?_setCell_same _ ⟨w.heap.size + 1 + 1, 0, none⟩ _ (show _ = some Value.nilIface from by rw [World.cell?_setCell_other _ _ _ _ (by simp), World.cell?_setCell_other _ _ _ _ (by simp)]; exact k25)
      have ks : ∀ g ∈ blk ao2, w4.heap.size ≤ g := fun g hg => (HO2.out.lt_size g hg).1
      have HB7 : Hid (Below w.heap.size w w7) := Lib.hid (by
        rw [hw]
        exact ((HB5.out.setCell (by show w.heap.size ≤ w.heap.size + 1; omega) _).setCell (by show w.heap.size ≤ w.heap.size + 1; omega) _).setCell (by show w.heap.size ≤ w.heap.size + 1 + 1; omega) _)
      have o7 : Own w7 w4.heap.size ao2 (b.length + 10) cap2 (frameOf b) := by
        rw [hw]
        refine ((HO2.out.keep (Keep.setCell _ ⟨w.heap.size + 1, 0, none⟩ _) fun g hg hm => ?_).keep (Keep.setCell _ ⟨w.heap.size + 1, 0, none⟩ _) fun g hg hm => ?_).keep (Keep.setCell _ ⟨w.heap.size + 1 + 1, 0, none⟩ _) fun g hg hm => ?_
        · have := ks g hg; simp at hm; omega
        · have := ks g hg; simp at hm; omega
        · have := ks g hg; simp at hm; omega
      have HEND : Hid (EncEnd m w (.returned (.tuple #[.slice ao2 (b.length + 10) cap2, .nilIface])) w7) := Lib.hid (by
        unfold EncEnd encW
        rw [HBW.out]
        simp only [show ¬ 65536 < b.length from by have := HLE.out; omega, if_false]
        refine ⟨HB7.out, ao2, cap2, by rw [o7.len], ?_⟩
        rw [o7.len]
        exact o7.base HB4.out.size)
      clear hw r0 ks o7 k15 k25 f15 f25 WR
      simp [Leaves, settle, results, Tryz.results10, go_sem, r1, r2]
      exact HEND.out
end Go.Proofs.YtngcbpgafjnfaaaGreatDoor
