/- The deferred functions of package wire: what was given up is told as an error. A decree's value. -/
import Derived.Test.YtngcbpgafjnfaaaGreatDoorLoB21
import Derived.Defers
import Derived.Recover
import Derived.Test.YtngcbpgafjnfaaaGreatDoorLoB11
set_option linter.unusedSimpArgs false
set_option linter.unusedVariables false

namespace Go.Proofs.YtngcbpgafjnfaaaGreatDoor
open Go.RowKit
set_option linter.unusedVariables false

/-- nothing was given up -/
theorem idle40 (p q : Addr) (w : World) : CallsD Tryz.prog 50 #[.pointer (some p), .pointer (some q)] .returning w fun e u' w' => e = .returned (.tuple #[]) ∧ u' = .returning ∧ w' = w := by
  refine callsD_of_wpS Tryz.func50 rfl fun c₀ cs hu => ?_
  apply wpS_seq
  apply wpS_region
  simp [wpOpsS, go_sem, recoverD, hu, Tryz.ntmps50, Exit.thenS]
  apply wpS_seq
  apply wpS_region
  simp [wpOpsS, go_sem, Exit.thenS]
  refine wpS_cond (t := false) (by simp [Act.eval, Array.replicate]) ?_
  simp only [Bool.false_eq_true, if_false]
  refine wpS_of_wp (wp_skip ?_)
  cases c₀
  simp_all [bodyPostS, results, Tryz.results50]

set_option maxHeartbeats 1000000 in
/-- a fault was given up -/
theorem caught40 (gs ge : Nat) (a : Addr) (n : Int) (w : World) (hE : ErrT w) (hn : w.cell? a = some (.int .i64 n)) (hs : w.cell? ⟨gs, 0, none⟩ = some (.string ByteArray.empty)) (he : w.cell? ⟨ge, 0, none⟩ = some (.int .i64 0)) (hne : gs ≠ ge) (hfs : w.frozen? ⟨gs, 0, none⟩ = false) (hfe : w.frozen? ⟨ge, 0, none⟩ = false) :
    CallsD Tryz.prog 50 #[.pointer (some ⟨gs, 0, none⟩), .pointer (some ⟨ge, 0, none⟩)] (.panicking [{ v := .iface 112 (.pointer (some a)), recovered := false }]) w fun e u' w' =>
      e = .returned (.tuple #[]) ∧ u' = .panicking [{ v := .iface 112 (.pointer (some a)), recovered := true }] ∧ w'.cell? ⟨gs, 0, none⟩ = some (.string ByteArray.empty) ∧ w'.cell? ⟨ge, 0, none⟩ = some (.int .i64 n) ∧ ∀ B, B ≤ gs → B ≤ ge → B ≤ w.heap.size → Below B w w' := by
  refine callsD_of_wpS Tryz.func50 rfl fun c₀ cs hu => ?_
  apply wpS_seq
  apply wpS_region
  simp [wpOpsS, go_sem, recoverD, hu, Tryz.ntmps50, Exit.thenS]
  have hga := World.block_lt_of_cell? w _ hn
  have hgs := World.block_lt_of_cell? w _ hs
  have hge := World.block_lt_of_cell? w _ he
  have FO := Lib.hid (faultof_any a w hE)
  clear hE
  refine wpS_of_wp ?_
  go_wp2_with fail
  refine FO.out.mono ?_
  rintro e w1 ⟨rfl, hb⟩
  have hn1 : w1.cell? a = some (.int .i64 n) := (hb.cell hga).trans hn
  have hs1 := (hb.cell (p := ⟨gs, 0, none⟩) hgs).trans hs
  have he1 := (hb.cell (p := ⟨ge, 0, none⟩) hge).trans he
  have hfs1 := (hb.frozen (p := ⟨gs, 0, none⟩) hgs).trans hfs
  have hfe1 := (hb.frozen (p := ⟨ge, 0, none⟩) hge).trans hfe
  have HB := Lib.hid hb
  clear hb hn hs he hfs hfe
  go_wp2_with fail
  refine ⟨rfl, _, rfl, .tuple #[], by simp [results, Tryz.results50], rfl, rfl, ?_, ?_, fun B h1 h2 h3 => ?_⟩
  · rw [World.cell?_setCell_other _ _ _ _ (by intro e; cases e; exact hne rfl)]
    exact World.cell?_setCell_same w1 ⟨gs, 0, none⟩ _ hs1
  · exact World.cell?_setCell_same _ ⟨ge, 0, none⟩ _ (show _ = some (Value.int .i64 0) from by rw [World.cell?_setCell_other _ _ _ _ (by intro e; cases e; exact hne rfl)]; exact he1)
  · exact ((HB.out.mono h3).setCell h1 _).setCell h2 _
end Go.Proofs.YtngcbpgafjnfaaaGreatDoor


namespace Go.Proofs.YtngcbpgafjnfaaaGreatDoor
open Go.RowKit
set_option linter.unusedVariables false

/-- an int of 64 bits, a number of 32 -/
def DcrOk (d : Dcr) : Prop := I64 d.kind ∧ I64 d.node ∧ I64 d.by_ ∧ I64 d.arc.size0 ∧ I64 d.arc.size ∧ d.count ≤ 4294967295 ∧ d.seen ≤ 4294967295
abbrev dcrCells (d : Dcr) : List Value := [.int .i64 d.kind, .int .i64 d.node, .int .i64 d.by_, .int .i64 d.arc.size0, .int .i64 d.arc.size, .int .u32 (d.count : Int), .int .u32 (d.seen : Int)]
theorem dcr_is {d : Dcr} (h : DcrOk d) (w : World) (N : Nat → Prop) : dcrK.is w N (dcrCells d) d := by
  obtain ⟨h1, h2, h3, h4, h5, h6, h7⟩ := h
  exact ⟨[.int .i64 d.kind], [.int .i64 d.node], [.int .i64 d.by_], [.int .i64 d.arc.size0, .int .i64 d.arc.size], [.int .u32 (d.count : Int)], [.int .u32 (d.seen : Int)], rfl, ⟨rfl, h1⟩, ⟨rfl, h2⟩, ⟨rfl, h3⟩, ⟨[.int .i64 d.arc.size0], [.int .i64 d.arc.size], rfl, ⟨rfl, h4⟩, ⟨rfl, h5⟩⟩, ⟨rfl, by show _ ≤ (4294967295 : Int); omega⟩, ⟨rfl, by show _ ≤ (4294967295 : Int); omega⟩⟩
theorem dcr_of {d : Dcr} {w : World} {N : Nat → Prop} {cs : List Value} (h : dcrK.is w N cs d) : cs = dcrCells d ∧ DcrOk d := by
  obtain ⟨_, _, _, _, _, _, rfl, ⟨rfl, h1⟩, ⟨rfl, h2⟩, ⟨rfl, h3⟩, ⟨_, _, rfl, ⟨rfl, h4⟩, ⟨rfl, h5⟩⟩, ⟨rfl, h6⟩, ⟨rfl, h7⟩⟩ := h
  have h6 : (d.count : Int) ≤ 4294967295 := h6
  have h7 : (d.seen : Int) ≤ 4294967295 := h7
  exact ⟨rfl, h1, h2, h3, h4, h5, by omega, by omega⟩
/-- a new writer -/
theorem cd_new (w : World) (P : Nat → Prop) (hP : ∀ b, P b → b < w.heap.size) (sb : Src) (hC : ∀ g j v, ¬ sb.C g j v) : CdIs (w.alloc (.cells #[.bool false, .slice none 0 0, .string ⟨#[]⟩] 139)) false P w.heap.size sb ⟨#[]⟩ [] := by
  refine ⟨none, 0, 0, ⟨by go_simp, by go_simp, by go_simp, by go_simp, by go_simp, by simp, rfl, Nat.le_refl _, by decide, fun _ => ⟨Own.nil _ _, by simp [blk]⟩, fun _ g j v hv => absurd hv (hC g j v), (fun h => by cases h)⟩, (fun h => by cases h), fun b hb => ⟨by have := hP b hb; simp; omega, by have := hP b hb; omega, fun _ => by simp [blk]⟩⟩

/-- the decree's box, the results', a new writer; the call -/
theorem decree_call (d : Dcr) (hd : DcrOk d) (w : World) :
    Calls Tryz.prog 51 #[.pointer (some ⟨w.heap.size + 1 + 1 + 1, 0, none⟩), .pointer (some ⟨w.heap.size, 0, none⟩)] ((((w.alloc (.cells #[.int .i64 d.kind, .int .i64 d.node, .int .i64 d.by_, .int .i64 d.arc.size0, .int .i64 d.arc.size, .int .u32 (d.count : Int), .int .u32 (d.seen : Int)] 79)).alloc (.cells #[.string ⟨#[]⟩] 9)).alloc (.cells #[.int .i64 0] 59)).alloc (.cells #[.bool false, .slice none 0 0, .string ⟨#[]⟩] 139))
      (Coded false (fun b => b < w.heap.size + 1 + 1 + 1) (fun _ => False) (w.heap.size + 1 + 1 + 1) ⟨0, fun _ _ _ => False⟩ ⟨#[]⟩ w.heap.size 0 dcrK ((((w.alloc (.cells #[.int .i64 d.kind, .int .i64 d.node, .int .i64 d.by_, .int .i64 d.arc.size0, .int .i64 d.arc.size, .int .u32 (d.count : Int), .int .u32 (d.seen : Int)] 79)).alloc (.cells #[.string ⟨#[]⟩] 9)).alloc (.cells #[.int .i64 0] 59)).alloc (.cells #[.bool false, .slice none 0 0, .string ⟨#[]⟩] 139)) (step dcrC false [] d)) := by
  have hrow : (w.alloc (.cells #[.int .i64 d.kind, .int .i64 d.node, .int .i64 d.by_, .int .i64 d.arc.size0, .int .i64 d.arc.size, .int .u32 (d.count : Int), .int .u32 (d.seen : Int)] 79)).heap[w.heap.size]? = some (.cells (dcrCells d).toArray 79 (0, 0)) := heap_alloc_new w _
  have hb1 : ∀ (o1 o2 : Obj), Below (w.heap.size + 1) (w.alloc (.cells #[.int .i64 d.kind, .int .i64 d.node, .int .i64 d.by_, .int .i64 d.arc.size0, .int .i64 d.arc.size, .int .u32 (d.count : Int), .int .u32 (d.seen : Int)] 79)) (((w.alloc (.cells #[.int .i64 d.kind, .int .i64 d.node, .int .i64 d.by_, .int .i64 d.arc.size0, .int .i64 d.arc.size, .int .u32 (d.count : Int), .int .u32 (d.seen : Int)] 79)).alloc o1).alloc o2) := fun o1 o2 => ((Below.refl _ _).alloc (by simp) o1).alloc (by simp) o2
  generalize hw1 : w.alloc (.cells #[.int .i64 d.kind, .int .i64 d.node, .int .i64 d.by_, .int .i64 d.arc.size0, .int .i64 d.arc.size, .int .u32 (d.count : Int), .int .u32 (d.seen : Int)] 79) = w1 at *
  have hs1 : w1.heap.size = w.heap.size + 1 := by rw [← hw1]; simp
  have hb := hb1 (.cells #[.string ⟨#[]⟩] 9) (.cells #[.int .i64 0] 59)
  have hs3 : ((w1.alloc (.cells #[.string ⟨#[]⟩] 9)).alloc (.cells #[.int .i64 0] 59)).heap.size = w.heap.size + 1 + 1 + 1 := by simp [hs1]
  generalize (w1.alloc (.cells #[.string ⟨#[]⟩] 9)).alloc (.cells #[.int .i64 0] 59) = w3 at *
  have hcd := cd_new w3 (fun b => b < w3.heap.size) (fun b hb => hb) ⟨0, fun _ _ _ => False⟩ (fun _ _ _ h => h)
  rw [hs3] at hcd
  have hcells : Cells (w3.alloc (.cells #[.bool false, .slice none 0 0, .string ⟨#[]⟩] 139)) w.heap.size 0 (dcrCells d) := fun j u hu => by
    rw [Nat.zero_add, World.cell?_alloc_lt _ _ ⟨w.heap.size, j, none⟩ (by show w.heap.size < _; omega), hb.cell (p := ⟨w.heap.size, j, none⟩) (by show w.heap.size < _; omega), cell_of_row w1 w.heap.size j _ _ (0, 0) hrow]
    rw [List.getElem?_toArray]; exact hu
  exact dcr_codes false _ (fun _ => False) (w.heap.size + 1 + 1 + 1) ⟨0, fun _ _ _ => False⟩ ⟨#[]⟩ [] w.heap.size 0 (dcrCells d) d _ hcd (fun h => by cases h) (dcr_is hd _ _) hcells (fun _ h => h.elim) (fun _ => by show w.heap.size < _; omega) (fun h => by cases h) (by simp; omega) (by omega) (by simp)

set_option maxRecDepth 100000 in
set_option maxHeartbeats 4000000 in
theorem encdecree_yes (d : Dcr) (hd : DcrOk d) (hok : dcrC.ok d = true) (w : World) :
    Calls Tryz.prog 18 #[.agg #[.int .i64 d.kind, .int .i64 d.node, .int .i64 d.by_, .int .i64 d.arc.size0, .int .i64 d.arc.size, .int .u32 (d.count : Int), .int .u32 (d.seen : Int)]] w fun e w' =>
      e = .returned (.tuple #[.string (ofBs (dcrC.enc d)), .int .i64 0]) ∧ Below w.heap.size w w' := by
  have hmf : ∀ (fn : Fn) (first cap : Array Value) (w : World), (Instr.makeFunc fn first cap).run Tryz.prog w = .ok (.func fn first cap) w := fun _ _ _ _ => rfl
  have CALL := Lib.hid (decree_call d hd w)
  rw [show step dcrC false [] d = some ([] ++ dcrC.enc d, d) from by rw [step_w, if_pos hok]] at CALL
  go_enter_defers Tryz.func18, Tryz.ntmps18
  go_wp2_with fail
  refine CALL.out.mono ?_
  rintro e w1 ⟨h1, rfl, h2, h3, h4⟩
  obtain ⟨ao, n, cap, ha, hof⟩ := h2
  have hsz : w.heap.size + 1 + 1 + 1 + 1 ≤ w1.heap.size := by have := h1.size; simp at this; omega
  have ha : CdAt w1 false (w.heap.size + 1 + 1 + 1) ⟨0, fun _ _ _ => False⟩ ⟨#[]⟩ ao n cap (dcrC.enc d) := ha
  have c1 := ha.c1
  have hR := (ha.wr rfl).1.rd
  have HCV := Lib.hid (run_str hR n cap ha.len)
  have k1 : w1.cell? ⟨w.heap.size + 1, 0, none⟩ = some (.string ⟨#[]⟩) := (h1.cell (a := ⟨w.heap.size + 1, 0, none⟩) (by show w.heap.size + 1 < w.heap.size + 1 + 1 + 1; omega)).trans (by go_simp)
  have k2 : w1.cell? ⟨w.heap.size + 1 + 1, 0, none⟩ = some (.int .i64 0) := (h1.cell (a := ⟨w.heap.size + 1 + 1, 0, none⟩) (by show w.heap.size + 1 + 1 < w.heap.size + 1 + 1 + 1; omega)).trans (by go_simp)
  have f1 : w1.frozen? ⟨w.heap.size + 1, 0, none⟩ = false := (World.frozen?_of_block (a := ⟨w.heap.size + 1, 0, none⟩) (h1.block (w.heap.size + 1) (by show w.heap.size + 1 < w.heap.size + 1 + 1 + 1; omega))).trans (by go_simp)
  have f2 : w1.frozen? ⟨w.heap.size + 1 + 1, 0, none⟩ = false := (World.frozen?_of_block (a := ⟨w.heap.size + 1 + 1, 0, none⟩) (h1.block (w.heap.size + 1 + 1) (by show w.heap.size + 1 + 1 < w.heap.size + 1 + 1 + 1; omega))).trans (by go_simp)
  have HB : Hid (Below w.heap.size w w1) := Lib.hid ((below_alloc (below_alloc (below_alloc (below_alloc (Below.refl _ _) _) _) _) _).trans (h1.mono (Q := fun b => b < w.heap.size) fun b hb => by show b < w.heap.size + 1 + 1 + 1; omega).below)
  clear ha hof h1 h3 h4 hR hsz CALL
  go_wp2_with (refine wpList_value rfl _ (exec_convert (vx := .slice ao n cap) 54 9 (.tmp 9) rfl rfl HCV.out) ?_)
  refine leaves_cons (f := 50) (args := #[.pointer (some ⟨w.heap.size + 1, 0, none⟩), .pointer (some ⟨w.heap.size + 1 + 1, 0, none⟩)]) (by simp) (by simp [go_sem]) ?_
  refine (idle40 _ _ _).mono ?_
  rintro e u' w'' ⟨rfl, rfl, rfl⟩
  have q1 := World.cell?_setCell_same w1 ⟨w.heap.size + 1, 0, none⟩ (.string (ofBs (dcrC.enc d))) k1
  have q2 := World.cell?_setCell_same (w1.setCell ⟨w.heap.size + 1, 0, none⟩ (.string (ofBs (dcrC.enc d)))) ⟨w.heap.size + 1 + 1, 0, none⟩ (.int .i64 0) (show _ = some (Value.int .i64 0) from by rw [World.cell?_setCell_other _ _ _ _ (by simp)]; exact k2)
  have q3 : ((w1.setCell ⟨w.heap.size + 1, 0, none⟩ (.string (ofBs (dcrC.enc d)))).setCell ⟨w.heap.size + 1 + 1, 0, none⟩ (.int .i64 0)).cell? ⟨w.heap.size + 1, 0, none⟩ = some (.string (ofBs (dcrC.enc d))) := by
    rw [World.cell?_setCell_other _ _ _ _ (by simp)]; exact q1
  have HBB : Below w.heap.size w ((w1.setCell ⟨w.heap.size + 1, 0, none⟩ (.string (ofBs (dcrC.enc d)))).setCell ⟨w.heap.size + 1 + 1, 0, none⟩ (.int .i64 0)) := (HB.out.setCell (by show w.heap.size ≤ w.heap.size + 1; omega) _).setCell (by show w.heap.size ≤ w.heap.size + 1 + 1; omega) _
  clear k1 k2 q1
  generalize (w1.setCell ⟨w.heap.size + 1, 0, none⟩ (.string (ofBs (dcrC.enc d)))).setCell ⟨w.heap.size + 1 + 1, 0, none⟩ (.int .i64 0) = w5 at *
  simp [Leaves, settle, results, Tryz.results18, go_sem, q2, q3]
  exact HBB

set_option maxRecDepth 100000 in
set_option maxHeartbeats 4000000 in
theorem encdecree_no (d : Dcr) (hd : DcrOk d) (hok : dcrC.ok d = false) (w : World) (hE : ErrT w) :
    Calls Tryz.prog 18 #[.agg #[.int .i64 d.kind, .int .i64 d.node, .int .i64 d.by_, .int .i64 d.arc.size0, .int .i64 d.arc.size, .int .u32 (d.count : Int), .int .u32 (d.seen : Int)]] w fun e w' =>
      e = .returned (.tuple #[.string ⟨#[]⟩, .int .i64 42]) ∧ Below w.heap.size w w' := by
  have hmf : ∀ (fn : Fn) (first cap : Array Value) (w : World), (Instr.makeFunc fn first cap).run Tryz.prog w = .ok (.func fn first cap) w := fun _ _ _ _ => rfl
  have CALL := Lib.hid (decree_call d hd w)
  rw [show step dcrC false [] d = none from by rw [step_w, if_neg (by rw [hok]; simp)]] at CALL
  have HE := Lib.hid hE
  clear hE
  go_enter_defers Tryz.func18, Tryz.ntmps18
  go_wp2_with fail
  refine CALL.out.mono ?_
  rintro e w1 ⟨h1, a, h2, h3, rfl, h4, h5⟩
  have hsz : w.heap.size + 1 + 1 + 1 + 1 ≤ w1.heap.size := by have := h1.size; simp at this; omega
  have k1 : w1.cell? ⟨w.heap.size + 1, 0, none⟩ = some (.string ⟨#[]⟩) := (h1.cell (a := ⟨w.heap.size + 1, 0, none⟩) (by show w.heap.size + 1 < w.heap.size + 1 + 1 + 1; omega)).trans (by go_simp)
  have k2 : w1.cell? ⟨w.heap.size + 1 + 1, 0, none⟩ = some (.int .i64 0) := (h1.cell (a := ⟨w.heap.size + 1 + 1, 0, none⟩) (by show w.heap.size + 1 + 1 < w.heap.size + 1 + 1 + 1; omega)).trans (by go_simp)
  have f1 : w1.frozen? ⟨w.heap.size + 1, 0, none⟩ = false := (World.frozen?_of_block (a := ⟨w.heap.size + 1, 0, none⟩) (h1.block (w.heap.size + 1) (by show w.heap.size + 1 < w.heap.size + 1 + 1 + 1; omega))).trans (by go_simp)
  have f2 : w1.frozen? ⟨w.heap.size + 1 + 1, 0, none⟩ = false := (World.frozen?_of_block (a := ⟨w.heap.size + 1 + 1, 0, none⟩) (h1.block (w.heap.size + 1 + 1) (by show w.heap.size + 1 + 1 < w.heap.size + 1 + 1 + 1; omega))).trans (by go_simp)
  have HB : Hid (Below w.heap.size w w1) := Lib.hid ((below_alloc (below_alloc (below_alloc (below_alloc (Below.refl _ _) _) _) _) _).trans (h1.mono (Q := fun b => b < w.heap.size) fun b hb => by show b < w.heap.size + 1 + 1 + 1; omega).below)
  have h4 : w1.cell? ⟨a, 0, none⟩ = some (.int .i64 42) := h4
  refine leaves_cons (f := 50) (args := #[.pointer (some ⟨w.heap.size + 1, 0, none⟩), .pointer (some ⟨w.heap.size + 1 + 1, 0, none⟩)]) (by simp) (by simp [go_sem]) ?_
  refine (caught40 (w.heap.size + 1) (w.heap.size + 1 + 1) ⟨a, 0, none⟩ 42 w1 (HE.out.below HB.out) h4 k1 k2 (by omega) f1 f2).mono ?_
  rintro e u' w5 ⟨rfl, rfl, q3, q2, hb⟩
  have HBB := HB.out.trans (hb w.heap.size (by omega) (by omega) HB.out.size)
  simp [Leaves, settle, results, Tryz.results18, go_sem, q2, q3]
  first | exact HBB | exact ⟨rfl, HBB⟩
end Go.Proofs.YtngcbpgafjnfaaaGreatDoor
