/- The deferred functions of package wire: what was given up is told as an error. A decree's value. The body of a message is written. -/
import Derived.Test.YtngcbpgafjnfaaaGreatDoorLot13
import Derived.Defers
import Derived.Recover
import Derived.Test.YtngcbpgafjnfaaaGreatDoorLot8

namespace Go.Proofs.YtngcbpgafjnfaaaGreatDoor
open Go.RowKit
set_option linter.unusedVariables false

/-- nothing was given up -/
theorem idle40 (p q : Addr) (w : World) : CallsD Tryz.prog 50 #[.pointer (some p), .pointer (some q)] .returning w fun e u' w' => e = .returned (.tuple #[]) ∧ u' = .returning ∧ w' = w := by
  refine callsD_of_wpS Tryz.func50 rfl fun c₀ cs hu => ?_
  apply wpS_seq
  apply wpS_region
  simp [wpOpsS, go_sem, recoverD, hu, Tryz.ntmps50, Exit.thenS]
  apply wpS_seq
  apply wpS_region
  simp [wpOpsS, go_sem, Exit.thenS]
  refine wpS_cond (t := false) (by simp [Act.eval, Array.replicate]) ?_
  simp only [Bool.false_eq_true, if_false]
  refine wpS_of_wp (wp_skip ?_)
  cases c₀
  simp_all [bodyPostS, results, Tryz.results50]

set_option maxHeartbeats 1000000 in
/-- a fault was given up -/
theorem caught40 (gs ge : Nat) (a : Addr) (n : Int) (w : World) (hE : ErrT w) (hn : w.cell? a = some (.int .i64 n)) (hs : w.cell? ⟨gs, 0, none⟩ = some (.string ByteArray.empty)) (he : w.cell? ⟨ge, 0, none⟩ = some (.int .i64 0)) (hne : gs ≠ ge) (hfs : w.frozen? ⟨gs, 0, none⟩ = false) (hfe : w.frozen? ⟨ge, 0, none⟩ = false) :
    CallsD Tryz.prog 50 #[.pointer (some ⟨gs, 0, none⟩), .pointer (some ⟨ge, 0, none⟩)] (.panicking [{ v := .iface 112 (.pointer (some a)), recovered := false }]) w fun e u' w' =>
      e = .returned (.tuple #[]) ∧ u' = .panicking [{ v := .iface 112 (.pointer (some a)), recovered := true }] ∧ w'.cell? ⟨gs, 0, none⟩ = some (.string ByteArray.empty) ∧ w'.cell? ⟨ge, 0, none⟩ = some (.int .i64 n) ∧ ∀ B, B ≤ gs → B ≤ ge → B ≤ w.heap.size → Below B w w' := by
  refine callsD_of_wpS Tryz.func50 rfl fun c₀ cs hu => ?_
  apply wpS_seq
  apply wpS_region
  simp [wpOpsS, go_sem, recoverD, hu, Tryz.ntmps50, Exit.thenS]
  have hga := World.block_lt_of_cell? w _ hn
  have hgs := World.block_lt_of_cell? w _ hs
  have hge := World.block_lt_of_cell? w _ he
  have FO := Lib.hid (faultof_any a w hE)
  clear hE
  refine wpS_of_wp ?_
  go_wp2_with fail
  refine FO.out.mono ?_
  rintro e w1 ⟨rfl, hb⟩
  have hn1 : w1.cell? a = some (.int .i64 n) := (hb.cell hga).trans hn
  have hs1 := (hb.cell (p := ⟨gs, 0, none⟩) hgs).trans hs
  have he1 := (hb.cell (p := ⟨ge, 0, none⟩) hge).trans he
  have hfs1 := (hb.frozen (p := ⟨gs, 0, none⟩) hgs).trans hfs
  have hfe1 := (hb.frozen (p := ⟨ge, 0, none⟩) hge).trans hfe
  have HB := Lib.hid hb
  clear hb hn hs he hfs hfe
  go_wp2_with fail
  refine ⟨rfl, _, rfl, .tuple #[], by simp [results, Tryz.results50], rfl, rfl, ?_, ?_, fun B h1 h2 h3 => ?_⟩
  · rw [World.cell?_setCell_other _ _ _ _ (by intro e; cases e; exact hne rfl)]
    exact World.cell?_setCell_same w1 ⟨gs, 0, none⟩ _ hs1
  · exact World.cell?_setCell_same _ ⟨ge, 0, none⟩ _ (show _ = some (Value.int .i64 0) from by rw [World.cell?_setCell_other _ _ _ _ (by intro e; cases e; exact hne rfl)]; exact he1)
  · exact ((HB.out.mono h3).setCell h1 _).setCell h2 _
end Go.Proofs.YtngcbpgafjnfaaaGreatDoor


namespace Go.Proofs.YtngcbpgafjnfaaaGreatDoor
open Go.RowKit
set_option linter.unusedVariables false

/-- an int of 64 bits, a number of 32 -/
def DcrOk (d : Dcr) : Prop := I64 d.kind ∧ I64 d.node ∧ I64 d.by_ ∧ I64 d.arc.size0 ∧ I64 d.arc.size ∧ d.count ≤ 4294967295 ∧ d.seen ≤ 4294967295
abbrev dcrCells (d : Dcr) : List Value := [.int .i64 d.kind, .int .i64 d.node, .int .i64 d.by_, .int .i64 d.arc.size0, .int .i64 d.arc.size, .int .u32 (d.count : Int), .int .u32 (d.seen : Int)]
theorem dcr_is {d : Dcr} (h : DcrOk d) (w : World) (N : Nat → Prop) : dcrK.is w N (dcrCells d) d := by
  obtain ⟨h1, h2, h3, h4, h5, h6, h7⟩ := h
  exact ⟨[.int .i64 d.kind], [.int .i64 d.node], [.int .i64 d.by_], [.int .i64 d.arc.size0, .int .i64 d.arc.size], [.int .u32 (d.count : Int)], [.int .u32 (d.seen : Int)], rfl, ⟨rfl, h1⟩, ⟨rfl, h2⟩, ⟨rfl, h3⟩, ⟨[.int .i64 d.arc.size0], [.int .i64 d.arc.size], rfl, ⟨rfl, h4⟩, ⟨rfl, h5⟩⟩, ⟨rfl, by show _ ≤ (4294967295 : Int); omega⟩, ⟨rfl, by show _ ≤ (4294967295 : Int); omega⟩⟩
theorem dcr_of {d : Dcr} {w : World} {N : Nat → Prop} {cs : List Value} (h : dcrK.is w N cs d) : cs = dcrCells d ∧ DcrOk d := by
  obtain ⟨_, _, _, _, _, _, rfl, ⟨rfl, h1⟩, ⟨rfl, h2⟩, ⟨rfl, h3⟩, ⟨_, _, rfl, ⟨rfl, h4⟩, ⟨rfl, h5⟩⟩, ⟨rfl, h6⟩, ⟨rfl, h7⟩⟩ := h
  have h6 : (d.count : Int) ≤ 4294967295 := h6
  have h7 : (d.seen : Int) ≤ 4294967295 := h7
  exact ⟨rfl, h1, h2, h3, h4, h5, by omega, by omega⟩
/-- a new writer -/
theorem cd_new (w : World) (P : Nat → Prop) (hP : ∀ b, P b → b < w.heap.size) (sb : Src) (hC : ∀ g j v, ¬ sb.C g j v) : CdIs (w.alloc (.cells #[.bool false, .slice none 0 0, .string ⟨#[]⟩] 139)) false P w.heap.size sb ⟨#[]⟩ [] := by
  refine ⟨none, 0, 0, ⟨by go_simp, by go_simp, by go_simp, by go_simp, by go_simp, by simp, rfl, Nat.le_refl _, by decide, fun _ => ⟨Own.nil _ _, by simp [blk]⟩, fun _ g j v hv => absurd hv (hC g j v), (fun h => by cases h)⟩, (fun h => by cases h), fun b hb => ⟨by have := hP b hb; simp; omega, by have := hP b hb; omega, fun _ => by simp [blk]⟩⟩

/-- the decree's box, the results', a new writer; the call -/
theorem decree_call (d : Dcr) (hd : DcrOk d) (w : World) :
    Calls Tryz.prog 51 #[.pointer (some ⟨w.heap.size + 1 + 1 + 1, 0, none⟩), .pointer (some ⟨w.heap.size, 0, none⟩)] ((((w.alloc (.cells #[.int .i64 d.kind, .int .i64 d.node, .int .i64 d.by_, .int .i64 d.arc.size0, .int .i64 d.arc.size, .int .u32 (d.count : Int), .int .u32 (d.seen : Int)] 79)).alloc (.cells #[.string ⟨#[]⟩] 9)).alloc (.cells #[.int .i64 0] 59)).alloc (.cells #[.bool false, .slice none 0 0, .string ⟨#[]⟩] 139))
      (Coded false (fun b => b < w.heap.size + 1 + 1 + 1) (fun _ => False) (w.heap.size + 1 + 1 + 1) ⟨0, fun _ _ _ => False⟩ ⟨#[]⟩ w.heap.size 0 dcrK ((((w.alloc (.cells #[.int .i64 d.kind, .int .i64 d.node, .int .i64 d.by_, .int .i64 d.arc.size0, .int .i64 d.arc.size, .int .u32 (d.count : Int), .int .u32 (d.seen : Int)] 79)).alloc (.cells #[.string ⟨#[]⟩] 9)).alloc (.cells #[.int .i64 0] 59)).alloc (.cells #[.bool false, .slice none 0 0, .string ⟨#[]⟩] 139)) (step dcrC false [] d)) := by
  have hrow : (w.alloc (.cells #[.int .i64 d.kind, .int .i64 d.node, .int .i64 d.by_, .int .i64 d.arc.size0, .int .i64 d.arc.size, .int .u32 (d.count : Int), .int .u32 (d.seen : Int)] 79)).heap[w.heap.size]? = some (.cells (dcrCells d).toArray 79 (0, 0)) := heap_alloc_new w _
  have hb1 : ∀ (o1 o2 : Obj), Below (w.heap.size + 1) (w.alloc (.cells #[.int .i64 d.kind, .int .i64 d.node, .int .i64 d.by_, .int .i64 d.arc.size0, .int .i64 d.arc.size, .int .u32 (d.count : Int), .int .u32 (d.seen : Int)] 79)) (((w.alloc (.cells #[.int .i64 d.kind, .int .i64 d.node, .int .i64 d.by_, .int .i64 d.arc.size0, .int .i64 d.arc.size, .int .u32 (d.count : Int), .int .u32 (d.seen : Int)] 79)).alloc o1).alloc o2) := fun o1 o2 => ((Below.refl _ _).alloc (by simp) o1).alloc (by simp) o2
  generalize hw1 : w.alloc (.cells #[.int .i64 d.kind, .int .i64 d.node, .int .i64 d.by_, .int .i64 d.arc.size0, .int .i64 d.arc.size, .int .u32 (d.count : Int), .int .u32 (d.seen : Int)] 79) = w1 at *
  have hs1 : w1.heap.size = w.heap.size + 1 := by rw [← hw1]; simp
  have hb := hb1 (.cells #[.string ⟨#[]⟩] 9) (.cells #[.int .i64 0] 59)
  have hs3 : ((w1.alloc (.cells #[.string ⟨#[]⟩] 9)).alloc (.cells #[.int .i64 0] 59)).heap.size = w.heap.size + 1 + 1 + 1 := by simp [hs1]
  generalize (w1.alloc (.cells #[.string ⟨#[]⟩] 9)).alloc (.cells #[.int .i64 0] 59) = w3 at *
  have hcd := cd_new w3 (fun b => b < w3.heap.size) (fun b hb => hb) ⟨0, fun _ _ _ => False⟩ (fun _ _ _ h => h)
  rw [hs3] at hcd
  have hcells : Cells (w3.alloc (.cells #[.bool false, .slice none 0 0, .string ⟨#[]⟩] 139)) w.heap.size 0 (dcrCells d) := fun j u hu => by
    rw [Nat.zero_add, World.cell?_alloc_lt _ _ ⟨w.heap.size, j, none⟩ (by show w.heap.size < _; omega), hb.cell (p := ⟨w.heap.size, j, none⟩) (by show w.heap.size < _; omega), cell_of_row w1 w.heap.size j _ _ (0, 0) hrow]
    rw [List.getElem?_toArray]; exact hu
  exact dcr_codes false _ (fun _ => False) (w.heap.size + 1 + 1 + 1) ⟨0, fun _ _ _ => False⟩ ⟨#[]⟩ [] w.heap.size 0 (dcrCells d) d _ hcd (fun h => by cases h) (dcr_is hd _ _) hcells (fun _ h => h.elim) (fun _ => by show w.heap.size < _; omega) (fun h => by cases h) (by simp; omega) (by omega) (by simp)

set_option maxRecDepth 100000 in
set_option maxHeartbeats 4000000 in
theorem encdecree_yes (d : Dcr) (hd : DcrOk d) (hok : dcrC.ok d = true) (w : World) :
    Calls Tryz.prog 18 #[.agg #[.int .i64 d.kind, .int .i64 d.node, .int .i64 d.by_, .int .i64 d.arc.size0, .int .i64 d.arc.size, .int .u32 (d.count : Int), .int .u32 (d.seen : Int)]] w fun e w' =>
      e = .returned (.tuple #[.string (ofBs (dcrC.enc d)), .int .i64 0]) ∧ Below w.heap.size w w' := by
  have hmf : ∀ (fn : Fn) (first cap : Array Value) (w : World), (Instr.makeFunc fn first cap).run Tryz.prog w = .ok (.func fn first cap) w := fun _ _ _ _ => rfl
  have CALL := Lib.hid (decree_call d hd w)
  rw [show step dcrC false [] d = some ([] ++ dcrC.enc d, d) from by rw [step_w, if_pos hok]] at CALL
  go_enter_defers Tryz.func18, Tryz.ntmps18
  go_wp2_with fail
  refine CALL.out.mono ?_
  rintro e w1 ⟨h1, rfl, h2, h3, h4⟩
  obtain ⟨ao, n, cap, ha, hof⟩ := h2
  have hsz : w.heap.size + 1 + 1 + 1 + 1 ≤ w1.heap.size := by have := h1.size; simp at this; omega
  have ha : CdAt w1 false (w.heap.size + 1 + 1 + 1) ⟨0, fun _ _ _ => False⟩ ⟨#[]⟩ ao n cap (dcrC.enc d) := ha
  have c1 := ha.c1
  have hR := (ha.wr rfl).1.rd
  have HCV := Lib.hid (run_str hR n cap ha.len)
  have k1 : w1.cell? ⟨w.heap.size + 1, 0, none⟩ = some (.string ⟨#[]⟩) := (h1.cell (a := ⟨w.heap.size + 1, 0, none⟩) (by show w.heap.size + 1 < w.heap.size + 1 + 1 + 1; omega)).trans (by go_simp)
  have k2 : w1.cell? ⟨w.heap.size + 1 + 1, 0, none⟩ = some (.int .i64 0) := (h1.cell (a := ⟨w.heap.size + 1 + 1, 0, none⟩) (by show w.heap.size + 1 + 1 < w.heap.size + 1 + 1 + 1; omega)).trans (by go_simp)
  have f1 : w1.frozen? ⟨w.heap.size + 1, 0, none⟩ = false := (World.frozen?_of_block (a := ⟨w.heap.size + 1, 0, none⟩) (h1.block (w.heap.size + 1) (by show w.heap.size + 1 < w.heap.size + 1 + 1 + 1; omega))).trans (by go_simp)
  have f2 : w1.frozen? ⟨w.heap.size + 1 + 1, 0, none⟩ = false := (World.frozen?_of_block (a := ⟨w.heap.size + 1 + 1, 0, none⟩) (h1.block (w.heap.size + 1 + 1) (by show w.heap.size + 1 + 1 < w.heap.size + 1 + 1 + 1; omega))).trans (by go_simp)
  have HB : Hid (Below w.heap.size w w1) := Lib.hid ((below_alloc (below_alloc (below_alloc (below_alloc (Below.refl _ _) _) _) _) _).trans (h1.mono (Q := fun b => b < w.heap.size) fun b hb => by show b < w.heap.size + 1 + 1 + 1; omega).below)
  clear ha hof h1 h3 h4 hR hsz CALL
  go_wp2_with (refine wpList_value rfl _ (exec_convert (vx := .slice ao n cap) 54 9 (.tmp 9) rfl rfl HCV.out) ?_)
  refine leaves_cons (f := 50) (args := #[.pointer (some ⟨w.heap.size + 1, 0, none⟩), .pointer (some ⟨w.heap.size + 1 + 1, 0, none⟩)]) (by simp) (by simp [go_sem]) ?_
  refine (idle40 _ _ _).mono ?_
  rintro e u' w'' ⟨rfl, rfl, rfl⟩
  have q1 := World.cell?_setCell_same w1 ⟨w.heap.size + 1, 0, none⟩ (.string (ofBs (dcrC.enc d))) k1
  have q2 := World.cell?_setCell_same (w1.setCell ⟨w.heap.size + 1, 0, none⟩ (.string (ofBs (dcrC.enc d)))) ⟨w.heap.size + 1 + 1, 0, none⟩ (.int .i64 0) (show _ = some (Value.int .i64 0) from by rw [World.cell?_setCell_other _ _ _ _ (by simp)]; exact k2)
  have q3 : ((w1.setCell ⟨w.heap.size + 1, 0, none⟩ (.string (ofBs (dcrC.enc d)))).setCell ⟨w.heap.size + 1 + 1, 0, none⟩ (.int .i64 0)).cell? ⟨w.heap.size + 1, 0, none⟩ = some (.string (ofBs (dcrC.enc d))) := by
    rw [World.cell?_setCell_other _ _ _ _ (by simp)]; exact q1
  have HBB : Below w.heap.size w ((w1.setCell ⟨w.heap.size + 1, 0, none⟩ (.string (ofBs (dcrC.enc d)))).setCell ⟨w.heap.size + 1 + 1, 0, none⟩ (.int .i64 0)) := (HB.out.setCell (by show w.heap.size ≤ w.heap.size + 1; omega) _).setCell (by show w.heap.size ≤ w.heap.size + 1 + 1; omega) _
  clear k1 k2 q1
  generalize (w1.setCell ⟨w.heap.size + 1, 0, none⟩ (.string (ofBs (dcrC.enc d)))).setCell ⟨w.heap.size + 1 + 1, 0, none⟩ (.int .i64 0) = w5 at *
  simp [Leaves, settle, results, Tryz.results18, go_sem, q2, q3]
  exact HBB

set_option maxRecDepth 100000 in
set_option maxHeartbeats 4000000 in
theorem encdecree_no (d : Dcr) (hd : DcrOk d) (hok : dcrC.ok d = false) (w : World) (hE : ErrT w) :
    Calls Tryz.prog 18 #[.agg #[.int .i64 d.kind, .int .i64 d.node, .int .i64 d.by_, .int .i64 d.arc.size0, .int .i64 d.arc.size, .int .u32 (d.count : Int), .int .u32 (d.seen : Int)]] w fun e w' =>
      e = .returned (.tuple #[.string ⟨#[]⟩, .int .i64 42]) ∧ Below w.heap.size w w' := by
  have hmf : ∀ (fn : Fn) (first cap : Array Value) (w : World), (Instr.makeFunc fn first cap).run Tryz.prog w = .ok (.func fn first cap) w := fun _ _ _ _ => rfl
  have CALL := Lib.hid (decree_call d hd w)
  rw [show step dcrC false [] d = none from by rw [step_w, if_neg (by rw [hok]; simp)]] at CALL
  have HE := Lib.hid hE
  clear hE
  go_enter_defers Tryz.func18, Tryz.ntmps18
  go_wp2_with fail
  refine CALL.out.mono ?_
  rintro e w1 ⟨h1, a, h2, h3, rfl, h4, h5⟩
  have hsz : w.heap.size + 1 + 1 + 1 + 1 ≤ w1.heap.size := by have := h1.size; simp at this; omega
  have k1 : w1.cell? ⟨w.heap.size + 1, 0, none⟩ = some (.string ⟨#[]⟩) := (h1.cell (a := ⟨w.heap.size + 1, 0, none⟩) (by show w.heap.size + 1 < w.heap.size + 1 + 1 + 1; omega)).trans (by go_simp)
  have k2 : w1.cell? ⟨w.heap.size + 1 + 1, 0, none⟩ = some (.int .i64 0) := (h1.cell (a := ⟨w.heap.size + 1 + 1, 0, none⟩) (by show w.heap.size + 1 + 1 < w.heap.size + 1 + 1 + 1; omega)).trans (by go_simp)
  have f1 : w1.frozen? ⟨w.heap.size + 1, 0, none⟩ = false := (World.frozen?_of_block (a := ⟨w.heap.size + 1, 0, none⟩) (h1.block (w.heap.size + 1) (by show w.heap.size + 1 < w.heap.size + 1 + 1 + 1; omega))).trans (by go_simp)
  have f2 : w1.frozen? ⟨w.heap.size + 1 + 1, 0, none⟩ = false := (World.frozen?_of_block (a := ⟨w.heap.size + 1 + 1, 0, none⟩) (h1.block (w.heap.size + 1 + 1) (by show w.heap.size + 1 + 1 < w.heap.size + 1 + 1 + 1; omega))).trans (by go_simp)
  have HB : Hid (Below w.heap.size w w1) := Lib.hid ((below_alloc (below_alloc (below_alloc (below_alloc (Below.refl _ _) _) _) _) _).trans (h1.mono (Q := fun b => b < w.heap.size) fun b hb => by show b < w.heap.size + 1 + 1 + 1; omega).below)
  have h4 : w1.cell? ⟨a, 0, none⟩ = some (.int .i64 42) := h4
  refine leaves_cons (f := 50) (args := #[.pointer (some ⟨w.heap.size + 1, 0, none⟩), .pointer (some ⟨w.heap.size + 1 + 1, 0, none⟩)]) (by simp) (by simp [go_sem]) ?_
  refine (caught40 (w.heap.size + 1) (w.heap.size + 1 + 1) ⟨a, 0, none⟩ 42 w1 (HE.out.below HB.out) h4 k1 k2 (by omega) f1 f2).mono ?_
  rintro e u' w5 ⟨rfl, rfl, q3, q2, hb⟩
  have HBB := HB.out.trans (hb w.heap.size (by omega) (by omega) HB.out.size)
  simp [Leaves, settle, results, Tryz.results18, go_sem, q2, q3]
  first | exact HBB | exact ⟨rfl, HBB⟩
end Go.Proofs.YtngcbpgafjnfaaaGreatDoor


namespace Go.Proofs.YtngcbpgafjnfaaaGreatDoor
open Go.RowKit
set_option linter.unusedVariables false

theorem exec_index {P : Program} {o : Oper} {a : Act} {w : World} {v vx vi : Value} (t : TypeId) (x i : Operand) (ho : o.op = .index t x i) (hx : a.eval x = vx) (hi : a.eval i = vi) (h : (Instr.index t vx vi).run P w = .ok v w) : (execOp a.eval o).run P w = .ok (.value v) w := by
  unfold execOp
  simp only [ho, hx, hi, Sem.run_bind, h, Result.andThen_ok, Sem.run_pure]
/-- a call gave up with this error -/
def GaveN (n : Int) (f : ByteArray) (e : Ending) (w w' : World) : Prop :=
  ∃ a, w.heap.size ≤ a ∧ a < w'.heap.size ∧ e = .panicked [{ v := .iface 112 (.pointer (some ⟨a, 0, none⟩)), recovered := false }] ∧ w'.cell? ⟨a, 0, none⟩ = some (.int .i64 n) ∧ w'.cell? ⟨a, 1, none⟩ = some (.string f)
/-- what bodyOf comes to -/
def BodyEnd (m : Ms) (w : World) (e : Ending) (w' : World) : Prop :=
  Below w.heap.size w w' ∧ match bodyW m with
  | .error (n, s) => GaveN n s e w w'
  | .ok b => ∃ ao cap, e = .returned (.slice ao b.length cap) ∧ Own w' w.heap.size ao b.length cap b
theorem Gave.gaveN {f : ByteArray} {e : Ending} {w w' : World} (h : Gave false f e w w') : GaveN 42 f e w w' := h
theorem GaveN.from {n : Int} {f : ByteArray} {e : Ending} {w0 w w' : World} (h : GaveN n f e w w') (hs : w0.heap.size ≤ w.heap.size) : GaveN n f e w0 w' := by
  obtain ⟨a, h1, h2⟩ := h
  exact ⟨a, by omega, h2⟩
/-- a kind that is none -/
theorem bodyof_kind (m : Ms) (g : Nat) (w : World) (h0 : w.cell? ⟨g, 0, none⟩ = some (.int .i64 m.kind)) (hk : I64 m.kind) (hb : m.kind < 1 ∨ 23 < m.kind) : Calls Tryz.prog 34 #[.pointer (some ⟨g, 0, none⟩)] w (BodyEnd m w) := by
  have HE := Lib.hid (show bodyW m = .error (41, ⟨#[107, 105, 110, 100]⟩) by unfold bodyW; rw [if_pos hb])
  have hd := iskind_any m.kind hk.1 hk.2 w
  rw [decide_eq_false (by omega)] at hd
  have HD := Lib.hid hd
  clear hd hb hk
  unfold BodyEnd
  rw [HE.out]
  generalize m.kind = mk at *
  go_enter Tryz.func34, Tryz.ntmps34
  go_wp2_with (first | (go_at_call 66; refine HD.out.mono ?_; rintro e w' ⟨rfl, rfl⟩) | (go_at_call 35; refine (giveup_any _ _ _).mono ?_; rintro e w' ⟨rfl, rfl⟩))
  refine ⟨rfl, ?_⟩
  exact ⟨below_alloc (Below.refl _ _) _, w.heap.size, Nat.le_refl _, by simp, rfl, by go_simp, by go_simp⟩

/-- the parts' block, the coder, the table: the loop's start -/
theorem loopw_start (m : Ms) (kd : Nat) (w : World) (tb : Obj) :
    LoopW m kd w.heap.size (w.heap.size + 1) (((w.alloc (.cells #[.slice none 0 0, .slice none 0 0, .slice none 0 0, .slice none 0 0, .slice none 0 0, .slice none 0 0, .slice none 0 0, .slice none 0 0, .slice none 0 0, .slice none 0 0, .slice none 0 0, .slice none 0 0, .slice none 0 0, .slice none 0 0, .slice none 0 0, .slice none 0 0, .slice none 0 0, .slice none 0 0, .slice none 0 0, .slice none 0 0, .slice none 0 0, .slice none 0 0] 166)).alloc (.cells #[.bool false, .slice none 0 0, .string ⟨#[]⟩] 139)).alloc tb) 0 ⟨#[]⟩ []
      (((w.alloc (.cells #[.slice none 0 0, .slice none 0 0, .slice none 0 0, .slice none 0 0, .slice none 0 0, .slice none 0 0, .slice none 0 0, .slice none 0 0, .slice none 0 0, .slice none 0 0, .slice none 0 0, .slice none 0 0, .slice none 0 0, .slice none 0 0, .slice none 0 0, .slice none 0 0, .slice none 0 0, .slice none 0 0, .slice none 0 0, .slice none 0 0, .slice none 0 0, .slice none 0 0] 166)).alloc (.cells #[.bool false, .slice none 0 0, .string ⟨#[]⟩] 139)).alloc tb) := by
  have hrow := heap_alloc_new w (.cells #[.slice none 0 0, .slice none 0 0, .slice none 0 0, .slice none 0 0, .slice none 0 0, .slice none 0 0, .slice none 0 0, .slice none 0 0, .slice none 0 0, .slice none 0 0, .slice none 0 0, .slice none 0 0, .slice none 0 0, .slice none 0 0, .slice none 0 0, .slice none 0 0, .slice none 0 0, .slice none 0 0, .slice none 0 0, .slice none 0 0, .slice none 0 0, .slice none 0 0] 166)
  have hs : (w.alloc (.cells #[.slice none 0 0, .slice none 0 0, .slice none 0 0, .slice none 0 0, .slice none 0 0, .slice none 0 0, .slice none 0 0, .slice none 0 0, .slice none 0 0, .slice none 0 0, .slice none 0 0, .slice none 0 0, .slice none 0 0, .slice none 0 0, .slice none 0 0, .slice none 0 0, .slice none 0 0, .slice none 0 0, .slice none 0 0, .slice none 0 0, .slice none 0 0, .slice none 0 0] 166)).heap.size = w.heap.size + 1 := by simp
  generalize w.alloc _ = w1 at *
  have hcd := (cd_new w1 (· < w1.heap.size) (fun b hb => hb) ⟨0, CutC []⟩ (fun g j v h => by obtain ⟨c, hc, _⟩ := h; cases hc)).alloc tb (fun b hb => .inl hb) (fun hm => by cases hm)
  have hrow2 := (heap_alloc_old (w1.alloc (.cells #[.bool false, .slice none 0 0, .string ⟨#[]⟩] 139)) tb (r := w.heap.size) (by simp; omega)).trans ((heap_alloc_old w1 (.cells #[.bool false, .slice none 0 0, .string ⟨#[]⟩] 139) (r := w.heap.size) (by omega)).trans hrow)
  rw [hs] at hcd
  refine ⟨Below.refl _ _, hcd, rfl, by simp, by simp, by simp, fun i _ hi => ?_, fun j => frozen_of_row _ _ _ _ _ hrow2⟩
  rw [cell_of_row _ _ i _ _ (0, 0) hrow2]
  rcases fd_cases hi with rfl | rfl | rfl | rfl | rfl | rfl | rfl | rfl | rfl | rfl | rfl | rfl | rfl | rfl | rfl | rfl | rfl | rfl | rfl | rfl | rfl | rfl <;> rfl
theorem field_one (s : ByteArray) (F : Nat) : (#[.string s, .func (.func F) #[] #[]] : Array Value).all (·.oneCell') = true := by
  first | rfl | kernel_rfl | simp [Value.oneCell']
theorem run_code (k : Nat) (hk : k < 22) (args : Array Value) (w : World) : (callFunc (codeFn k) args).run Tryz.prog w = .ok (.enter (codeFn k) args) w := by
  rcases fd_cases hk with rfl | rfl | rfl | rfl | rfl | rfl | rfl | rfl | rfl | rfl | rfl | rfl | rfl | rfl | rfl | rfl | rfl | rfl | rfl | rfl | rfl | rfl <;> kernel_rfl
/-- the parts of a struct stay where its block and its blocks stay -/
theorem slots_safe {w w' : World} {N M P : Nat → Prop} {g o : Nat} : ∀ {L : List Slot}, Slots w N g o L → AllFine L → Safe P w w' → P g → (∀ b, N b → P b) → (∀ b, N b → M b) → Slots w' M g o L
  | [], _, _, _, _, _, _ => trivial
  | s :: L, h, hf, hs, hg, hN, hM => by
    obtain ⟨⟨cs, h1, h2⟩, h3⟩ := h
    exact ⟨⟨cs, hf.1.mono _ _ _ _ (hf.1.safe _ _ _ _ _ h1 hs hN) hM, h2.safe hs hg⟩, slots_safe h3 hf.2 hs hg hN hM⟩
theorem safe_of_below {B : Nat} {w w' : World} (h : Below B w w') : Safe (· < B) w w' := ⟨h.os, h.tape, h.output, h.size, fun k hk => h.block k hk⟩
/-- the call of a part's function, told plainly -/
theorem part_call (m : Ms) (kd gP gc k g : Nat) (hk : k < 22) (hPc : gP < gc) (hgP : g < gP) (w0 w : World) (N : Nat → Prop) (hN : ∀ b, N b → b < gP) (hM : Slots w0 N g 0 (slotsOf m)) (f : ByteArray) (L : List Cut) (h : LoopW m kd gP gc w0 k f L w) (hgood : ∀ i, i < k → badW kd m i = false) (ob : Obj) :
    Calls Tryz.prog (codeFn k) #[.pointer (some ⟨gc, 0, none⟩), .pointer (some ⟨g, 0, none⟩)] ((w.setCell ⟨gc, 2, none⟩ (.string (nameB k))).alloc ob) fun e w' => Safe (· < gc) w w' ∧
      ((fok k m = false ∧ GaveN 42 (nameB k) e w w') ∨ (fok k m = true ∧ e = .returned (.tuple #[]) ∧ CdIs w' false (· < gc) gc ⟨0, CutC L⟩ (nameB k) (encUpTo m k ++ fenc k m))) := by
  obtain ⟨hcd, hs⟩ := h.enter hPc ob (nameB k)
  have hsize := h.below.size
  generalize (w.setCell ⟨gc, 2, none⟩ (.string (nameB k))).alloc ob = w2 at *
  have hS : Slots w2 (Grow false N w2 w2) g 0 (slotsOf m) := slots_safe (P := (· < gP)) hM (slotsOf_fine m) ((safe_of_below h.below).trans (hs.mono fun b hb => by show b < gc; omega)) hgP hN fun b hb => .inl hb
  have hcl := h.cd.lt
  have := encUpTo_len m k (by omega) (fun i hi => fok_of (hgood i hi))
  refine (field_any k hk (Mid.start hcd hS) (fun hm => by cases hm) (fun b hb => by have := hN b hb; show b < gc; omega) (fun _ => by show g < gc; omega) (fun hm => by cases hm) (by have := hs.size; omega) (by omega) (by omega)).mono ?_
  intro e w' he
  rw [step_w] at he
  by_cases ho : fok k m = true
  · rw [if_pos (show (fd k).cod.ok ((fd k).get m) = true from ho)] at he
    obtain ⟨rfl, hmid⟩ := he
    refine ⟨hs.trans hmid.safe.toSafe, .inr ⟨ho, rfl, ?_⟩⟩
    exact hmid.cd.reP (fun hm => by cases hm) fun b hb => .inl (.inl hb)
  · rw [if_neg (show ¬ (fd k).cod.ok ((fd k).get m) = true from ho)] at he
    obtain ⟨h1, h2⟩ := he
    exact ⟨hs.trans h1.toSafe, .inl ⟨by simpa using ho, (Gave.gaveN h2).from hs.size⟩⟩
theorem body_bad {m : Ms} {kd k : Nat} (hkd : m.kind = kd) (h1 : 1 ≤ kd) (h2 : kd ≤ 23) (hk : k < 22) (hgood : ∀ i, i < k → badW kd m i = false) (hbad : badW kd m k = true) {w w' : World} {e : Ending} (hb : Below w.heap.size w w') (hg : GaveN 42 (nameB k) e w w') : BodyEnd m w e w' := by
  have hE : bodyW m = .error (42, nameB k) := by
    unfold bodyW
    rw [if_neg (by omega), hkd, Int.toNat_natCast, find_bad hk hbad hgood]
  unfold BodyEnd
  rw [hE]
  exact ⟨hb, hg⟩
theorem badW_fok {kd k : Nat} {m : Ms} (h : fok k m = false) : badW kd m k = true := by unfold badW; rw [h]; rfl
theorem all_len (kd : Nat) (h : kd ≤ 23) : (all_ kd).length ≤ 7 := by
  have : ∀ k, k < 24 → (all_ k).length ≤ 7 := by decide
  exact this kd (by omega)
/-- the body as far as the first q of a kind's fields -/
def accW (m : Ms) (kd q : Nat) : List Nat := kd :: ((all_ kd).take q).flatMap (fenc · m)
theorem accW_zero (m : Ms) (kd : Nat) : accW m kd 0 = [kd] := rfl
theorem accW_succ (m : Ms) {kd q i : Nat} (h : (all_ kd)[q]? = some i) : accW m kd (q + 1) = accW m kd q ++ fenc i m := by
  unfold accW
  rw [List.take_add_one, h]
  simp
theorem accW_end {m : Ms} {kd : Nat} (h : m.kind = kd) : accW m kd (all_ kd).length = bodyOf m := by
  unfold accW bodyOf
  rw [List.take_length, h, Int.toNat_natCast]
theorem accW_len {m : Ms} {kd : Nat} (h : ∀ i, i < 22 → badW kd m i = false) : ∀ q, q ≤ (all_ kd).length → (accW m kd q).length ≤ 1 + q * 30000000
  | 0, _ => by simp [accW]
  | q + 1, hq => by
    have h1 := accW_len h q (by omega)
    have hx : (all_ kd)[q]? = some ((all_ kd)[q]'(by omega)) := List.getElem?_eq_getElem _
    have hlt := all_lt (List.mem_of_getElem? hx)
    have h2 := fenc_len _ hlt m (fok_of (h _ hlt))
    rw [accW_succ m hx, List.length_append]
    omega
theorem body_fine {m : Ms} {kd : Nat} (hkd : m.kind = kd) (h1 : 1 ≤ kd) (h2 : kd ≤ 23) (hgood : ∀ i, i < 22 → badW kd m i = false) {w w' : World} {ao : Option Addr} {cap : Nat} (hb : Below w.heap.size w w') (ho : Own w' w.heap.size ao (accW m kd (all_ kd).length).length cap (accW m kd (all_ kd).length)) :
    BodyEnd m w (.returned (.slice ao (accW m kd (all_ kd).length).length cap)) w' := by
  have hE : bodyW m = .ok (bodyOf m) := by
    unfold bodyW
    rw [if_neg (by omega), hkd, Int.toNat_natCast, find_good hgood]
  unfold BodyEnd
  rw [hE]
  rw [accW_end hkd] at ho ⊢
  exact ⟨hb, ao, cap, rfl, ho⟩
end Go.Proofs.YtngcbpgafjnfaaaGreatDoor
