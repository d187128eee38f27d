/- The decree of a value. The document's value of a decree. The document's reader: what is still to be read, behind a pointer; a number. -/
import Derived.Test.YtgifnhmnohojeaaGreatDoorLot16
import Derived.Test.YtgifnhmnohojeaaGreatDoorLot11
import Derived.Lib.ConvBytes

namespace Go.Proofs.YtgifnhmnohojeaaGreatDoor
open Go.RowKit
set_option linter.unusedVariables false

theorem bs_bytes_own {w : World} {P : Program} (s : ByteArray) : Rd (Go.Lib.bytesWorld w 5 s) (some ⟨w.heap.size, 0, none⟩) (bs s) := by
  refine ⟨bs_bytes s, fun j hj => ⟨w.heap.size, 0, rfl, by rw [Go.Lib.bytesWorld_size]; omega, ?_⟩⟩
  rw [bs_length] at hj
  rw [Nat.zero_add, Go.Lib.bytesWorld_cell _ _ _ _ hj]
  unfold bt bs
  have : j < s.data.toList.length := by rw [← Go.Lib.size_eq]; exact hj
  simp only [List.getD_eq_getElem?_getD, List.getElem?_map, List.getElem?_eq_getElem this, Option.map_some, Option.getD_some]
theorem bytes_below (w : World) (s : ByteArray) : Below w.heap.size w (Go.Lib.bytesWorld w 5 s) :=
  ⟨rfl, rfl, rfl, by rw [Go.Lib.bytesWorld_size]; omega, fun k hk => Go.Lib.bytesWorld_at_old w _ s k hk⟩
theorem exec_convertw {P : Program} {o : Oper} {a : Act} {w w' : World} {v vx : Value} (s d : TypeId) (x : Operand) (ho : o.op = .convert s d x) (hx : a.eval x = vx) (h : (convert s d vx).run P w = .ok v w') : (execOp a.eval o).run P w = .ok (.value v) w' := by
  unfold execOp
  simp only [ho, hx, Sem.run_bind, h, Result.andThen_ok, Sem.run_pure]
theorem run_tobytes (w : World) (s : ByteArray) : (convert 9 54 (.string s)).run Tryz.prog w = .ok (.slice (some ⟨w.heap.size, 0, none⟩) s.size (grownCap w s.size 0 5)) (Go.Lib.bytesWorld w 5 s) :=
  Go.Lib.run_convert_string_bytes w 9 54 5 s (u := .string) (by kernel_rfl) (by kernel_rfl) (by kernel_rfl)
theorem dcr_len {d : Dcr} : (dcrC.enc d).length = 13 := by
  show (le 1 d.kind.toNat ++ (le 1 d.node.toNat ++ (le 1 d.by_.toNat ++ ((le 1 d.arc.size0.toNat ++ le 1 d.arc.size.toNat) ++ (le 4 d.count ++ le 4 d.seen))))).length = 13
  simp only [List.length_append, le_length]
abbrev dcr0 : Dcr := ⟨0, 0, 0, ⟨0, 0⟩, 0, 0⟩
theorem dcr_read (s : ByteArray) (h : s.size = 13) : step dcrC true (bs s) dcr0 = (ofDcr s).map fun d => ([], d) := by
  rw [step_r]
  unfold ofDcr
  cases e : dcrC.dec (bs s) with
  | none => rfl
  | some x =>
    obtain ⟨d, r⟩ := x
    have h1 := (dcr_good.of _ _ _ (bs_bytes s) e).2
    have h2 := congrArg List.length h1
    rw [bs_length, List.length_append, dcr_len, h] at h2
    obtain rfl : r = [] := List.eq_nil_of_length_eq_zero (by omega)
    rfl
theorem dcr_short (s : ByteArray) (h : s.size ≠ 13) : ofDcr s = none := by
  cases e : ofDcr s with
  | none => rfl
  | some d =>
    exfalso
    unfold ofDcr at e
    split at e
    · rename_i d' e2
      have h1 := (dcr_good.of _ _ _ (bs_bytes s) e2).2
      have h2 := congrArg List.length h1
      rw [bs_length, List.length_append, dcr_len] at h2
      simp at h2
      exact h h2
    · cases e
/-- what DecodeDecree comes to -/
def DecDec (w : World) (r : Option Dcr) (e : Ending) (w' : World) : Prop :=
  e = .returned (.tuple #[.agg (dcrCells (r.getD dcr0)).toArray, .int .i64 (if r.isSome then 0 else 44)]) ∧ Below w.heap.size w w'

set_option maxRecDepth 100000 in
set_option maxHeartbeats 4000000 in
theorem decdec_short (s : ByteArray) (h : s.size ≠ 13) (hs : s.size ≤ 9223372036854775807) (w : World) : Calls Tryz.prog 18 #[.string s] w (DecDec w (ofDcr s)) := by
  rw [dcr_short s h]
  have hmf : ∀ (fn : Fn) (first cap : Array Value) (w : World), (Instr.makeFunc fn first cap).run Tryz.prog w = .ok (.func fn first cap) w := fun _ _ _ _ => rfl
  have hd : ((s.size : Int) != 13) = true := by simp; omega
  go_enter_defers Tryz.func18, Tryz.ntmps18
  go_wp2_with fail
  refine leaves_cons (f := 42) (args := #[.pointer (some ⟨w.heap.size, 0, none⟩), .pointer (some ⟨w.heap.size + 1, 0, none⟩)]) (by simp) (by simp [go_sem]) ?_
  refine (idle42 _ _ _).mono ?_
  rintro e u' w'' ⟨rfl, rfl, rfl⟩
  simp [Leaves, settle, results, Tryz.results18, go_sem]
  exact ⟨rfl, below_alloc (below_alloc (Below.refl _ _) _) _⟩

/-- the call within -/
theorem decdec_call (s : ByteArray) (h : s.size = 13) (w w3 : World) (hw : w3 = Go.Lib.bytesWorld ((w.alloc (.cells #[.int .i64 0, .int .i64 0, .int .i64 0, .int .i64 0, .int .i64 0, .int .u32 0, .int .u32 0] 79)).alloc (.cells #[.int .i64 0] 59)) 5 s) (cap : Nat) (hc : s.size ≤ cap) (hm : cap ≤ maxLen) :
    Calls Tryz.prog 41 #[.pointer (some ⟨w.heap.size + 1 + 1 + 1, 0, none⟩), .pointer (some ⟨w.heap.size, 0, none⟩)] (w3.alloc (.cells #[.bool true, .slice (some ⟨w.heap.size + 1 + 1, 0, none⟩) s.size cap, .string ⟨#[]⟩] 116))
      (Coded true (fun b => b < w.heap.size ∨ b = w.heap.size + 1 ∨ b = w.heap.size + 1 + 1) (fun _ => False) (w.heap.size + 1 + 1 + 1) ⟨w.heap.size + 1 + 1, fun _ _ _ => False⟩ ⟨#[]⟩ w.heap.size 0 dcrK (w3.alloc (.cells #[.bool true, .slice (some ⟨w.heap.size + 1 + 1, 0, none⟩) s.size cap, .string ⟨#[]⟩] 116)) (step dcrC true (bs s) dcr0)) ∧
    Below w.heap.size w w3 ∧ w3.heap.size = w.heap.size + 1 + 1 + 1 ∧ w3.cell? ⟨w.heap.size + 1, 0, none⟩ = some (.int .i64 0) ∧ w3.frozen? ⟨w.heap.size + 1, 0, none⟩ = false ∧ DcrAt w3 w.heap.size dcr0 := by
  have hrow : ((w.alloc (.cells #[.int .i64 0, .int .i64 0, .int .i64 0, .int .i64 0, .int .i64 0, .int .u32 0, .int .u32 0] 79)).alloc (.cells #[.int .i64 0] 59)).heap[w.heap.size]? = some (.cells (dcrCells dcr0).toArray 79 (0, 0)) := by
    rw [heap_alloc_old _ _ (by simp)]; exact heap_alloc_new w _
  have hce : ((w.alloc (.cells #[.int .i64 0, .int .i64 0, .int .i64 0, .int .i64 0, .int .i64 0, .int .u32 0, .int .u32 0] 79)).alloc (.cells #[.int .i64 0] 59)).cell? ⟨w.heap.size + 1, 0, none⟩ = some (.int .i64 0) := by go_simp
  have hfe : ((w.alloc (.cells #[.int .i64 0, .int .i64 0, .int .i64 0, .int .i64 0, .int .i64 0, .int .u32 0, .int .u32 0] 79)).alloc (.cells #[.int .i64 0] 59)).frozen? ⟨w.heap.size + 1, 0, none⟩ = false := by go_simp
  have hs2 : ((w.alloc (.cells #[.int .i64 0, .int .i64 0, .int .i64 0, .int .i64 0, .int .i64 0, .int .u32 0, .int .u32 0] 79)).alloc (.cells #[.int .i64 0] 59)).heap.size = w.heap.size + 1 + 1 := by simp
  have hb2 : Below w.heap.size w ((w.alloc (.cells #[.int .i64 0, .int .i64 0, .int .i64 0, .int .i64 0, .int .i64 0, .int .u32 0, .int .u32 0] 79)).alloc (.cells #[.int .i64 0] 59)) := below_alloc (below_alloc (Below.refl _ _) _) _
  generalize (w.alloc (.cells #[.int .i64 0, .int .i64 0, .int .i64 0, .int .i64 0, .int .i64 0, .int .u32 0, .int .u32 0] 79)).alloc (.cells #[.int .i64 0] 59) = w2 at *
  have hb3 : Below w2.heap.size w2 w3 := by rw [hw]; exact bytes_below w2 s
  have hs3 : w3.heap.size = w.heap.size + 1 + 1 + 1 := by rw [hw, Go.Lib.bytesWorld_size, hs2]
  have hR : Rd w3 (some ⟨w.heap.size + 1 + 1, 0, none⟩) (bs s) := by rw [hw, ← hs2]; exact bs_bytes_own (P := Tryz.prog) s
  clear hw
  have hrow3 : w3.heap[w.heap.size]? = some (.cells (dcrCells dcr0).toArray 79 (0, 0)) := (hb3.block _ (by omega)).trans hrow
  have hD : DcrAt w3 w.heap.size dcr0 := ⟨fun j u hu => by rw [Nat.zero_add, cell_of_row w3 w.heap.size j _ _ (0, 0) hrow3, List.getElem?_toArray]; exact hu, fun j => frozen_of_row _ _ _ _ _ hrow3⟩
  have hbc : Below w3.heap.size w3 (w3.alloc (.cells #[.bool true, .slice (some ⟨w.heap.size + 1 + 1, 0, none⟩) s.size cap, .string ⟨#[]⟩] 116)) := below_alloc (Below.refl _ _) _
  refine ⟨?_, hb2.trans (hb3.mono (by omega)), hs3, (hb3.cell (p := ⟨w.heap.size + 1, 0, none⟩) (by show w.heap.size + 1 < _; omega)).trans hce, (hb3.frozen (p := ⟨w.heap.size + 1, 0, none⟩) (by show w.heap.size + 1 < _; omega)).trans hfe, hD⟩
  have hcd : CdIs (w3.alloc (.cells #[.bool true, .slice (some ⟨w.heap.size + 1 + 1, 0, none⟩) s.size cap, .string ⟨#[]⟩] 116)) true (fun b => b < w.heap.size ∨ b = w.heap.size + 1 ∨ b = w.heap.size + 1 + 1) (w.heap.size + 1 + 1 + 1) ⟨w.heap.size + 1 + 1, fun _ _ _ => False⟩ ⟨#[]⟩ (bs s) := by
    rw [← hs3]
    refine ⟨_, _, _, ⟨by go_simp, by go_simp, by go_simp, by go_simp, by go_simp, by simp, bs_length s, hc, hm, (fun h => by cases h), (fun h => by cases h), fun _ => ⟨hR.below hbc, by show w.heap.size + 1 + 1 ≠ w3.heap.size; omega, fun b hb => by simpa [blk] using hb⟩⟩, fun _ => .inr (.inr rfl), fun b hb => ⟨?_, ?_, fun h => by cases h⟩⟩
    · simp; omega
    · omega
  exact dcr_codes true _ (fun _ => False) _ _ ⟨#[]⟩ (bs s) w.heap.size 0 (dcrCells dcr0) dcr0 _ hcd (fun _ => rfl) (dcr_is (d := dcr0) (by unfold DcrOk I64; decide) _ _) (fun j u hu => (hbc.cell (p := ⟨w.heap.size, 0 + j, none⟩) (by show w.heap.size < _; omega)).trans (hD.1 j u hu)) (fun _ h => h.elim) (fun h => by cases h)
    (fun _ => ⟨by omega, fun j => (hbc.frozen (p := ⟨w.heap.size, j, none⟩) (by show w.heap.size < _; omega)).trans (hD.2 j)⟩) (by simp; omega) (by omega) (by rw [bs_length]; omega)
set_option maxRecDepth 100000 in
set_option maxHeartbeats 4000000 in
theorem decdec_long (s : ByteArray) (h : s.size = 13) (w : World) (hE : ErrT w) : Calls Tryz.prog 18 #[.string s] w (DecDec w (ofDcr s)) := by
  have hmf : ∀ (fn : Fn) (first cap : Array Value) (w : World), (Instr.makeFunc fn first cap).run Tryz.prog w = .ok (.func fn first cap) w := fun _ _ _ _ => rfl
  have hd : ((s.size : Int) != 13) = false := by rw [h]; rfl
  have RC := run_tobytes ((w.alloc (.cells #[.int .i64 0, .int .i64 0, .int .i64 0, .int .i64 0, .int .i64 0, .int .u32 0, .int .u32 0] 79)).alloc (.cells #[.int .i64 0] 59)) s
  have hcap : s.size ≤ grownCap ((w.alloc (.cells #[.int .i64 0, .int .i64 0, .int .i64 0, .int .i64 0, .int .i64 0, .int .u32 0, .int .u32 0] 79)).alloc (.cells #[.int .i64 0] 59)) s.size 0 5 := grownCap_ge _ _ _ _
  have hmax : grownCap ((w.alloc (.cells #[.int .i64 0, .int .i64 0, .int .i64 0, .int .i64 0, .int .i64 0, .int .u32 0, .int .u32 0] 79)).alloc (.cells #[.int .i64 0] 59)) s.size 0 5 ≤ maxLen := grownCap_le_maxLen _ _ _ _ (by rw [h]; decide)
  have hz : ((w.alloc (.cells #[.int .i64 0, .int .i64 0, .int .i64 0, .int .i64 0, .int .i64 0, .int .u32 0, .int .u32 0] 79)).alloc (.cells #[.int .i64 0] 59)).heap.size = w.heap.size + 1 + 1 := by simp
  rw [hz] at RC
  clear hz
  generalize grownCap ((w.alloc (.cells #[.int .i64 0, .int .i64 0, .int .i64 0, .int .i64 0, .int .i64 0, .int .u32 0, .int .u32 0] 79)).alloc (.cells #[.int .i64 0] 59)) s.size 0 5 = cap at *
  generalize hw3 : Go.Lib.bytesWorld ((w.alloc (.cells #[.int .i64 0, .int .i64 0, .int .i64 0, .int .i64 0, .int .i64 0, .int .u32 0, .int .u32 0] 79)).alloc (.cells #[.int .i64 0] 59)) 5 s = w3 at *
  obtain ⟨CALL0, hb3, hs3, hce, hfe, hD⟩ := decdec_call s h w w3 hw3.symm cap hcap hmax
  rw [dcr_read s h] at CALL0
  have CALL := Lib.hid CALL0
  have HRC := Lib.hid RC
  have HE := Lib.hid hE
  have HS3 := Lib.hid hs3
  have HB3 := Lib.hid hb3
  have HCE := Lib.hid hce
  have HFE := Lib.hid hfe
  have HD := Lib.hid hD
  have H13 := Lib.hid h
  clear hE hcap hmax hw3 CALL0 RC hs3 hb3 hce hfe hD h
  go_enter_defers Tryz.func18, Tryz.ntmps18
  go_wp2_with (refine wpList_runs rfl _ _ (exec_convertw (vx := .string s) 9 54 (.tmp 10) rfl rfl HRC.out) ?_)
  rw [HS3.out]
  have c0 : ∀ (x : Obj) (j : Nat), j < 2 → ∀ (i : Nat), (w3.alloc x).cell? ⟨w.heap.size + j, i, none⟩ = w3.cell? ⟨w.heap.size + j, i, none⟩ := fun x j hj i => World.cell?_alloc_lt _ _ _ (by show w.heap.size + j < _; have := HS3.out; omega)
  have z0 : ∀ (x : Obj) (j : Nat), j < 2 → ∀ (i : Nat), (w3.alloc x).frozen? ⟨w.heap.size + j, i, none⟩ = w3.frozen? ⟨w.heap.size + j, i, none⟩ := fun x j hj i => World.frozen?_of_block (a := ⟨w.heap.size + j, i, none⟩) (heap_alloc_old _ _ (by show w.heap.size + j < _; have := HS3.out; omega))
  have C0 := Lib.hid c0
  have Z0 := Lib.hid z0
  clear c0 z0
  cases hq : ofDcr s with
  | none =>
    rw [hq, Option.map_none] at CALL
    refine CALL.out.mono ?_
    rintro e w1 ⟨h1, a, h2, h3, rfl, h4, h5⟩
    have hsz : w.heap.size + 1 + 1 + 1 + 1 ≤ w1.heap.size := by have := h1.size; have h9 := HS3.out; simp at this; omega
    have k2 : w1.cell? ⟨w.heap.size + 1, 0, none⟩ = some (.int .i64 0) := (h1.cell (a := ⟨w.heap.size + 1, 0, none⟩) (.inr (.inl rfl))).trans ((C0.out _ 1 (by omega) 0).trans HCE.out)
    have f2 : w1.frozen? ⟨w.heap.size + 1, 0, none⟩ = false := (World.frozen?_of_block (a := ⟨w.heap.size + 1, 0, none⟩) (h1.block (w.heap.size + 1) (.inr (.inl rfl)))).trans ((Z0.out _ 1 (by omega) 0).trans HFE.out)
    have hs7 : ∀ j, j < 7 → (w1.cell? ⟨w.heap.size, j, none⟩).isSome = true := fun j hj => h1.has j (by
      refine (congrArg Option.isSome (C0.out _ 0 (by omega) j)).trans ?_
      show (w3.cell? ⟨w.heap.size, j, none⟩).isSome = true
      have h9 := HD.out.1 j ((dcrCells dcr0)[j]'(by exact hj)) (List.getElem?_eq_getElem _)
      rw [Nat.zero_add] at h9
      rw [h9]; rfl)
    have hsf : ∀ j, w1.frozen? ⟨w.heap.size, j, none⟩ = false := fun j => (h1.fr j).trans ((Z0.out _ 0 (by omega) j).trans (HD.out.2 j))
    have HB : Hid (Below w.heap.size w w1) := Lib.hid ((below_alloc HB3.out _).trans (h1.toSafe.mono (Q := fun b => b < w.heap.size) fun b hb => .inl hb).below)
    have h4 : w1.cell? ⟨a, 0, none⟩ = some (.int .i64 44) := h4
    refine leaves_cons (f := 42) (args := #[.pointer (some ⟨w.heap.size, 0, none⟩), .pointer (some ⟨w.heap.size + 1, 0, none⟩)]) (by simp) (by simp [go_sem]) ?_
    refine (caught42 w.heap.size (w.heap.size + 1) ⟨a, 0, none⟩ 44 w1 (HE.out.below HB.out) h4 hs7 hsf k2 (by omega) f2).mono ?_
    rintro e u' w5 ⟨rfl, rfl, hD5, q7, hb⟩
    have HBB := HB.out.trans (hb w.heap.size (by omega) (by omega) HB.out.size)
    obtain ⟨q0, q1, q2, q3, q4, q5, q6⟩ := hD5.seven
    simp [Leaves, settle, results, Tryz.results18, go_sem, q0, q1, q2, q3, q4, q5, q6, q7]
    exact ⟨by first | (rw [hq]; rfl) | rfl, HBB⟩
  | some d =>
    rw [hq, Option.map_some] at CALL
    refine CALL.out.mono ?_
    rintro e w1 ⟨h1, rfl, h2, ⟨cs, h3, h4⟩, h5, h6⟩
    obtain ⟨rfl, hdok⟩ := dcr_of h3
    have hsz : w.heap.size + 1 + 1 + 1 + 1 ≤ w1.heap.size := by have := h1.size; have h9 := HS3.out; simp at this; omega
    have k7 : w1.cell? ⟨w.heap.size + 1, 0, none⟩ = some (.int .i64 0) := (h1.cell (a := ⟨w.heap.size + 1, 0, none⟩) (.inr (.inl rfl))).trans ((C0.out _ 1 (by omega) 0).trans HCE.out)
    have f2 : w1.frozen? ⟨w.heap.size + 1, 0, none⟩ = false := (World.frozen?_of_block (a := ⟨w.heap.size + 1, 0, none⟩) (h1.block (w.heap.size + 1) (.inr (.inl rfl)))).trans ((Z0.out _ 1 (by omega) 0).trans HFE.out)
    have fz : ∀ j, w1.frozen? ⟨w.heap.size, j, none⟩ = false := fun j => (h1.fr j).trans ((Z0.out _ 0 (by omega) j).trans (HD.out.2 j))
    have hDA : DcrAt w1 w.heap.size d := ⟨h4, fz⟩
    obtain ⟨k0, k1, k2, k3, k4, k5, k6⟩ := hDA.seven
    have HB : Hid (Below w.heap.size w w1) := Lib.hid ((below_alloc HB3.out _).trans (h1.toSafe.mono (Q := fun b => b < w.heap.size) fun b hb => .inl hb).below)
    have HL := Lib.hid (laidL w.heap.size (dcrCells d) w1 0 (fun j hj => by
      have h9 := h4 j ((dcrCells d)[j]'(by exact hj)) (List.getElem?_eq_getElem _)
      rw [h9]; rfl))
    have HK7 := Lib.hid k7
    clear h1 h2 h3 h4 h5 h6 hDA CALL
    go_wp2_with fail
    refine leaves_cons (f := 42) (args := #[.pointer (some ⟨w.heap.size, 0, none⟩), .pointer (some ⟨w.heap.size + 1, 0, none⟩)]) (by simp) (by simp [go_sem]) ?_
    refine (idle42 _ _ _).mono ?_
    rintro e u' w'' ⟨rfl, rfl, hw⟩
    have hw : w'' = (layL w1 w.heap.size 0 (dcrCells d)).setCell ⟨w.heap.size + 1, 0, none⟩ (.int .i64 0) := hw
    have q7 : w''.cell? ⟨w.heap.size + 1, 0, none⟩ = some (.int .i64 0) := by
      rw [hw]; exact World.cell?_setCell_same _ ⟨w.heap.size + 1, 0, none⟩ _ (show _ = some (Value.int .i64 0) from by rw [HL.out.out (w.heap.size + 1) 0 (.inl (by omega))]; exact HK7.out)
    have hD5 : DcrAt w'' w.heap.size d := by
      rw [hw]
      exact ⟨HL.out.at_.same fun j _ => World.cell?_setCell_other _ _ _ _ (by simp), fun j => by rw [World.frozen?_setCell, HL.out.fz]; exact fz j⟩
    have HBB : Below w.heap.size w w'' := by
      rw [hw]
      exact (HB.out.trans (HL.out.below _ (Nat.le_refl _))).setCell (by show w.heap.size ≤ w.heap.size + 1; omega) _
    clear hw k0 k1 k2 k3 k4 k5 k6 k7
    obtain ⟨q0, q1, q2, q3, q4, q5, q6⟩ := hD5.seven
    simp [Leaves, settle, results, Tryz.results18, go_sem, q0, q1, q2, q3, q4, q5, q6, q7]
    exact ⟨by first | (rw [hq]; rfl) | rfl, HBB⟩
end Go.Proofs.YtgifnhmnohojeaaGreatDoor


namespace Go.Proofs.YtgifnhmnohojeaaGreatDoor
open Go.RowKit
set_option linter.unusedVariables false

/-- the document's value, whether or not it may be -/
def dcrOut (d : Dcr) : List Nat := [] ++ wholeOut 1 d.kind ++ wholeOut 1 d.node ++ wholeOut 1 d.by_ ++ wholeOut 1 d.arc.size0 ++ wholeOut 1 d.arc.size ++ le 4 d.count ++ le 4 d.seen
def dcrFit (d : Dcr) : Bool := true && (whole 1 5).ok d.kind && (whole 1 255).ok d.node && (whole 1 255).ok d.by_ && (whole 1 63).ok d.arc.size0 && (whole 1 64).ok d.arc.size && decide (d.count ≤ 4294967295) && decide (d.seen ≤ 4294967295)
theorem dcrFit_ok (d : Dcr) : dcrFit d = dcrC.ok d := by
  show _ = (true && ((whole 1 5).ok d.kind && ((whole 1 255).ok d.node && ((whole 1 255).ok d.by_ && (((whole 1 63).ok d.arc.size0 && (whole 1 64).ok d.arc.size) && (decide (d.count ≤ 4294967295) && decide (d.seen ≤ 4294967295)))))))
  simp only [dcrFit, Bool.true_and, Bool.and_true, Bool.and_assoc]
theorem dcrOut_enc {d : Dcr} (h : dcrC.ok d = true) : dcrOut d = dcrC.enc d := by
  rw [← dcrFit_ok] at h
  simp only [dcrFit, Bool.true_and, Bool.and_eq_true] at h
  obtain ⟨⟨⟨⟨⟨⟨h1, h2⟩, h3⟩, h4⟩, h5⟩, _⟩, _⟩ := h
  unfold dcrOut
  rw [wholeOut_enc h1, wholeOut_enc h2, wholeOut_enc h3, wholeOut_enc h4, wholeOut_enc h5]
  show _ = (whole 1 5).enc d.kind ++ ((whole 1 255).enc d.node ++ ((whole 1 255).enc d.by_ ++ (((whole 1 63).enc d.arc.size0 ++ (whole 1 64).enc d.arc.size) ++ (le 4 d.count ++ le 4 d.seen))))
  simp only [List.nil_append, List.append_assoc]

theorem step_value {w : World} {ops : Array Oper} {o : Oper} {a : Act} {K : Act → World → Prop} {Q : Exit → Act → World → Prop} {E : Prop} (hgd : o.guard = none) (v : Value)
    (hrun : (execOp a.eval o).run Tryz.prog w = .ok (.value v) w) (h : K (a.put o.dst v) w) :
    if Region.wanted o (yielded ops a.tmps) = true then Oper.wp Tryz.prog o a w K Q else E := by
  have hw : Region.wanted o (yielded ops a.tmps) = true := by simp [Region.wanted, hgd]
  rw [if_pos hw]
  unfold Oper.wp
  simp only [hrun, Oper.upon]
  exact h

set_option maxRecDepth 100000 in
set_option maxHeartbeats 4000000 in
theorem refdecree_any (d : Dcr) (hd : DcrOk d) (w : World) :
    Calls Tryz.prog 19 #[.agg #[.int .i64 d.kind, .int .i64 d.node, .int .i64 d.by_, .int .i64 d.arc.size0, .int .i64 d.arc.size, .int .u32 (d.count : Int), .int .u32 (d.seen : Int)]] w fun e w' =>
      e = .returned (.tuple #[.string (ofBs (dcrOut d)), .bool (dcrC.ok d)]) ∧ Below w.heap.size w w' := by
  have HOK := Lib.hid (dcrFit_ok d)
  have HD1 := Lib.hid (show dcrFit d = _ from rfl)
  have HD2 := Lib.hid (show dcrOut d = _ from rfl)
  obtain ⟨i1, i2, i3, i4, i5, i6, i7⟩ := hd
  have hrow := heap_alloc_new w (.cells #[.int .i64 d.kind, .int .i64 d.node, .int .i64 d.by_, .int .i64 d.arc.size0, .int .i64 d.arc.size, .int .u32 (d.count : Int), .int .u32 (d.seen : Int)] 79)
  have hs1 : (w.alloc (.cells #[.int .i64 d.kind, .int .i64 d.node, .int .i64 d.by_, .int .i64 d.arc.size0, .int .i64 d.arc.size, .int .u32 (d.count : Int), .int .u32 (d.seen : Int)] 79)).heap.size = w.heap.size + 1 := by simp
  have hb1 : Below w.heap.size w (w.alloc (.cells #[.int .i64 d.kind, .int .i64 d.node, .int .i64 d.by_, .int .i64 d.arc.size0, .int .i64 d.arc.size, .int .u32 (d.count : Int), .int .u32 (d.seen : Int)] 79)) := below_alloc (Below.refl _ _) _
  go_enter Tryz.func19, Tryz.ntmps19
  go_wp2_with fail
  generalize w.alloc (.cells #[.int .i64 d.kind, .int .i64 d.node, .int .i64 d.by_, .int .i64 d.arc.size0, .int .i64 d.arc.size, .int .u32 (d.count : Int), .int .u32 (d.seen : Int)] 79) = w1 at *
  have HOUT : Hid (OutIs (w1.alloc (.cells #[.slice none 0 0, .bool true] 121)) (· < w.heap.size + 1) (w.heap.size + 1) [] true) := Lib.hid (by
    rw [← hs1]
    refine ⟨none, 0, 0, ⟨by go_simp, by go_simp, by go_simp, by go_simp, by simp, Own.nil _ _, by simp [blk]⟩, fun b hb => ⟨by simp; omega, by omega, by simp [blk]⟩⟩)
  have hs0 : Safe (· < w.heap.size + 1) w1 (w1.alloc (.cells #[.slice none 0 0, .bool true] 121)) := (Safe.refl _ _).alloc (fun b hb => by omega) _
  have HC := Lib.hid (fun (wr : World) (hs : Safe (· < w.heap.size + 1) w1 wr) (j : Nat) => (hs.cell (a := ⟨w.heap.size, j, none⟩) (show w.heap.size < w.heap.size + 1 by omega)).trans (cell_of_row w1 w.heap.size j _ _ (0, 0) hrow))
  have HB1 := Lib.hid hb1
  clear hrow hb1
  generalize w1.alloc (.cells #[.slice none 0 0, .bool true] 121) = v0 at *
  have S0 := Lib.hid hs0
  clear hs0
  have T0 := Lib.hid (owhole_any (· < w.heap.size + 1) (w.heap.size + 1) _ _ (d.kind) (by have := i1.2; omega) 1 (by omega) (by simp) 5 v0 HOUT.out)
  refine T0.out.mono ?_
  rintro e v1 ⟨rfl, q1, q2⟩
  have HOUT1 := Lib.hid q1
  have S1 := Lib.hid (S0.out.trans q2)
  clear q1 q2 T0
  have T1 := Lib.hid (owhole_any (· < w.heap.size + 1) (w.heap.size + 1) _ _ (d.node) (by have := i2.2; omega) 1 (by omega) (by simp only [List.length_append, le_length, List.length_nil]; have a1 := wholeOut_length 1 d.kind; have a2 := wholeOut_length 1 d.node; have a3 := wholeOut_length 1 d.by_; have a4 := wholeOut_length 1 d.arc.size0; have a5 := wholeOut_length 1 d.arc.size; omega) 255 v1 HOUT1.out)
  have c1 : v1.cell? ⟨w.heap.size, 1, none⟩ = some (.int .i64 d.node) := HC.out v1 S1.out 1
  go_wp2_with fail
  refine T1.out.mono ?_
  rintro e v2 ⟨rfl, q1, q2⟩
  have HOUT2 := Lib.hid q1
  have S2 := Lib.hid (S1.out.trans q2)
  clear q1 q2 T1
  clear c1
  have T2 := Lib.hid (owhole_any (· < w.heap.size + 1) (w.heap.size + 1) _ _ (d.by_) (by have := i3.2; omega) 1 (by omega) (by simp only [List.length_append, le_length, List.length_nil]; have a1 := wholeOut_length 1 d.kind; have a2 := wholeOut_length 1 d.node; have a3 := wholeOut_length 1 d.by_; have a4 := wholeOut_length 1 d.arc.size0; have a5 := wholeOut_length 1 d.arc.size; omega) 255 v2 HOUT2.out)
  have c2 : v2.cell? ⟨w.heap.size, 2, none⟩ = some (.int .i64 d.by_) := HC.out v2 S2.out 2
  go_wp2_with fail
  refine T2.out.mono ?_
  rintro e v3 ⟨rfl, q1, q2⟩
  have HOUT3 := Lib.hid q1
  have S3 := Lib.hid (S2.out.trans q2)
  clear q1 q2 T2
  clear c2
  have T3 := Lib.hid (owhole_any (· < w.heap.size + 1) (w.heap.size + 1) _ _ (d.arc.size0) (by have := i4.2; omega) 1 (by omega) (by simp only [List.length_append, le_length, List.length_nil]; have a1 := wholeOut_length 1 d.kind; have a2 := wholeOut_length 1 d.node; have a3 := wholeOut_length 1 d.by_; have a4 := wholeOut_length 1 d.arc.size0; have a5 := wholeOut_length 1 d.arc.size; omega) 63 v3 HOUT3.out)
  have c3 : v3.cell? ⟨w.heap.size, 3, none⟩ = some (.int .i64 d.arc.size0) := HC.out v3 S3.out 3
  go_wp2_with fail
  refine T3.out.mono ?_
  rintro e v4 ⟨rfl, q1, q2⟩
  have HOUT4 := Lib.hid q1
  have S4 := Lib.hid (S3.out.trans q2)
  clear q1 q2 T3
  clear c3
  have T4 := Lib.hid (owhole_any (· < w.heap.size + 1) (w.heap.size + 1) _ _ (d.arc.size) (by have := i5.2; omega) 1 (by omega) (by simp only [List.length_append, le_length, List.length_nil]; have a1 := wholeOut_length 1 d.kind; have a2 := wholeOut_length 1 d.node; have a3 := wholeOut_length 1 d.by_; have a4 := wholeOut_length 1 d.arc.size0; have a5 := wholeOut_length 1 d.arc.size; omega) 64 v4 HOUT4.out)
  have c4 : v4.cell? ⟨w.heap.size, 4, none⟩ = some (.int .i64 d.arc.size) := HC.out v4 S4.out 4
  go_wp2_with fail
  refine T4.out.mono ?_
  rintro e v5 ⟨rfl, q1, q2⟩
  have HOUT5 := Lib.hid q1
  have S5 := Lib.hid (S4.out.trans q2)
  clear q1 q2 T4
  clear c4
  have T5 := Lib.hid (onum_any (· < w.heap.size + 1) (w.heap.size + 1) _ _ (d.count) (by omega) 4 (by omega) (by simp only [List.length_append, le_length, List.length_nil]; have a1 := wholeOut_length 1 d.kind; have a2 := wholeOut_length 1 d.node; have a3 := wholeOut_length 1 d.by_; have a4 := wholeOut_length 1 d.arc.size0; have a5 := wholeOut_length 1 d.arc.size; omega) 4294967295 v5 HOUT5.out)
  have c5 : v5.cell? ⟨w.heap.size, 5, none⟩ = some (.int .u32 (d.count : Int)) := HC.out v5 S5.out 5
  go_wp2_with fail
  refine T5.out.mono ?_
  rintro e v6 ⟨rfl, q1, q2⟩
  have HOUT6 := Lib.hid q1
  have S6 := Lib.hid (S5.out.trans q2)
  clear q1 q2 T5
  clear c5
  have T6 := Lib.hid (onum_any (· < w.heap.size + 1) (w.heap.size + 1) _ _ (d.seen) (by omega) 4 (by omega) (by simp only [List.length_append, le_length, List.length_nil]; have a1 := wholeOut_length 1 d.kind; have a2 := wholeOut_length 1 d.node; have a3 := wholeOut_length 1 d.by_; have a4 := wholeOut_length 1 d.arc.size0; have a5 := wholeOut_length 1 d.arc.size; omega) 4294967295 v6 HOUT6.out)
  have c6 : v6.cell? ⟨w.heap.size, 6, none⟩ = some (.int .u32 (d.seen : Int)) := HC.out v6 S6.out 6
  go_wp2_with fail
  refine T6.out.mono ?_
  rintro e v7 ⟨rfl, q1, q2⟩
  have HOUT7 := Lib.hid q1
  have S7 := Lib.hid (S6.out.trans q2)
  clear q1 q2 T6
  clear c6
  obtain ⟨ao, n, cap, ha, hof⟩ := HOUT7.out
  have r0 := ha.c0
  have r1 : v7.cell? ⟨w.heap.size + 1, 1, none⟩ = some (.bool (dcrC.ok d)) := by rw [← HOK.out]; exact ha.c1
  have HRD : Hid (Rd v7 ao (dcrOut d)) := Lib.hid ha.own.rd
  have HLN : Hid ((dcrOut d).length = n) := Lib.hid ha.own.len
  have HBB := Lib.hid (HB1.out.trans ((S7.out.mono (Q := (· < w.heap.size)) fun b hb => by show b < w.heap.size + 1; omega).below))
  clear ha hof HOUT HOUT1 HOUT2 HOUT3 HOUT4 HOUT5 HOUT6 HOUT7 S0 S1 S2 S3 S4 S5 S6 S7 HC HD1 HD2 i1 i2 i3 i4 i5 i6 i7 HOK
  clear v0 v1 v2 v3 v4 v5 v6
  generalize hok : dcrC.ok d = okd at *
  generalize hld : dcrOut d = ld at *
  have HOKD := Lib.hid hok
  have HLD := Lib.hid hld
  clear hok hld
  go_wp2_with fail
  have r0q := fun (d : Nat) (os : Array Obj) => cell_regrown r0 d os
  have r1q := fun (d : Nat) (os : Array Obj) => cell_regrown r1 d os
  refine wp_region_quiet_below (by kernel_rfl) (by kernel_rfl) ?_
  go_big_quiet_step (fail)
  go_big_quiet_step (fail)
  go_big_quiet_step (fail)
  go_big_quiet_step (fail)
  refine BigFrame.wpQuiet_want (by rfl) (fun K hK => quiet_value _ (fun w' hw' => exec_convert (vx := .slice ao n cap) 54 9 (.tmp 42) rfl rfl (run_str (HRD.out.below (by obtain ⟨p, hp⟩ := hw'; rw [hp]; exact below_regrown _ _ _)) n cap HLN.out)) (hK _ ?_))
  simp only [Act.put, List.setIfInBounds_toArray, List.set_cons_zero, List.set_cons_succ]
  go_big_quiet_step (fail)
  go_big_quiet_step (fail)
  go_big_quiet_step (fail)
  go_big_quiet_step (fail)
  go_big_quiet_step (fail)
  go_big_quiet_step (fail)
  refine wpQuiet_nil ?_
  intro _ hw'
  obtain ⟨⟨dq, osq⟩, hw''⟩ := hw'
  subst hw''
  have lk := below_regrown v7 dq osq
  clear r0q r1q
  have HBE := Lib.hid (HBB.out.trans (lk.mono HBB.out.size))
  clear lk r0 r1
  go_wp2_with fail
  go_ret2
  refine ⟨?_, HBE.out⟩
  rw [HOKD.out, HLD.out]
  rfl
end Go.Proofs.YtgifnhmnohojeaaGreatDoor


namespace Go.Proofs.YtgifnhmnohojeaaGreatDoor
open Go.RowKit
set_option linter.unusedVariables false

/-- a reader at block g: what is left, whether all was there and might be -/
structure InAt (w : World) (g : Nat) (ao : Option Addr) (n cap : Nat) (l : List Nat) (ok : Bool) : Prop where
  c0 : w.cell? ⟨g, 0, none⟩ = some (.slice ao n cap)
  c1 : w.cell? ⟨g, 1, none⟩ = some (.bool ok)
  f0 : w.frozen? ⟨g, 0, none⟩ = false
  f1 : w.frozen? ⟨g, 1, none⟩ = false
  rd : Rd w ao l
  len : l.length = n
  le : n ≤ cap
  max : cap ≤ maxLen
  apart : ∀ b ∈ blk ao, b < g
theorem InAt.ap {w : World} {g : Nat} {ao : Option Addr} {n cap : Nat} {l : List Nat} {ok : Bool} (h : InAt w g ao n cap l ok) : g ∉ blk ao := fun hm => by have := h.apart g hm; omega
def InIs (w : World) (g : Nat) (l : List Nat) (ok : Bool) : Prop := ∃ ao n cap, InAt w g ao n cap l ok
theorem InAt.put {w : World} {g : Nat} {ao : Option Addr} {n cap : Nat} {l : List Nat} {ok : Bool} (h : InAt w g ao n cap l ok) (b : Bool) : InAt (w.setCell ⟨g, 1, none⟩ (.bool b)) g ao n cap l b :=
  ⟨by rw [World.cell?_setCell_other _ _ _ _ (by simp)]; exact h.c0, World.cell?_setCell_same w _ _ h.c1, by rw [World.frozen?_setCell]; exact h.f0, by rw [World.frozen?_setCell]; exact h.f1,
    h.rd.keep (Keep.setCell w ⟨g, 1, none⟩ (.bool b)) (fun q hq hm => h.ap (by simp at hm; exact hm ▸ hq)), h.len, h.le, h.max, h.apart⟩
theorem InAt.cut {w : World} {g : Nat} {ao : Option Addr} {n cap : Nat} {l : List Nat} {ok : Bool} (h : InAt w g ao n cap l ok) (k : Nat) (hk : k ≤ n) : InAt (w.setCell ⟨g, 0, none⟩ (.slice (sh ao cap k) (n - k) (cap - k))) g (sh ao cap k) (n - k) (cap - k) (l.drop k) ok :=
  ⟨World.cell?_setCell_same w _ _ h.c0, by rw [World.cell?_setCell_other _ _ _ _ (by simp)]; exact h.c1, by rw [World.frozen?_setCell]; exact h.f0, by rw [World.frozen?_setCell]; exact h.f1,
    (h.rd.sh cap k (by have := h.len; have := h.le; omega)).keep (Keep.setCell w ⟨g, 0, none⟩ _) (fun q hq hm => h.ap (by have := blk_sh ao cap k q hq; simp at hm; exact hm ▸ this)), by have := h.len; simp; omega, by have := h.le; omega, by have := h.max; omega, fun b hb => h.apart b (blk_sh ao cap k b hb)⟩
theorem InIs.beside {w : World} {g g2 o : Nat} {l : List Nat} {ok : Bool} (h : InIs w g l ok) (hg : g < g2) (v : Value) : InIs (w.setCell ⟨g2, o, none⟩ v) g l ok := by
  obtain ⟨ao, n, cap, ha⟩ := h
  have hne : ∀ j, (⟨g2, o, none⟩ : Addr) ≠ ⟨g, j, none⟩ := fun j e => by cases e; omega
  exact ⟨ao, n, cap, by rw [World.cell?_setCell_other _ _ _ _ (hne 0)]; exact ha.c0, by rw [World.cell?_setCell_other _ _ _ _ (hne 1)]; exact ha.c1, by rw [World.frozen?_setCell]; exact ha.f0, by rw [World.frozen?_setCell]; exact ha.f1,
    ha.rd.keep (Keep.setCell w ⟨g2, o, none⟩ v) (fun q hq hm => by have := ha.apart q hq; simp at hm; omega), ha.len, ha.le, ha.max, ha.apart⟩
/-- a number is read: it, what is left, whether it might be -/
def inNum (size most : Nat) (l : List Nat) (ok : Bool) : Nat × List Nat × Bool :=
  if ok = true ∧ size ≤ l.length then (unle (l.take size), l.drop size, decide (unle (l.take size) ≤ most)) else (0, l, false)
def Numbered (w : World) (g : Nat) (r : Nat × List Nat × Bool) (e : Ending) (w' : World) : Prop := e = .returned (.int .u64 (r.1 : Int)) ∧ InIs w' g r.2.1 r.2.2 ∧ Keep [g] w w'

theorem unle_cons_drop {m : List Nat} {p : Nat} (h : p < m.length) : unle (m.drop p) = bt m p + 256 * unle (m.drop (p + 1)) := by
  rw [List.drop_eq_getElem_cons h]
  have := bt_get h
  rw [List.getElem?_eq_getElem h] at this
  rw [Option.some.inj this]; rfl
theorem unle_drop_lt {m : List Nat} (hm : Bytes m) (h8 : m.length ≤ 8) {p : Nat} (hp : p < m.length) : 256 * unle (m.drop (p + 1)) + bt m p < 18446744073709551616 := by
  have h1 := unle_lt (m.drop p) (fun c hc => hm c (List.mem_of_mem_drop hc))
  rw [unle_cons_drop hp] at h1
  have h2 : (256 : Nat) ^ (m.drop p).length ≤ 256 ^ 8 := Nat.pow_le_pow_right (by omega) (by simp; omega)
  have h3 : (256 : Nat) ^ 8 = 18446744073709551616 := by decide
  omega

set_option maxHeartbeats 2000000 in
theorem innum_short (size most : Nat) (l : List Nat) (ok : Bool) (g : Nat) (hs : l.length < size) (h8 : size ≤ 8) (w : World) (h : InIs w g l ok) :
    Calls Tryz.prog 45 #[.pointer (some ⟨g, 0, none⟩), .int .i64 (size : Int), .int .u64 (most : Int)] w (Numbered w g (inNum size most l ok)) := by
  obtain ⟨ao, n, cap, ha⟩ := h
  have e : inNum size most l ok = (0, l, false) := by unfold inNum; rw [if_neg (by omega)]
  rw [e]
  have c0 := ha.c0
  have c1 := ha.c1
  have f1 := ha.f1
  have hd : decide (n < size) = true := decide_eq_true (by have := ha.len; omega)
  have HA := Lib.hid (ha.put false)
  clear ha e
  go_enter Tryz.func45, Tryz.ntmps45
  go_wp2_with fail
  go_ret
  exact ⟨rfl, ⟨ao, n, cap, HA.out⟩, Keep.setCell w ⟨g, 1, none⟩ (.bool false)⟩
set_option maxHeartbeats 2000000 in
theorem innum_not (size most : Nat) (l : List Nat) (g : Nat) (hs : size ≤ l.length) (h8 : size ≤ 8) (w : World) (h : InIs w g l false) :
    Calls Tryz.prog 45 #[.pointer (some ⟨g, 0, none⟩), .int .i64 (size : Int), .int .u64 (most : Int)] w (Numbered w g (inNum size most l false)) := by
  obtain ⟨ao, n, cap, ha⟩ := h
  have e : inNum size most l false = (0, l, false) := by unfold inNum; rw [if_neg (by simp)]
  rw [e]
  have c0 := ha.c0
  have c1 := ha.c1
  have hd : decide (n < size) = false := decide_eq_false (by have := ha.len; omega)
  have HA := Lib.hid ha
  clear ha e
  go_enter Tryz.func45, Tryz.ntmps45
  go_wp2_with fail
  go_ret
  exact ⟨rfl, ⟨ao, n, cap, HA.out⟩, Keep.refl _ _⟩
theorem wrap_sum (u b : Nat) (hb : b < 256) (h : 256 * u + b < 18446744073709551616) : IntKind.u64.wrap (IntKind.u64.wrap (256 * (u : Int)) + IntKind.u64.wrap (b : Int)) = ((b + 256 * u : Nat) : Int) := by
  show ((256 * (u : Int)) % 18446744073709551616 + (b : Int) % 18446744073709551616) % 18446744073709551616 = _
  omega
set_option maxRecDepth 100000 in
set_option maxHeartbeats 4000000 in
theorem innum_yes (size most : Nat) (l : List Nat) (g : Nat) (hs : size ≤ l.length) (h8 : size ≤ 8) (w : World) (h : InIs w g l true) :
    Calls Tryz.prog 45 #[.pointer (some ⟨g, 0, none⟩), .int .i64 (size : Int), .int .u64 (most : Int)] w (Numbered w g (inNum size most l true)) := by
  obtain ⟨ao, n, cap, ha⟩ := h
  have e : inNum size most l true = (unle (l.take size), l.drop size, decide (unle (l.take size) ≤ most)) := by unfold inNum; rw [if_pos ⟨rfl, hs⟩]
  rw [e]
  have c0 := ha.c0
  have c1 := ha.c1
  have f0 := ha.f0
  have f1 := ha.f1
  have hn : size ≤ n := by have := ha.len; omega
  have hd : decide (n < size) = false := decide_eq_false (by omega)
  have HA := Lib.hid ((ha.cut size hn).put (decide (unle (l.take size) ≤ most)))
  have HR := Lib.hid (ha.rd.take size)
  have HC := Lib.hid (run_cut2 w ao n cap size hn)
  have HL := Lib.hid (show (l.take size).length = size by rw [List.length_take]; omega)
  have HB := Lib.hid (show Bytes (l.take size) from ha.rd.lt |> fun hh => Bytes.take hh size)
  have hle := ha.le
  have hmx := ha.max
  unfold maxLen at hmx
  have H8 := Lib.hid h8
  have HKP := Lib.hid ((Keep.setCell w ⟨g, 0, none⟩ (.slice (sh ao cap size) (n - size) (cap - size))).trans (Keep.setCell _ ⟨g, 1, none⟩ (.bool (decide (unle (l.take size) ≤ most)))))
  clear ha e hs
  generalize l.take size = m at *
  generalize l.drop size = r at *
  go_enter Tryz.func45, Tryz.ntmps45
  go_wp2_with fail
  go_loop [7, 8] (fun v i => ∃ q : Nat, q ≤ size ∧ i = .int .i64 ((q : Int) - 1) ∧ v = .int .u64 (unle (m.drop q) : Nat)) (fun _ i => (intOf i + 1).toNat)
  case atStart => exact ⟨size, by omega, by go_num, by rw [List.drop_of_length_le (by rw [HL.out]; exact Nat.le_refl _)]; rfl⟩
  case round =>
    obtain ⟨q, hq, rfl, rfl⟩ := hrel
    by_cases hlt : 0 < q
    · obtain ⟨p, rfl⟩ : ∃ p, q = p + 1 := ⟨q - 1, by omega⟩
      have hpi : ((p + 1 : Nat) : Int) - 1 = (p : Int) := by omega
      rw [hpi]
      clear hpi
      obtain ⟨g2, o2, rfl, hg2, hc2⟩ := HR.out.at_ p (by rw [HL.out]; omega)
      have e1 := Lib.hid (unle_cons_drop (m := m) (p := p) (by rw [HL.out]; omega))
      have e2 := Lib.hid (unle_drop_lt HB.out (by rw [HL.out]; exact H8.out) (p := p) (by rw [HL.out]; omega))
      have hpn : p < n := by omega
      have HBT := Lib.hid (HR.out.byte p)
      go_wp2_with fail
      exact ⟨⟨p, by omega, rfl, by rw [wrap_sum _ _ HBT.out e2.out, e1.out]⟩, by first | (simp [intOf]; done) | (simp [intOf]; omega)⟩
    · obtain rfl : q = 0 := by omega
      go_wp2_with (refine wpList_value rfl _ (exec_slice (vx := .slice ao n cap) (lv := some (.int .i64 (size : Int))) (hv := none) 54 (.tmp 45) (some (.tmp 46)) none rfl rfl rfl rfl HC.out) ?_)
      go_ret
      exact ⟨rfl, ⟨_, _, _, HA.out⟩, HKP.out⟩
/-- a number is read -/
theorem innum_any (size most : Nat) (l : List Nat) (ok : Bool) (g : Nat) (h8 : size ≤ 8) (w : World) (h : InIs w g l ok) :
    Calls Tryz.prog 45 #[.pointer (some ⟨g, 0, none⟩), .int .i64 (size : Int), .int .u64 (most : Int)] w (Numbered w g (inNum size most l ok)) := by
  by_cases hs : size ≤ l.length
  · cases ok
    · exact innum_not size most l g hs h8 w h
    · exact innum_yes size most l g hs h8 w h
  · exact innum_short size most l ok g (by omega) h8 w h
end Go.Proofs.YtgifnhmnohojeaaGreatDoor
