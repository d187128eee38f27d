/- Close. -/
import Derived.Test.YtjhdlohcjodgjaaClose
namespace Go.Proofs.Ytjhdlohcjodgjaa
open Go.RowKit
set_option linter.unusedVariables false

theorem neq_nil (pb : Nat) (w : World) : (binOp .neq 72 (errV pb) .nilIface).run Try.prog w = .ok (.bool true) w := by
  have h : ∀ d : Nat, (Op.equalIn (d + 1) 72 (errV pb) .nilIface).run Try.prog w = .ok false w := fun d => by simp [Op.equalIn, run_underlying Try.underlying72]
  simp only [binOp]
  simp [Op.equal, Op.maxDepth, h 9999]
theorem eql_nil (pb : Nat) (w : World) : (binOp .eql 72 (errV pb) .nilIface).run Try.prog w = .ok (.bool false) w := by
  have h : ∀ d : Nat, (Op.equalIn (d + 1) 72 (errV pb) .nilIface).run Try.prog w = .ok false w := fun d => by simp [Op.equalIn, run_underlying Try.underlying72]
  simp only [binOp]
  simp [Op.equal, Op.maxDepth, h 9999]
/-- delete(m, id) -/
theorem wpList_del {w w' : World} {ops : Array Oper} {rest : List Oper} {o : Oper} {a : Act} {Q : Exit → Act → World → Prop} (hgd : o.guard = none) (m k : Operand)
    (ho : o.op = .call { callee := .builtin .delete, args := #[m, k], argTypes := #[86, 29] }) {gm id : Nat} (hm : a.eval m = .map (some gm)) (hk : a.eval k = .int .u64 (id : Int))
    (hr : (Builtin.delete_ #[86, 29] o.type #[.map (some gm), .int .u64 (id : Int)]).run Try.prog w = .ok (.tuple #[]) w') (h : wpList Try.prog ops Q rest (a.put o.dst (.tuple #[])) w') : wpList Try.prog ops Q (o :: rest) a w := by
  refine wpList_plain hgd fun K hK => ?_
  unfold Oper.wp execOp
  simp only [ho, resolve, invoke, builtin, Sem.run_bind, Sem.run_pure, Result.andThen_ok, List.map_toArray, List.map_cons, List.map_nil, hm, hk, hr]
  exact hK _ _ h
/-- a block of five cells -/
abbrev Row5 (w : World) (bx : Nat) (c0 c1 c2 c3 c4 : Value) : Prop := w.heap[bx]? = some (.cells #[c0, c1, c2, c3, c4] 70 (0, 0))
theorem Row5.all {w : World} {bx : Nat} {c0 c1 c2 c3 c4 : Value} (h : Row5 w bx c0 c1 c2 c3 c4) : w.cell? ⟨bx, 0, none⟩ = some c0 ∧ w.cell? ⟨bx, 1, none⟩ = some c1 ∧ w.cell? ⟨bx, 2, none⟩ = some c2 ∧ w.cell? ⟨bx, 3, none⟩ = some c3 ∧ w.cell? ⟨bx, 4, none⟩ = some c4 ∧
    w.frozen? ⟨bx, 0, none⟩ = false ∧ w.frozen? ⟨bx, 1, none⟩ = false ∧ w.frozen? ⟨bx, 2, none⟩ = false ∧ w.frozen? ⟨bx, 3, none⟩ = false ∧ w.frozen? ⟨bx, 4, none⟩ = false ∧ bx < w.heap.size :=
  ⟨cell_of_row w bx 0 _ _ (0, 0) h, cell_of_row w bx 1 _ _ (0, 0) h, cell_of_row w bx 2 _ _ (0, 0) h, cell_of_row w bx 3 _ _ (0, 0) h, cell_of_row w bx 4 _ _ (0, 0) h, frozen_of_row w bx 0 _ _ h, frozen_of_row w bx 1 _ _ h, frozen_of_row w bx 2 _ _ h, frozen_of_row w bx 3 _ _ h, frozen_of_row w bx 4 _ _ h, (Array.getElem?_eq_some_iff.1 h).1⟩
theorem Row5.below {w w' : World} {bx : Nat} {c0 c1 c2 c3 c4 : Value} (h : Row5 w bx c0 c1 c2 c3 c4) (b : Below w.heap.size w w') : Row5 w' bx c0 c1 c2 c3 c4 := (b.block bx (Array.getElem?_eq_some_iff.1 h).1).trans h
theorem Row5.keep {w w' : World} {bx : Nat} {c0 c1 c2 c3 c4 : Value} {T : List Nat} (h : Row5 w bx c0 c1 c2 c3 c4) (k : Keep T w w') (hn : bx ∉ T) : Row5 w' bx c0 c1 c2 c3 c4 := (k.block bx (Array.getElem?_eq_some_iff.1 h).1 hn).trans h
theorem Row5.new (w : World) (c0 c1 c2 c3 c4 : Value) : Row5 (w.alloc (.cells #[c0, c1, c2, c3, c4] 70)) w.heap.size c0 c1 c2 c3 c4 := heap_alloc_new w _
abbrev lay5 (w : World) (bx : Nat) (c0 c1 c2 c3 c4 : Value) : World := ((((w.setCell ⟨bx, 0, none⟩ c0).setCell ⟨bx, 1, none⟩ c1).setCell ⟨bx, 2, none⟩ c2).setCell ⟨bx, 3, none⟩ c3).setCell ⟨bx, 4, none⟩ c4
theorem lay5_keep (w : World) (bx : Nat) (c0 c1 c2 c3 c4 : Value) : Keep [bx] w (lay5 w bx c0 c1 c2 c3 c4) :=
  ((((Keep.setCell w ⟨bx, 0, none⟩ c0).trans (Keep.setCell _ ⟨bx, 1, none⟩ c1)).trans (Keep.setCell _ ⟨bx, 2, none⟩ c2)).trans (Keep.setCell _ ⟨bx, 3, none⟩ c3)).trans (Keep.setCell _ ⟨bx, 4, none⟩ c4)
theorem ErrAt.keep {w w' : World} {pb : Nat} {x : Int} {T : List Nat} (h : ErrAt w pb x) (k : Keep T w w') (hn : pb ∉ T) : ErrAt w' pb x :=
  ⟨(k.cell h.lt (by simpa using hn)).trans h.num, (k.cell h.lt (by simpa using hn)).trans h.txt, Nat.lt_of_lt_of_le h.lt k.size⟩
section
variable {B hn gm made : Nat} {S : List Cal} {C : Cfg}
/-- the block of a zero call -/
abbrev zobj : Obj := .cells zcells 70
set_option maxRecDepth 100000 in
set_option maxHeartbeats 2000000 in
theorem close_nil (id : Int) (w : World) : Calls Try.prog 25 #[.pointer none, .int .u64 id] w (Failed zpk 1 w) := by
  have HQ := neq_nil
  have b0 := below_alloc (Below.refl w.heap.size w) zobj
  have B0 := Lib.hid b0
  have R0 := Lib.hid (Row5.new w (.int .u64 0) (.int .i64 0) (.int .i64 0) (.int .i64 0) (.int .i64 0))
  have FI := Lib.hid (find_nil id (w.alloc zobj))
  clear b0
  go_enter Try.func25, Try.ntmps25
  go_wp2_with fail
  refine FI.out.mono ?_; rintro e w1 ⟨pb, rfl, hE, hpn, b1⟩
  have hpw : pb ≠ w.heap.size := by simp at hpn; omega
  have bb := below_alloc (Below.refl w1.heap.size w1) zobj
  have hE1 := hE.below bb
  have HE := Lib.hid hE
  have HB1 := Lib.hid (below_next B0.out b1)
  have HPW := Lib.hid hpw
  have hpl := hE.lt
  have IS := Lib.hid (is_fault pb 1 82 (w1.alloc zobj) hE1.num)
  rw [show decide ((1 : Int) = 82) = false by decide] at IS
  have r1 := R0.out.below b1
  have HGE := Lib.hid (show w.heap.size ≤ pb by simp at hpn; omega)
  obtain ⟨c0, c1, c2, c3, c4, f0, f1, f2, f3, f4, hlt⟩ := r1.all
  clear r1 b1 bb hE hE1 R0 B0 FI hpn hpw
  go_wp2_with fail
  refine IS.out.mono ?_; rintro e w2 ⟨rfl, rfl⟩
  go_wp2_with fail
  have k := lay5_keep w1 w.heap.size (.int .u64 0) (.int .i64 0) (.int .i64 0) (.int .i64 0) (.int .i64 0)
  have E3 := (HE.out.keep k (by simpa using HPW.out)).below (below_alloc (Below.refl _ _) zobj)
  have B3 := (HB1.out.trans (k.below (Nat.le_of_lt hlt) (by simp))).alloc (by have := HB1.out.size; have := k.size; omega) zobj
  refine bodyPost_ret (v := .tuple #[zpk, errV pb]) (results_cell_tmp Try.results25 rfl ?_ rfl) rfl ⟨pb, rfl, E3, ?_, B3⟩
  · go_simp
  · have := HB1.out.size; have := HPW.out; have := HGE.out; omega
set_option maxRecDepth 100000 in
set_option maxHeartbeats 2000000 in
theorem close_none (id : Nat) (hid : id < 18446744073709551616) (w : World) (h : CalsW w B hn gm S C made) (hl : look S id = none) (hr : id < 1 ∨ made < id) : Calls Try.prog 25 #[.pointer (some ⟨hn, 0, none⟩), .int .u64 (id : Int)] w (Failed zpk 82 w) := by
  have HQ := neq_nil
  have b0 := below_alloc (Below.refl w.heap.size w) zobj
  have B0 := Lib.hid b0
  have R0 := Lib.hid (Row5.new w (.int .u64 0) (.int .i64 0) (.int .i64 0) (.int .i64 0) (.int .i64 0))
  have FI := Lib.hid (find_none id hid (w.alloc zobj) (h.below b0) hl)
  have h4 := h.at_ 4
  simp only [rowC, List.getElem?_toArray, List.getElem?_cons_succ, List.getElem?_cons_zero] at h4
  have hlt0 := h.hlt
  have hmb := h.big
  clear b0
  go_enter Try.func25, Try.ntmps25
  go_wp2_with fail
  refine FI.out.mono ?_; rintro e w1 ⟨pb, rfl, hE, hpn, b1⟩
  have hpw : pb ≠ w.heap.size := by simp at hpn; omega
  have bb := below_alloc (Below.refl w1.heap.size w1) zobj
  have hE1 := hE.below bb
  have HE := Lib.hid hE
  have HB1 := Lib.hid (below_next B0.out b1)
  have HPW := Lib.hid hpw
  have hpl := hE.lt
  have IS := Lib.hid (is_fault pb 82 82 (w1.alloc zobj) hE1.num)
  rw [show decide ((82 : Int) = 82) = true by decide] at IS
  have r1 := R0.out.below b1
  have HGE := Lib.hid (show w.heap.size ≤ pb by simp at hpn; omega)
  have d4 : w1.cell? ⟨hn, 4, none⟩ = some (.int .u64 (made : Int)) := (b1.cell (p := ⟨hn, 4, none⟩) (by simp; omega)).trans (((below_alloc (Below.refl w.heap.size w) zobj).cell hlt0).trans h4)
  have hl1 : hn < w1.heap.size := by have := b1.size; simp at this; omega
  clear h hl h4
  rcases hr with hr | hr
  · obtain ⟨c0, c1, c2, c3, c4, f0, f1, f2, f3, f4, hlt⟩ := r1.all
    clear r1 b1 bb hE hE1 R0 B0 FI hpn hpw
    go_wp2_with fail
    refine IS.out.mono ?_; rintro e w2 ⟨rfl, rfl⟩
    go_wp2_with fail
    have k := lay5_keep w1 w.heap.size (.int .u64 0) (.int .i64 0) (.int .i64 0) (.int .i64 0) (.int .i64 0)
    have E3 := (HE.out.keep k (by simpa using HPW.out)).below (below_alloc (Below.refl _ _) zobj)
    have B3 := (HB1.out.trans (k.below (Nat.le_of_lt hlt) (by simp))).alloc (by have := HB1.out.size; have := k.size; omega) zobj
    refine bodyPost_ret (v := .tuple #[zpk, errV pb]) (results_cell_tmp Try.results25 rfl ?_ rfl) rfl ⟨pb, rfl, E3, ?_, B3⟩
    · go_simp
    · have := HB1.out.size; have := HPW.out; have := HGE.out; omega
  · obtain ⟨c0, c1, c2, c3, c4, f0, f1, f2, f3, f4, hlt⟩ := r1.all
    clear r1 b1 bb hE hE1 R0 B0 FI hpn hpw
    go_wp2_with fail
    refine IS.out.mono ?_; rintro e w2 ⟨rfl, rfl⟩
    go_wp2_with fail
    have k := lay5_keep w1 w.heap.size (.int .u64 0) (.int .i64 0) (.int .i64 0) (.int .i64 0) (.int .i64 0)
    have E3 := (HE.out.keep k (by simpa using HPW.out)).below (below_alloc (Below.refl _ _) zobj)
    have B3 := (HB1.out.trans (k.below (Nat.le_of_lt hlt) (by simp))).alloc (by have := HB1.out.size; have := k.size; omega) zobj
    refine bodyPost_ret (v := .tuple #[zpk, errV pb]) (results_cell_tmp Try.results25 rfl ?_ rfl) rfl ⟨pb, rfl, E3, ?_, B3⟩
    · go_simp
    · have := HB1.out.size; have := HPW.out; have := HGE.out; omega
set_option maxRecDepth 100000 in
set_option maxHeartbeats 2000000 in
theorem close_gone (id : Nat) (hid : id < 18446744073709551616) (w : World) (h : CalsW w B hn gm S C made) (hl : look S id = none) (hr : 1 ≤ id) (hr2 : id ≤ made) : Calls Try.prog 25 #[.pointer (some ⟨hn, 0, none⟩), .int .u64 (id : Int)] w (Failed zpk 83 w) := by
  have HQ := neq_nil
  have b0 := below_alloc (Below.refl w.heap.size w) zobj
  have B0 := Lib.hid b0
  have R0 := Lib.hid (Row5.new w (.int .u64 0) (.int .i64 0) (.int .i64 0) (.int .i64 0) (.int .i64 0))
  have FI := Lib.hid (find_none id hid (w.alloc zobj) (h.below b0) hl)
  have h4 := h.at_ 4
  simp only [rowC, List.getElem?_toArray, List.getElem?_cons_succ, List.getElem?_cons_zero] at h4
  have hlt0 := h.hlt
  have hmb := h.big
  clear b0
  go_enter Try.func25, Try.ntmps25
  go_wp2_with fail
  refine FI.out.mono ?_; rintro e w1 ⟨pb, rfl, hE, hpn, b1⟩
  have hpw : pb ≠ w.heap.size := by simp at hpn; omega
  have bb := below_alloc (Below.refl w1.heap.size w1) zobj
  have hE1 := hE.below bb
  have HE := Lib.hid hE
  have HB1 := Lib.hid (below_next B0.out b1)
  have HPW := Lib.hid hpw
  have hpl := hE.lt
  have IS := Lib.hid (is_fault pb 82 82 (w1.alloc zobj) hE1.num)
  rw [show decide ((82 : Int) = 82) = true by decide] at IS
  have r1 := R0.out.below b1
  have HGE := Lib.hid (show w.heap.size ≤ pb by simp at hpn; omega)
  have d4 : w1.cell? ⟨hn, 4, none⟩ = some (.int .u64 (made : Int)) := (b1.cell (p := ⟨hn, 4, none⟩) (by simp; omega)).trans (((below_alloc (Below.refl w.heap.size w) zobj).cell hlt0).trans h4)
  have hl1 : hn < w1.heap.size := by have := b1.size; simp at this; omega
  clear h hl h4
  obtain ⟨c0, c1, c2, c3, c4, f0, f1, f2, f3, f4, hlt⟩ := r1.all
  clear r1 b1 bb hE hE1 R0 B0 FI hpn hpw
  go_wp2_with fail
  refine IS.out.mono ?_; rintro e w2 ⟨rfl, rfl⟩
  go_wp2_with fail
  refine (fault_any _ _).mono ?_; rintro e w2 ⟨rfl, hw2⟩
  subst hw2
  go_wp2_with fail
  have k := lay5_keep w1 w.heap.size (.int .u64 0) (.int .i64 0) (.int .i64 0) (.int .i64 0) (.int .i64 0)
  have e1 : (lay5 w1 w.heap.size (.int .u64 0) (.int .i64 0) (.int .i64 0) (.int .i64 0) (.int .i64 0)).heap.size = w1.heap.size := by simp [World.setCell]
  have E3 := ErrAt.new ((lay5 w1 w.heap.size (.int .u64 0) (.int .i64 0) (.int .i64 0) (.int .i64 0) (.int .i64 0)).alloc zobj) 83
  have B3 := ((HB1.out.trans (k.below (Nat.le_of_lt hlt) (by simp))).alloc (by have := HB1.out.size; have := k.size; omega) zobj).alloc (by have := HB1.out.size; have := k.size; simp; omega) (.cells #[.int .i64 83, callS] 101)
  rw [show ((lay5 w1 w.heap.size (.int .u64 0) (.int .i64 0) (.int .i64 0) (.int .i64 0) (.int .i64 0)).alloc zobj).heap.size = (w1.alloc zobj).heap.size by simp [World.setCell]] at E3
  refine bodyPost_ret (v := .tuple #[zpk, errV (w1.alloc zobj).heap.size]) (results_cell_tmp Try.results25 rfl ?_ (by simp)) rfl ⟨(w1.alloc zobj).heap.size, rfl, E3, ?_, B3⟩
  · go_simp
  · have := HB1.out.size; simp; omega
set_option maxRecDepth 100000 in
set_option maxHeartbeats 2000000 in
theorem close_yes (id : Nat) (hid : id < 18446744073709551616) (w : World) (h : CalsW w B hn gm S C made) {p : Cal} (hl : look S id = some p) : Calls Try.prog 25 #[.pointer (some ⟨hn, 0, none⟩), .int .u64 (id : Int)] w fun e w' =>
    e = .returned (.tuple #[agv p, .nilIface]) ∧ CalsW w' B hn gm (wo S id) C made ∧ Keep [gm] w w' := by
  have HQ : ∀ w, (binOp .neq 72 .nilIface .nilIface).run Try.prog w = .ok (.bool false) w := fun w => by
    have h : ∀ d : Nat, (Op.equalIn (d + 1) 72 .nilIface .nilIface).run Try.prog w = .ok true w := fun d => by simp [Op.equalIn, run_underlying Try.underlying72]
    simp only [binOp]
    simp [Op.equal, Op.maxDepth, h 9999]
  have b0 := below_alloc (Below.refl w.heap.size w) zobj
  have B0 := Lib.hid b0
  have R0 := Lib.hid (Row5.new w (.int .u64 0) (.int .i64 0) (.int .i64 0) (.int .i64 0) (.int .i64 0))
  have FI := Lib.hid (find_some id hid (w.alloc zobj) (h.below b0) hl)
  have hlts := h.lts
  have H := Lib.hid h; have HL := Lib.hid hl
  obtain ⟨i, t, s, tr, d⟩ := p
  clear b0 h hl
  go_enter Try.func25, Try.ntmps25
  go_wp2_with fail
  refine FI.out.mono ?_; rintro e w1 ⟨rfl, b1⟩
  have bb := below_alloc (Below.refl w1.heap.size w1) (boxc ⟨i, t, s, tr, d⟩)
  have HB1 := Lib.hid (below_next B0.out b1)
  have hs1 : w.heap.size < w1.heap.size := by have := b1.size; simp at this; omega
  have h2 := H.out.below (below_next HB1.out bb)
  have h5 := h2.at_ 5
  simp only [rowC, List.getElem?_toArray, List.getElem?_cons_succ, List.getElem?_cons_zero] at h5
  have hnb := Lib.hid (And.intro hlts.1 hlts.2)
  have d5 : w1.cell? ⟨hn, 5, none⟩ = some (.map (some gm)) := by
    have e := (bb.cell (p := ⟨hn, 5, none⟩) (Nat.lt_trans hlts.1 hs1))
    exact e.symm.trans h5
  have hl1 : hn < w1.heap.size := by omega
  obtain ⟨w3, hr, h3, k3⟩ := h2.del HL.out 0
  have r1 := (R0.out.below b1).below bb
  have q1 := Row5.new w1 (.int .u64 (i : Int)) (.int .i64 t) (.int .i64 (s : Int)) (.int .i64 (tr : Int)) (.int .i64 (d : Int))
  have r3 := r1.keep k3 (by simp; omega)
  have q3 := q1.keep k3 (by simp; omega)
  obtain ⟨c0, c1, c2, c3, c4, f0, f1, f2, f3, f4, hlt⟩ := r3.all
  obtain ⟨e0, e1, e2, e3, e4, g0, g1, g2, g3, g4, hlt2⟩ := q3.all
  have HR := Lib.hid hr; have H3 := Lib.hid h3; have K3 := Lib.hid k3; have BB := Lib.hid bb
  clear r1 b1 bb R0 B0 FI h2 h5 hr h3 k3 r3 q1 q3 hlts
  have IS := Lib.hid (is_nil 82 (w1.alloc (boxc ⟨i, t, s, tr, d⟩)))
  go_wp2_with (first | (go_at_call 42; refine IS.out.mono ?_; rintro e w2 ⟨rfl, rfl⟩) | (at_delete; refine wpList_del rfl (.tmp 37) (.tmp 38) rfl rfl rfl HR.out ?_))
  have k5 := lay5_keep w3 w.heap.size (.int .u64 (i : Int)) (.int .i64 t) (.int .i64 (s : Int)) (.int .i64 (tr : Int)) (.int .i64 (d : Int))
  have hb := hnb.out
  refine bodyPost_ret (v := .tuple #[.agg #[.int .u64 (i : Int), .int .i64 t, .int .i64 (s : Int), .int .i64 (tr : Int), .int .i64 (d : Int)], .nilIface]) (results_cell_tmp Try.results25 rfl ?_ rfl) rfl ⟨rfl, H3.out.keep k5 (by simp; omega) (by simp; omega), ?_⟩
  · go_simp
  · have ka := (Keep.of_below (below_next HB1.out BB.out) [w.heap.size, gm]).trans (K3.out.mono (by simp))
    exact (ka.trans (k5.mono (by simp))).mono fun q hq => by
      rcases List.mem_cons.1 hq with rfl | hq
      · exact .inr (Nat.le_refl _)
      · exact .inl hq
end
end Go.Proofs.Ytjhdlohcjodgjaa
