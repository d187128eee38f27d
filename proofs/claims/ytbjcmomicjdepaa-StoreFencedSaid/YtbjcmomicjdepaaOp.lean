/- New, Open. -/
import Derived.Test.YtbjcmomicjdepaaDc
namespace Go.Proofs.Ytbjcmomicjdepaa
open Go.RowKit Go.Sort
set_option linter.unusedVariables false
set_option linter.unusedSimpArgs false
set_option linter.unusedSectionVars false
set_option maxRecDepth 100000
/-- a store without replicas -/
def NewR (w : World) (sb : Nat) : Prop := w.heap[sb]? = some (.cells #[.map none] 86 (0, 0))
theorem NewR.keep {w w' : World} {sb : Nat} {U : List Nat} (h : NewR w sb) (k : Keep U w w') (hn : sb ∉ U) : NewR w' sb := row_keep h k hn
theorem NewR.below {w w' : World} {sb : Nat} (h : NewR w sb) (k : Below w.heap.size w w') : NewR w' sb := row_keep h (Keep.of_below k []) (by simp)
theorem NewR.at0 {w : World} {sb : Nat} (h : NewR w sb) : w.cell? ⟨sb, 0, none⟩ = some (.map none) := cell_of_row w sb 0 _ _ (0, 0) h
theorem NewR.lt {w : World} {sb : Nat} (h : NewR w sb) : sb < w.heap.size := (Array.getElem?_eq_some_iff.1 h).1
theorem new_any (w : World) : Calls Try.prog 16 #[] w fun e w' => ∃ sb, e = .returned (.pointer (some ⟨sb, 0, none⟩)) ∧ NewR w' sb ∧ w.heap.size ≤ sb ∧ Below w.heap.size w w' := by
  have r0 := heap_alloc_new w (.cells #[.map none] 86)
  have HR := Lib.hid r0
  clear r0
  go_enter Try.func16, Try.ntmps16
  go_wp2_with fail
  go_ret
  exact ⟨_, rfl, HR.out, Nat.le_refl _, below_alloc (Below.refl _ _) _⟩
section
variable {w w' : World} {B sb gm b : Nat} {nm : Nm}
theorem look_none (nm : Nm) (h : nm.Ok) (w : World) : (Instr.lookup 84 (.map none) (.agg #[.int .i64 nm.b, .int .i64 nm.r]) true).run Try.prog w = .ok (.tuple #[.pointer none, .bool false]) w := by
  have hk := kNm.law.check w true (kNm.is h)
  have hz := zeroPt w
  simp only [Nm.ag, pag, Option.map_none] at hk hz
  rcases kNm.law.find w (kNm.is h) [] (by simp) with ⟨q1, _⟩ | ⟨j, e, q1, q2, _⟩
  · simp only [Nm.ag] at q1
    simp [Instr.lookup, run_underlying kNm.und, hz, hk, q1, Result.andThen]
  · simp at q2
set_option maxHeartbeats 1000000 in
theorem refusal_new (w : World) (h : NewR w sb) (hok : 0 ≤ nm.b ∧ nm.b < 64 ∧ 0 ≤ nm.r ∧ nm.r < 4) : Calls Try.prog 37 #[.pointer (some ⟨sb, 0, none⟩), .int .i64 nm.b, .int .i64 nm.r] w fun e w' => e = .returned (.int .i64 0) ∧ w = w' := by
  have P := Lib.hid (place_in nm.b nm.r hok.1 hok.2.1 hok.2.2.1 hok.2.2.2 w)
  have hl := look_none nm (nm_ok hok) w
  have a0 := h.at0
  clear h hok
  go_enter Try.func37, Try.ntmps37
  go_wp2_with fail
  refine P.out.mono ?_; rintro e w1 ⟨rfl, rfl⟩
  go_wp2_with fail
  go_ret
  exact ⟨rfl, rfl⟩
set_option maxHeartbeats 1000000 in
theorem refusal_nil (x y : Int) (w : World) : Calls Try.prog 37 #[.pointer none, .int .i64 x, .int .i64 y] w fun e w' => e = .returned (.int .i64 1) ∧ w = w' := by
  go_enter Try.func37, Try.ntmps37
  go_wp2_with fail
  go_ret
  exact ⟨rfl, rfl⟩
/-- a copy without entries -/
abbrev newC (st inc : Int) : Cp := ⟨st, inc, 0, [], [], 0, 0, 0, 0, []⟩
abbrev newS : Cs := ⟨⟨none, 0⟩, ⟨none, 0⟩, ⟨none, 0⟩, []⟩
section
variable {o : Oper} {a : Act} {K : Act → World → Prop} {Q : Exit → Act → World → Prop}
theorem wp_boxR (x : Operand) (ho : o.op = .box 92 x) {c : Cp} {s : Cs} {rep : Int} (hx : a.eval x = .agg ⟨rowL c s rep⟩) (h : ∀ w', w' = w.alloc (.cells ⟨rowL c s rep⟩ 92) → K (a.put o.dst (.pointer (some ⟨w.heap.size, 0, none⟩))) w') : o.wp Try.prog a w K Q := by
  have hrun : (execOp a.eval o).run Try.prog w = .ok (.value (.pointer (some ⟨w.heap.size, 0, none⟩))) (w.alloc (.cells ⟨rowL c s rep⟩ 92)) := by
    unfold execOp
    simp only [ho, hx]
    kernel_rfl
  unfold Oper.wp
  simp only [hrun, Oper.upon]
  exact h _ rfl
theorem wp_putR (m k v : Operand) (ho : o.op = .mapUpdate 84 m k v) {mv kv vv : Value} (hm : a.eval m = mv) (hk : a.eval k = kv) (hv : a.eval v = vv) (hr : (Instr.mapUpdate 84 mv kv vv).run Try.prog w = .ok () w') (h : K (a.put o.dst undef) w') : o.wp Try.prog a w K Q := by
  unfold Oper.wp execOp
  simp only [ho, hm, hk, hv, Sem.run_bind, Sem.run_pure, Result.andThen_ok, hr]
  exact h
end
theorem owns_nil (w : World) (B z : Nat) (e : TypeId) : w.ownsRow B e z (.slice none 0 0) 0 [] := World.ownsRow_nil _ _ _ _
theorem RowR.new (w : World) (st inc rep : Int) : RowR (w.alloc (.cells ⟨rowL (newC st inc) newS rep⟩ 92)) w.heap.size w.heap.size rep (newC st inc) newS where
  row := heap_alloc_new w _
  ll := rfl
  d := EsR.nil _
  fd := Fit.nil
  l := owns_nil _ _ _ _
  le := fun x hx => by simp at hx
  v := owns_nil _ _ _ _
  nd := by simp [Cs.mut, blk]
  ap := fun g hg => by simp [Cs.dat, blk] at hg
  bs := fun g hg => by simp [Cs.mut, Cs.dat, blk] at hg; omega
  lt := fun g hg => by simp [Cs.dat, blk] at hg
  few := by simp
  fev := by simp
theorem cp_size (c : Cp) (s : Cs) : (Try.prog.info? 42).map (·.size) = some (c.list s).length := by
  show _ = some 10
  kernel_rfl
/-- a copy in a block of its own -/
def CpB (w : World) (b : Nat) (c : Cp) (s : Cs) : Prop := w.heap[b]? = some (.cells ⟨c.list s⟩ 42 (0, 0))
theorem CpB.keep {c : Cp} {s : Cs} {U : List Nat} (h : CpB w b c s) (k : Keep U w w') (hn : b ∉ U) : CpB w' b c s := row_keep h k hn
theorem CpB.below {c : Cp} {s : Cs} (h : CpB w b c s) (k : Below w.heap.size w w') : CpB w' b c s := row_keep h (Keep.of_below k []) (by simp)
theorem CpB.lt {c : Cp} {s : Cs} (h : CpB w b c s) : b < w.heap.size := (Array.getElem?_eq_some_iff.1 h).1
theorem CpB.range {c : Cp} {s : Cs} (h : CpB w b c s) : w.rangeAt b 0 (c.list s) := fun j v hv => by
  rw [Nat.zero_add, cell_of_row w b j _ _ (0, 0) h]; simpa using hv
theorem CpB.c {c : Cp} {s : Cs} (h : CpB w b c s) (i : Nat) (v : Value) (hv : (c.list s)[i]? = some v) : w.cell? ⟨b, i, none⟩ = some v := by
  rw [cell_of_row w b i _ _ (0, 0) h]; simpa using hv
theorem CpB.fr {c : Cp} {s : Cs} (h : CpB w b c s) (i : Nat) : w.frozen? ⟨b, i, none⟩ = false := frozen_of_row w b i _ _ h
theorem CpB.there {c : Cp} {s : Cs} (h : CpB w b c s) : w.there b 0 10 := fun j hj => by
  rw [Nat.zero_add]
  refine ⟨?_, frozen_of_row w b j _ _ h⟩
  rw [cell_of_row w b j _ _ (0, 0) h]
  have : j < (Cp.list c s).length := hj
  simp [this]
  exact hj
theorem CpB.new (w : World) (c : Cp) (s : Cs) : CpB (w.alloc (.cells ⟨c.list s⟩ 42)) w.heap.size c s := heap_alloc_new w _
theorem CpB.load {c : Cp} {s : Cs} (h : CpB w b c s) : (loadVar 42 ⟨b, 0, none⟩).run Try.prog w = .ok (.agg ⟨c.list s⟩) w :=
  run_loadVar_mid w b 0 _ (c.list s) _ h.range Try.underlying42 rfl (cp_size c s)
theorem CpB.laid {c c0 : Cp} {s s0 : Cs} (h : CpB w b c0 s0) : CpB (w.setCells b 0 (c.list s)) b c s := by
  have := heap_lay b _ (c.list s) 0 w _ h
  rwa [lay_all _ _ (by rfl)] at this
theorem cp_ones (c : Cp) (s : Cs) : (Array.mk (c.list s)).all (·.oneCell') = true := by
  refine Array.all_eq_true_iff_forall_mem.2 fun v hv => ?_
  have hv : v ∈ c.list s := by simpa using hv
  simp only [Cp.list, List.mem_cons, List.not_mem_nil, or_false] at hv
  rcases hv with rfl | rfl | rfl | rfl | rfl | rfl | rfl | rfl | rfl | rfl <;> rfl
set_option maxHeartbeats 4000000 in
theorem add_new (w : World) (h : NewR w sb) (hok : 0 ≤ nm.b ∧ nm.b < 64 ∧ 0 ≤ nm.r ∧ nm.r < 4) (st inc : Int) : Calls Try.prog 38 #[.pointer (some ⟨sb, 0, none⟩), .int .i64 nm.b, .int .i64 nm.r, .agg ⟨(newC st inc).list newS⟩] w fun e w' =>
    e = .returned (.tuple #[]) ∧ ∃ gm b, StR w' sb sb gm b nm (newC st inc) newS ∧ Keep [sb] w w' := by
  obtain ⟨W, hW⟩ : ∃ W, W = w.alloc (.cells #[.int .i64 st, .int .u32 inc, .int .u32 0, .slice none 0 0, .slice none 0 0, .int .u32 0, .int .u32 0, .int .u32 0, .int .u32 0, .slice none 0 0] 42) := ⟨_, rfl⟩
  have bW : Below w.heap.size w W := by rw [hW]; exact below_alloc (Below.refl _ _) _
  have k1 : CpB W w.heap.size (newC st inc) newS := by rw [hW]; exact CpB.new w (newC st inc) newS
  have h1 := h.below bW
  have hsz : W.heap.size = w.heap.size + 1 := by rw [hW]; simp
  have HSZ := Lib.hid hsz
  have K1 := Lib.hid k1; have H1 := Lib.hid h1; have BW := Lib.hid bW
  have hlt := h.lt
  have a0 := h1.at0
  have f0 := frozen_of_row W sb 0 _ _ h1
  have HOK := Lib.hid hok
  have a1 : (W.alloc (.map #[] 0)).cell? ⟨sb, 0, none⟩ = some (.map none) := (h1.below (below_alloc (Below.refl _ _) _)).at0
  have f1 : (W.alloc (.map #[] 0)).frozen? ⟨sb, 0, none⟩ = false := frozen_of_row _ sb 0 _ _ (h1.below (below_alloc (Below.refl W.heap.size W) (.map #[] 0)))
  clear h bW k1 h1 hok hsz
  show Calls _ _ #[_, _, _, .agg #[.int .i64 st, .int .u32 inc, .int .u32 0, .slice none 0 0, .slice none 0 0, .int .u32 0, .int .u32 0, .int .u32 0, .int .u32 0, .slice none 0 0]] _ _
  have hmm := @run_makeMap Try.prog
  have heq : ∀ w, (binOp .eql 84 (.map none) (.map none)).run Try.prog w = .ok (.bool true) w := fun w => by kernel_rfl
  go_enter Try.func38, Try.ntmps38
  go_upto_region 1 with (fail)
  rw [← hW]
  clear hW
  generalize hbi : w.heap.size = bi at K1 hlt HSZ ⊢
  go_upto_region 3 with (fail)
  have b2 := below_alloc (Below.refl W.heap.size W) (.map #[] 0)
  have mm := MapK.made (kt := 109) (ag := Nm.ag) (Ok := Nm.Ok) (bg := pag) (z := none) W
  have k2 := Keep.setCell (W.alloc (.map #[] 0)) ⟨sb, 0, none⟩ (.map (some W.heap.size))
  have hsW : sb < W.heap.size := H1.out.lt
  have M2 := Lib.hid (mm.keep k2 (by simp; omega))
  have K2 := Lib.hid ((K1.out.below b2).keep k2 (by simp; omega))
  have R2 := Lib.hid ((heap_setCell_same _ sb 0 _ _ (.map (some W.heap.size)) (H1.out.below b2)).trans rfl)
  have KP := Lib.hid (((Keep.of_below BW.out [sb]).trans (Keep.of_below b2 [sb])).trans k2)
  clear mm k2 b2 a0 f0 a1 f1
  have HGM := Lib.hid (show (W.alloc (.map #[] 0)).heap.size = W.heap.size + 1 by simp)
  have HS2 := Lib.hid (show ((W.alloc (.map #[] 0)).setCell ⟨sb, 0, none⟩ (.map (some W.heap.size))).heap.size = W.heap.size + 1 by simp [World.setCell])
  generalize (W.alloc (.map #[] 0)).setCell ⟨sb, 0, none⟩ (.map (some W.heap.size)) = w2 at *
  generalize hgm : W.heap.size = gm at M2 R2 hsW HS2 HSZ ⊢
  have y0 := cell_of_row w2 sb 0 _ _ (0, 0) R2.out
  simp only [List.getElem?_toArray, List.setIfInBounds_toArray, List.set_cons_zero, List.getElem?_cons_zero] at y0
  refine wp_region_held_drew (S := fun w' => CpB w' bi (newC st inc) newS ∧ w'.cell? ⟨sb, 0, none⟩ = some (.map (some gm))) (by kernel_rfl) ⟨K2.out.below (Below.refl _ _).drew, by simpa using y0⟩ (fun s0 => ?_)
  have bd := (Below.refl w2.heap.size w2).drew
  have M3 := Lib.hid (M2.out.keep (Keep.of_below bd []) (by simp))
  have R3 := Lib.hid (row_keep R2.out (Keep.of_below bd []) (by simp))
  have KP3 := Lib.hid (KP.out.trans (Keep.of_below bd [sb]))
  have HS3 := Lib.hid (show w2.drew.heap.size = gm + 1 from by rw [← HS2.out]; rfl)
  clear bd y0 M2 R2 KP
  generalize w2.drew = wd at *
  refine wpAnyH_take (i := 0) (v := .pointer (some ⟨sb, 0, none⟩)) rfl (by kernel_rfl) (by kernel_rfl) (by kernel_rfl) (fun _ _ _ h => h) (Or.inl ⟨by rfl, fun w' hw' => by go_simp⟩) s0 ?_
  try simp only [Act.put, List.getElem_toArray, List.getElem_cons_succ, List.getElem_cons_zero, List.setIfInBounds_toArray, List.set_cons_zero, List.set_cons_succ, Nat.zero_add, List.nil_append]
  refine wpAnyH_take (i := 1) (v := .pointer (some ⟨sb, 0, none⟩)) rfl (by kernel_rfl) (by kernel_rfl) (by kernel_rfl) (fun _ _ _ h => h) (Or.inl ⟨by rfl, fun w' hw' => by go_simp⟩) s0 ?_
  try simp only [Act.put, List.getElem_toArray, List.getElem_cons_succ, List.getElem_cons_zero, List.setIfInBounds_toArray, List.set_cons_zero, List.set_cons_succ, Nat.zero_add, List.nil_append]
  refine wpAnyH_take (i := 2) (v := .pointer (some ⟨sb, 0, none⟩)) rfl (by kernel_rfl) (by kernel_rfl) (by kernel_rfl) (fun _ _ _ h => h) (Or.inl ⟨by rfl, fun w' hw' => by go_simp⟩) s0 ?_
  try simp only [Act.put, List.getElem_toArray, List.getElem_cons_succ, List.getElem_cons_zero, List.setIfInBounds_toArray, List.set_cons_zero, List.set_cons_succ, Nat.zero_add, List.nil_append]
  refine wpAnyH_take (i := 3) (v := .map (some gm)) rfl (by kernel_rfl) (by kernel_rfl) (by kernel_rfl) (fun _ _ _ h => h) (Or.inl ⟨by rfl, fun w' hw' => by have q0 := hw'.2; go_simp⟩) s0 ?_
  try simp only [Act.put, List.getElem_toArray, List.getElem_cons_succ, List.getElem_cons_zero, List.setIfInBounds_toArray, List.set_cons_zero, List.set_cons_succ, Nat.zero_add, List.nil_append]
  refine wpAnyH_take (i := 4) (v := .int .i64 nm.b) rfl (by kernel_rfl) (by kernel_rfl) (by kernel_rfl) (fun _ _ _ h => h) (Or.inl ⟨by rfl, fun w' hw' => by go_simp⟩) s0 ?_
  try simp only [Act.put, List.getElem_toArray, List.getElem_cons_succ, List.getElem_cons_zero, List.setIfInBounds_toArray, List.set_cons_zero, List.set_cons_succ, Nat.zero_add, List.nil_append]
  refine wpAnyH_take (i := 5) (v := .int .i64 nm.r) rfl (by kernel_rfl) (by kernel_rfl) (by kernel_rfl) (fun _ _ _ h => h) (Or.inl ⟨by rfl, fun w' hw' => by go_simp⟩) s0 ?_
  try simp only [Act.put, List.getElem_toArray, List.getElem_cons_succ, List.getElem_cons_zero, List.setIfInBounds_toArray, List.set_cons_zero, List.set_cons_succ, Nat.zero_add, List.nil_append]
  refine wpAnyH_take (i := 6) (v := .agg #[.int .i64 nm.b, .int .i64 nm.r]) rfl (by kernel_rfl) (by kernel_rfl) (by kernel_rfl) (fun _ _ _ h => h) (Or.inl ⟨by rfl, fun w' hw' => by go_simp⟩) s0 ?_
  try simp only [Act.put, List.getElem_toArray, List.getElem_cons_succ, List.getElem_cons_zero, List.setIfInBounds_toArray, List.set_cons_zero, List.set_cons_succ, Nat.zero_add, List.nil_append]
  refine wpAnyH_take (i := 7) (v := .agg ((newC st inc).list newS).toArray) rfl (by kernel_rfl) (by kernel_rfl) (by kernel_rfl) (fun _ _ _ h => h) (yieldsIf_load_mid (by rfl) 42 (.tmp 7) rfl bi 0 rfl ((newC st inc).list newS) _ (fun w hw => CpB.range hw.1) Try.underlying42 rfl (cp_size _ _)) s0 ?_
  try simp only [Act.put, List.getElem_toArray, List.getElem_cons_succ, List.getElem_cons_zero, List.setIfInBounds_toArray, List.set_cons_zero, List.set_cons_succ, Nat.zero_add, List.nil_append]
  refine wpAnyH_take (i := 8) (v := .int .i64 nm.r) rfl (by kernel_rfl) (by kernel_rfl) (by kernel_rfl) (fun _ _ _ h => h) (Or.inl ⟨by rfl, fun w' hw' => by go_simp⟩) s0 ?_
  try simp only [Act.put, List.getElem_toArray, List.getElem_cons_succ, List.getElem_cons_zero, List.setIfInBounds_toArray, List.set_cons_zero, List.set_cons_succ, Nat.zero_add, List.nil_append]
  refine wpAnyH_take (i := 9) (v := .agg ⟨rowL (newC st inc) newS nm.r⟩) rfl (by kernel_rfl) (by kernel_rfl) (by kernel_rfl) (fun _ _ _ h => h) (Or.inl ⟨by rfl, fun w' hw' => by kernel_rfl⟩) s0 ?_
  try simp only [Act.put, List.getElem_toArray, List.getElem_cons_succ, List.getElem_cons_zero, List.setIfInBounds_toArray, List.set_cons_zero, List.set_cons_succ, Nat.zero_add, List.nil_append]
  refine wpAnyH_ready (rs := [10]) (by kernel_rfl) (by simp) ?_
  refine AllReadyH.cons rfl (fun K hK => ?_) AllReadyH.nil
  rw [if_pos (by rfl)]
  refine wp_boxR (.tmp 26) rfl (c := newC st inc) (s := newS) (rep := nm.r) rfl ?_
  intro w3 hw3
  have b3 : Below wd.heap.size wd w3 := by rw [hw3]; exact below_alloc (Below.refl _ _) _
  have r3 : RowR w3 wd.heap.size wd.heap.size nm.r (newC st inc) newS := by rw [hw3]; exact RowR.new wd st inc nm.r
  clear hw3
  have s3 : CpB w3 bi (newC st inc) newS ∧ w3.cell? ⟨sb, 0, none⟩ = some (.map (some gm)) := ⟨s0.1.below b3, (b3.cell (p := ⟨sb, 0, none⟩) (by have := HS3.out; simp; omega)).trans s0.2⟩
  have M4 := Lib.hid (M3.out.keep (Keep.of_below b3 []) (by simp))
  have R4 := Lib.hid (row_keep R3.out (Keep.of_below b3 []) (by simp))
  have KP4 := Lib.hid (KP3.out.trans (Keep.of_below b3 [sb]))
  have HR3 := Lib.hid r3
  clear b3 r3
  generalize hb : wd.heap.size = b at HR3 HS3 ⊢
  refine hK.out _ _ s3 (fun _ => ?_)
  clear hK K
  try simp only [Act.put, List.getElem_toArray, List.getElem_cons_succ, List.getElem_cons_zero, List.setIfInBounds_toArray, List.set_cons_zero, List.set_cons_succ, Nat.zero_add, List.nil_append]
  refine wpAnyH_ready (rs := [11]) (by kernel_rfl) (by simp) ?_
  refine AllReadyH.cons rfl (fun K hK => ?_) AllReadyH.nil
  rw [if_pos (by rfl)]
  obtain ⟨w5, hr, m5, k5⟩ := M4.out.put kNm nm (some b) (nm_ok HOK.out) (by omega)
  refine wp_putR (.tmp 20) (.tmp 23) (.tmp 27) rfl rfl rfl rfl hr ?_
  have s5 : CpB w5 bi (newC st inc) newS ∧ w5.cell? ⟨sb, 0, none⟩ = some (.map (some gm)) := ⟨s3.1.keep k5 (by have := HSZ.out; simp; omega), (k5.cell (a := ⟨sb, 0, none⟩) (Array.getElem?_eq_some_iff.1 R4.out).1 (by simp; omega)).trans s3.2⟩
  refine hK.out _ _ s5 (fun _ => ?_)
  clear hK K
  try simp only [Act.put, List.getElem_toArray, List.getElem_cons_succ, List.getElem_cons_zero, List.setIfInBounds_toArray, List.set_cons_zero, List.set_cons_succ, Nat.zero_add, List.nil_append]
  refine wpAnyH_done (by kernel_rfl) ?_ _
  have hgs : gm < w3.heap.size := M4.out.lt
  have hbg : b ≠ gm := by have := HS3.out; omega
  have R5 := Lib.hid (row_keep R4.out k5 (by simp; omega))
  have HR5 := Lib.hid (HR3.out.keep k5 (fun g hg => by simp [Cs.mut, Cs.dat, blk] at hg; subst hg; simpa using hbg))
  have KP5 := Lib.hid (KP4.out.cut k5 (fun q hq => by simp at hq; subst hq; right; have := HSZ.out; rw [← hbi] at this; omega))
  have M5 := Lib.hid m5
  clear s0 s3 s5 hr m5 k5
  go_wp2_with fail
  go_end0
  have hbs := HS3.out
  refine ⟨rfl, gm, b, ⟨R5.out, ?_, ?_, by omega, ?_, Nat.le_refl _, by omega, HOK.out⟩, KP5.out⟩
  · have := M5.out
    simp only [Option.isSome_none, Bool.false_eq_true, if_false, Nat.zero_add] at this
    exact this.ext fun i _ => by simp [onlyF, up]
  · have r := HR5.out
    exact ⟨r.row, r.ll, r.d, r.fd, owns_base r.l (by omega), r.le, owns_base r.v (by omega), r.nd, r.ap, fun g hg => by have := r.bs g hg; omega, r.lt, r.few, r.fev⟩
  · intro g hg
    simp [Cs.mut, Cs.dat, blk] at hg
    subst hg
    exact ⟨by omega, by omega⟩
end
end Go.Proofs.Ytbjcmomicjdepaa
