/- Read; lock; the live question. -/
import Derived.Test.YtbjcmomicjdepaaEx
namespace Go.Proofs.Ytbjcmomicjdepaa
open Go.RowKit Go.Sort
set_option linter.unusedVariables false
set_option linter.unusedSimpArgs false
set_option linter.unusedSectionVars false
set_option maxRecDepth 100000
/-- the lock that a law asks with -/
abbrev ask (tx ver : Int) (wt : Bool) (i0 i1 i2 i3 : Int) : Lk := ⟨tx, 0, 1, 2, ⟨0, ver, wt, [], i0, i1, i2, i3⟩⟩
set_option maxHeartbeats 2000000 in
theorem lock_any (tx ver : Int) (wt : Bool) (i0 i1 i2 i3 : Int) : Ret 31 #[.int .u64 tx, .int .u32 ver, .bool wt, .agg #[.int .u32 i0, .int .u32 i1, .int .u32 i2, .int .u32 i3]] (.returned ((ask tx ver wt i0 i1 i2 i3).ag ⟨none, 0⟩)) := by
  intro w
  obtain ⟨W, hW⟩ : ∃ W, W = (w.alloc (.cells #[.int .u32 i0, .int .u32 i1, .int .u32 i2, .int .u32 i3] 24)).alloc (.cells zL 38) := ⟨_, rfl⟩
  have bW : Below w.heap.size w W := by rw [hW]; exact below_alloc (below_alloc (Below.refl _ _) _) _
  have k2 : LkB W (w.heap.size + 1) l0 ⟨none, 0⟩ := by
    have := LkB.zero (w.alloc (.cells #[.int .u32 i0, .int .u32 i1, .int .u32 i2, .int .u32 i3] 24))
    rw [← hW, show (w.alloc (.cells #[.int .u32 i0, .int .u32 i1, .int .u32 i2, .int .u32 i3] 24)).heap.size = w.heap.size + 1 by simp] at this; exact this
  have r1 : W.heap[w.heap.size]? = some (.cells #[.int .u32 i0, .int .u32 i1, .int .u32 i2, .int .u32 i3] 24 (0, 0)) := by
    rw [hW]; exact row_keep (heap_alloc_new w _) (Keep.of_below (below_alloc (Below.refl _ _) _) []) (by simp)
  have y0 := cell_of_row W w.heap.size 0 _ _ (0, 0) r1
  have y1 := cell_of_row W w.heap.size 1 _ _ (0, 0) r1
  have y2 := cell_of_row W w.heap.size 2 _ _ (0, 0) r1
  have y3 := cell_of_row W w.heap.size 3 _ _ (0, 0) r1
  simp only [List.getElem?_toArray, List.getElem?_cons_zero, List.getElem?_cons_succ] at y0 y1 y2 y3
  have TH := Lib.hid k2.there
  have K3 := Lib.hid (LkB.laid (l := ask tx ver wt i0 i1 i2 i3) (s := ⟨none, 0⟩) k2)
  have KK := Lib.hid (keep_setCells (w.heap.size + 1) (Lk.list (ask tx ver wt i0 i1 i2 i3) ⟨none, 0⟩) 0 W)
  have BW := Lib.hid bW
  clear bW k2 r1
  go_enter Try.func31, Try.ntmps31
  go_upto_region 1 with (fail)
  rw [← hW]
  clear hW
  generalize hbi : w.heap.size = bi at y0 y1 y2 y3 TH K3 KK ⊢
  go_wp2_with (refine wpList_store_mid rfl 38 (.tmp 8) (.tmp 15) rfl (bi + 1) 0 ⟨Lk.list (ask tx ver wt i0 i1 i2 i3) ⟨none, 0⟩⟩ rfl rfl TH.out (lk_size _ _) (lk_ones _ _) ?_)
  refine bodyPost_ret (res_c1 Try.results31 rfl (LkB.load K3.out)) rfl ⟨rfl, ?_⟩
  exact BW.out.trans (KK.out.below BW.out.size (by simp; omega))
section
variable {w w' : World} {B sb gm b : Nat} {nm : Nm} {c : Cp} {s : Cs}
abbrev anL (inc ver : Int) (n : Nat) (t : Sd) : List Value := [.int .u32 0, .int .u32 inc, .int .u32 ver, .slice t.ao n t.cap]
theorem an_size (inc ver : Int) (n : Nat) (t : Sd) : (Try.prog.info? 64).map (·.size) = some (anL inc ver n t).length := by
  show _ = some 4
  kernel_rfl
theorem an_ones (inc ver : Int) (n : Nat) (t : Sd) : (Array.mk (anL inc ver n t)).all (·.oneCell') = true := by
  refine Array.all_eq_true_iff_forall_mem.2 fun v hv => ?_
  have hv : v ∈ anL inc ver n t := by simpa using hv
  simp only [anL, List.mem_cons, List.not_mem_nil, or_false] at hv
  rcases hv with rfl | rfl | rfl | rfl <;> rfl
/-- an answer in a block of its own -/
def AnB (w : World) (b : Nat) (inc ver : Int) (n : Nat) (t : Sd) : Prop := w.heap[b]? = some (.cells ⟨anL inc ver n t⟩ 64 (0, 0))
theorem AnB.range {inc ver : Int} {n : Nat} {t : Sd} (h : AnB w b inc ver n t) : w.rangeAt b 0 (anL inc ver n t) := fun j v hv => by
  rw [Nat.zero_add, cell_of_row w b j _ _ (0, 0) h]; simpa using hv
theorem AnB.load {inc ver : Int} {n : Nat} {t : Sd} (h : AnB w b inc ver n t) : (loadVar 64 ⟨b, 0, none⟩).run Try.prog w = .ok (.agg ⟨anL inc ver n t⟩) w :=
  run_loadVar_mid w b 0 _ (anL inc ver n t) _ h.range Try.underlying64 rfl (an_size _ _ _ _)
theorem AnB.there {inc ver : Int} {n : Nat} {t : Sd} (h : AnB w b inc ver n t) : w.there b 0 4 := fun j hj => by
  rw [Nat.zero_add]
  refine ⟨?_, frozen_of_row w b j _ _ h⟩
  rw [cell_of_row w b j _ _ (0, 0) h]
  have : j < (anL inc ver n t).length := hj
  simp [this]
  exact hj
theorem AnB.laid {inc ver inc' ver' : Int} {n n' : Nat} {t t' : Sd} (h : AnB w b inc ver n t) : AnB (w.setCells b 0 (anL inc' ver' n' t')) b inc' ver' n' t' := by
  have := heap_lay b _ (anL inc' ver' n' t') 0 w _ h
  rwa [lay_all _ _ (by rfl)] at this
set_option maxHeartbeats 8000000 in
theorem read_any (w : World) (h : StR w B sb gm b nm c s) (hs : c.state = 2) : Calls Try.prog 27 #[.pointer (some ⟨sb, 0, none⟩), .int .i64 nm.b, .int .i64 nm.r] w fun e w' =>
    ∃ t, e = .returned (.tuple #[.agg ⟨anL c.inc c.ver c.es.length t⟩, .int .i64 0]) ∧ EsO w' w.heap.size t c.es ∧ Below w.heap.size w w' := by
  obtain ⟨W, hW⟩ : ∃ W, W = w.alloc (.cells #[.int .u32 0, .int .u32 0, .int .u32 0, .slice none 0 0] 64) := ⟨_, rfl⟩
  have bW : Below w.heap.size w W := by rw [hW]; exact below_alloc (Below.refl _ _) _
  have hz : W.heap.size = w.heap.size + 1 := by rw [hW]; simp
  have k1 : AnB W w.heap.size 0 0 0 ⟨none, 0⟩ := by rw [hW]; exact heap_alloc_new w _
  have h1 := h.below bW
  have F := Lib.hid (full_yes W h1 hs)
  have HR := Lib.hid h1.row
  have HZ := Lib.hid hz; have K1 := Lib.hid k1; have BW := Lib.hid bW
  have hbb : b ≠ w.heap.size := by have := h.row.blt; omega
  have HBB := Lib.hid hbb
  clear h bW hz k1 h1 hs hbb
  go_enter Try.func27, Try.ntmps27
  go_upto_region 1 with (fail)
  rw [← hW]
  clear hW
  generalize hbi : w.heap.size = bi at K1 HZ HBB ⊢
  go_wp2_with fail
  refine F.out.mono ?_; rintro e w1 ⟨rfl, rfl⟩
  go_upto_region 4 with (fail)
  refine wp_region_held_drew (S := fun w' => w'.heap[b]? = some (.cells ⟨rowL c s nm.r⟩ 92 (0, 0))) (by kernel_rfl) (row_keep HR.out.row (Keep.of_below (Below.refl _ _).drew []) (by simp)) (fun s0 => ?_)
  have bd := (Below.refl W.heap.size W).drew
  have HD := Lib.hid (HR.out.below bd)
  have BD := Lib.hid (below_next BW.out bd)
  have KD := Lib.hid (row_keep K1.out (Keep.of_below bd []) (by simp))
  have C := Lib.hid (ce_any W.drew s.d c.es HD.out.d HD.out.fd)
  have HZD := Lib.hid (show W.drew.heap.size = bi + 1 from HZ.out)
  clear bd
  generalize W.drew = wd at *
  refine wpAnyH_take (i := 0) (v := .pointer (some ⟨b, 0, none⟩)) rfl (by kernel_rfl) (by kernel_rfl) (by kernel_rfl) (fun _ _ _ h => h) (Or.inl ⟨by rfl, fun w' hw' => by go_simp⟩) s0 ?_
  try simp only [Act.put, List.getElem_toArray, List.getElem_cons_succ, List.getElem_cons_zero, List.setIfInBounds_toArray, List.set_cons_zero, List.set_cons_succ, Nat.zero_add, List.nil_append]
  refine wpAnyH_take (i := 1) (v := .pointer (some ⟨b, 0, none⟩)) rfl (by kernel_rfl) (by kernel_rfl) (by kernel_rfl) (fun _ _ _ h => h) (Or.inl ⟨by rfl, fun w' hw' => by go_simp⟩) s0 ?_
  try simp only [Act.put, List.getElem_toArray, List.getElem_cons_succ, List.getElem_cons_zero, List.setIfInBounds_toArray, List.set_cons_zero, List.set_cons_succ, Nat.zero_add, List.nil_append]
  refine wpAnyH_take (i := 2) (v := .pointer (some ⟨b, 0, none⟩)) rfl (by kernel_rfl) (by kernel_rfl) (by kernel_rfl) (fun _ _ _ h => h) (Or.inl ⟨by rfl, fun w' hw' => by go_simp⟩) s0 ?_
  try simp only [Act.put, List.getElem_toArray, List.getElem_cons_succ, List.getElem_cons_zero, List.setIfInBounds_toArray, List.set_cons_zero, List.set_cons_succ, Nat.zero_add, List.nil_append]
  refine wpAnyH_take (i := 3) (v := .pointer (some ⟨b, 1, none⟩)) rfl (by kernel_rfl) (by kernel_rfl) (by kernel_rfl) (fun _ _ _ h => h) (Or.inl ⟨by rfl, fun w' hw' => by go_simp⟩) s0 ?_
  try simp only [Act.put, List.getElem_toArray, List.getElem_cons_succ, List.getElem_cons_zero, List.setIfInBounds_toArray, List.set_cons_zero, List.set_cons_succ, Nat.zero_add, List.nil_append]
  refine wpAnyH_take (i := 4) (v := .int .u32 c.inc) rfl (by kernel_rfl) (by kernel_rfl) (by kernel_rfl) (fun _ _ _ h => h) (Or.inl ⟨by rfl, fun w' hw' => by have q0 := cell_of_row w' b 1 _ _ (0, 0) hw'; simp only [List.getElem?_toArray, List.getElem?_cons_zero, List.getElem?_cons_succ] at q0; go_simp⟩) s0 ?_
  try simp only [Act.put, List.getElem_toArray, List.getElem_cons_succ, List.getElem_cons_zero, List.setIfInBounds_toArray, List.set_cons_zero, List.set_cons_succ, Nat.zero_add, List.nil_append]
  refine wpAnyH_take (i := 5) (v := .pointer (some ⟨b, 0, none⟩)) rfl (by kernel_rfl) (by kernel_rfl) (by kernel_rfl) (fun _ _ _ h => h) (Or.inl ⟨by rfl, fun w' hw' => by go_simp⟩) s0 ?_
  try simp only [Act.put, List.getElem_toArray, List.getElem_cons_succ, List.getElem_cons_zero, List.setIfInBounds_toArray, List.set_cons_zero, List.set_cons_succ, Nat.zero_add, List.nil_append]
  refine wpAnyH_take (i := 6) (v := .pointer (some ⟨b, 0, none⟩)) rfl (by kernel_rfl) (by kernel_rfl) (by kernel_rfl) (fun _ _ _ h => h) (Or.inl ⟨by rfl, fun w' hw' => by go_simp⟩) s0 ?_
  try simp only [Act.put, List.getElem_toArray, List.getElem_cons_succ, List.getElem_cons_zero, List.setIfInBounds_toArray, List.set_cons_zero, List.set_cons_succ, Nat.zero_add, List.nil_append]
  refine wpAnyH_take (i := 7) (v := .pointer (some ⟨b, 0, none⟩)) rfl (by kernel_rfl) (by kernel_rfl) (by kernel_rfl) (fun _ _ _ h => h) (Or.inl ⟨by rfl, fun w' hw' => by go_simp⟩) s0 ?_
  try simp only [Act.put, List.getElem_toArray, List.getElem_cons_succ, List.getElem_cons_zero, List.setIfInBounds_toArray, List.set_cons_zero, List.set_cons_succ, Nat.zero_add, List.nil_append]
  refine wpAnyH_take (i := 8) (v := .pointer (some ⟨b, 2, none⟩)) rfl (by kernel_rfl) (by kernel_rfl) (by kernel_rfl) (fun _ _ _ h => h) (Or.inl ⟨by rfl, fun w' hw' => by go_simp⟩) s0 ?_
  try simp only [Act.put, List.getElem_toArray, List.getElem_cons_succ, List.getElem_cons_zero, List.setIfInBounds_toArray, List.set_cons_zero, List.set_cons_succ, Nat.zero_add, List.nil_append]
  refine wpAnyH_take (i := 9) (v := .int .u32 c.ver) rfl (by kernel_rfl) (by kernel_rfl) (by kernel_rfl) (fun _ _ _ h => h) (Or.inl ⟨by rfl, fun w' hw' => by have q0 := cell_of_row w' b 2 _ _ (0, 0) hw'; simp only [List.getElem?_toArray, List.getElem?_cons_zero, List.getElem?_cons_succ] at q0; go_simp⟩) s0 ?_
  try simp only [Act.put, List.getElem_toArray, List.getElem_cons_succ, List.getElem_cons_zero, List.setIfInBounds_toArray, List.set_cons_zero, List.set_cons_succ, Nat.zero_add, List.nil_append]
  refine wpAnyH_take (i := 10) (v := .pointer (some ⟨b, 0, none⟩)) rfl (by kernel_rfl) (by kernel_rfl) (by kernel_rfl) (fun _ _ _ h => h) (Or.inl ⟨by rfl, fun w' hw' => by go_simp⟩) s0 ?_
  try simp only [Act.put, List.getElem_toArray, List.getElem_cons_succ, List.getElem_cons_zero, List.setIfInBounds_toArray, List.set_cons_zero, List.set_cons_succ, Nat.zero_add, List.nil_append]
  refine wpAnyH_take (i := 11) (v := .pointer (some ⟨b, 0, none⟩)) rfl (by kernel_rfl) (by kernel_rfl) (by kernel_rfl) (fun _ _ _ h => h) (Or.inl ⟨by rfl, fun w' hw' => by go_simp⟩) s0 ?_
  try simp only [Act.put, List.getElem_toArray, List.getElem_cons_succ, List.getElem_cons_zero, List.setIfInBounds_toArray, List.set_cons_zero, List.set_cons_succ, Nat.zero_add, List.nil_append]
  refine wpAnyH_take (i := 12) (v := .pointer (some ⟨b, 0, none⟩)) rfl (by kernel_rfl) (by kernel_rfl) (by kernel_rfl) (fun _ _ _ h => h) (Or.inl ⟨by rfl, fun w' hw' => by go_simp⟩) s0 ?_
  try simp only [Act.put, List.getElem_toArray, List.getElem_cons_succ, List.getElem_cons_zero, List.setIfInBounds_toArray, List.set_cons_zero, List.set_cons_succ, Nat.zero_add, List.nil_append]
  refine wpAnyH_take (i := 13) (v := .pointer (some ⟨b, 3, none⟩)) rfl (by kernel_rfl) (by kernel_rfl) (by kernel_rfl) (fun _ _ _ h => h) (Or.inl ⟨by rfl, fun w' hw' => by go_simp⟩) s0 ?_
  try simp only [Act.put, List.getElem_toArray, List.getElem_cons_succ, List.getElem_cons_zero, List.setIfInBounds_toArray, List.set_cons_zero, List.set_cons_succ, Nat.zero_add, List.nil_append]
  refine wpAnyH_take (i := 14) (v := .slice s.d.ao c.es.length s.d.cap) rfl (by kernel_rfl) (by kernel_rfl) (by kernel_rfl) (fun _ _ _ h => h) (Or.inl ⟨by rfl, fun w' hw' => by have q0 := cell_of_row w' b 3 _ _ (0, 0) hw'; simp only [List.getElem?_toArray, List.getElem?_cons_zero, List.getElem?_cons_succ] at q0; go_simp⟩) s0 ?_
  try simp only [Act.put, List.getElem_toArray, List.getElem_cons_succ, List.getElem_cons_zero, List.setIfInBounds_toArray, List.set_cons_zero, List.set_cons_succ, Nat.zero_add, List.nil_append]
  refine wpAnyH_ready (rs := [15]) (by kernel_rfl) (by simp) ?_
  refine AllReadyH.cons rfl (fun K hK => ?_) AllReadyH.nil
  rw [if_pos (by rfl)]
  go_simp
  refine C.out.mono ?_; rintro e w2 ⟨t, rfl, o2, b2⟩
  have s2 : w2.heap[b]? = some (.cells ⟨rowL c s nm.r⟩ 92 (0, 0)) := row_keep s0 (Keep.of_below b2 []) (by simp)
  have K2 := Lib.hid (show AnB w2 bi 0 0 0 ⟨none, 0⟩ from row_keep KD.out (Keep.of_below b2 []) (by simp))
  have TH := Lib.hid K2.out.there
  have kk := keep_setCells bi (anL c.inc c.ver c.es.length t) 0 w2
  have O3 := Lib.hid (EsO.base (EsO.keep (s := t) o2 kk (fun q hq => by have := (EsO.blk (s := t) o2 q hq).1; have := HZD.out; simp; omega)) (show w.heap.size ≤ wd.heap.size by have := HZD.out; omega))
  have B3 := Lib.hid ((below_next BD.out b2).trans (kk.below (B := w.heap.size) (by have := (below_next BD.out b2).size; omega) (by simp [hbi])))
  have K3 := Lib.hid (AnB.laid (inc' := c.inc) (ver' := c.ver) (n' := c.es.length) (t' := t) K2.out)
  have s3 : (w2.setCells bi 0 (anL c.inc c.ver c.es.length t)).heap[b]? = some (.cells ⟨rowL c s nm.r⟩ 92 (0, 0)) := row_keep s2 kk (by have := HBB.out; simpa using this)
  clear kk o2 b2
  go_simp
  refine hK.out _ _ s2 (fun _ => ?_)
  clear hK K
  try simp only [Act.put, List.getElem_toArray, List.getElem_cons_succ, List.getElem_cons_zero, List.setIfInBounds_toArray, List.set_cons_zero, List.set_cons_succ, Nat.zero_add, List.nil_append]
  refine wpAnyH_take (i := 16) (v := .agg ⟨anL c.inc c.ver c.es.length t⟩) rfl (by kernel_rfl) (by kernel_rfl) (by kernel_rfl) (fun _ _ _ h => h) (Or.inl ⟨by rfl, fun w' hw' => by kernel_rfl⟩) s2 ?_
  try simp only [Act.put, List.getElem_toArray, List.getElem_cons_succ, List.getElem_cons_zero, List.setIfInBounds_toArray, List.set_cons_zero, List.set_cons_succ, Nat.zero_add, List.nil_append]
  refine wpAnyH_ready (rs := [17]) (by kernel_rfl) (by simp) ?_
  refine AllReadyH.cons rfl (fun K hK => ?_) AllReadyH.nil
  rw [if_pos (by rfl)]
  refine wp_store_mid 64 (.tmp 6) (.tmp 37) rfl bi 0 ⟨anL c.inc c.ver c.es.length t⟩ rfl rfl TH.out (an_size _ _ _ _) (an_ones _ _ _ _) ?_
  change K _ (w2.setCells bi 0 (anL c.inc c.ver c.es.length t))
  generalize w2.setCells bi 0 (anL c.inc c.ver c.es.length t) = w3 at *
  refine hK.out _ _ s3 (fun _ => ?_)
  clear hK K
  try simp only [Act.put, List.getElem_toArray, List.getElem_cons_succ, List.getElem_cons_zero, List.setIfInBounds_toArray, List.set_cons_zero, List.set_cons_succ, Nat.zero_add, List.nil_append]
  refine wpAnyH_take (i := 18) (v := .int .i64 0) rfl (by kernel_rfl) (by kernel_rfl) (by kernel_rfl) (fun _ _ _ h => h) (Or.inl ⟨by rfl, fun w' hw' => by go_simp⟩) s3 ?_
  try simp only [Act.put, List.getElem_toArray, List.getElem_cons_succ, List.getElem_cons_zero, List.setIfInBounds_toArray, List.set_cons_zero, List.set_cons_succ, Nat.zero_add, List.nil_append]
  refine wpAnyH_done (by kernel_rfl) ?_ _
  clear s0 s2 s3
  go_wp2_with fail
  refine bodyPost_ret (res_c1t1 Try.results27 rfl (AnB.load K3.out) rfl) rfl ⟨t, rfl, O3.out, B3.out⟩
end
end Go.Proofs.Ytbjcmomicjdepaa
