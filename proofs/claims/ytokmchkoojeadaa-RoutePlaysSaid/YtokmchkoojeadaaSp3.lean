/- RoutePlays: a step of the script, kind 3. -/
import Derived.Test.YtokmchkoojeadaaSp0
import Derived.Test.YtokmchkoojeadaaSm
import Derived.Deep.MidRow
import Derived.BigFrame
namespace Go.Proofs.Ytokmchkoojeadaa
open Go.RowKit Go.Sort
set_option linter.unusedVariables false
set_option linter.unusedSimpArgs false
set_option maxRecDepth 100000
theorem exec_load_msg3 {ev : Operand → Value} {o : Oper} {w : World} (x : Operand) (ho : o.op = .load 66 x) (b : Nat) (cs : Array Value) (hx : ev x = .pointer (some ⟨b, 0, none⟩)) (hcs : cs.size = 49) (hr : w.heap[b]? = some (.cells cs 66 (0, 0))) : (execOp ev o).run Try.prog w = .ok (.value (.agg cs)) w := by
  unfold execOp
  simp only [ho, hx]
  have h := load_row49 w b cs hcs hr
  simp only [Sem.run_bind, h, Result.andThen_ok, Sem.run_pure]
theorem wp_load_msg3 {o : Oper} {a : Act} {w : World} {K : Act → World → Prop} {Q : Exit → Act → World → Prop} (x : Operand) (ho : o.op = .load 66 x) (b : Nat) (cs : Array Value) (hx : a.eval x = .pointer (some ⟨b, 0, none⟩)) (hcs : cs.size = 49) (hr : w.heap[b]? = some (.cells cs 66 (0, 0)))
    (h : K (a.put o.dst (.agg cs)) w) : o.wp Try.prog a w K Q := by
  unfold Oper.wp
  simp only [exec_load_msg3 x ho b cs hx hcs hr, Oper.upon]
  exact h
section
variable {w : World} {B b d : Nat} {s p c : Pe} {F : List Pe} {oc : List Value} {i : Int} {lo : Option Addr} {ln lc : Nat} {L : List Pe} {ph pl mk mf mt mid mph mpl mhops : Int}
set_option maxHeartbeats 16000000 in
theorem step_handle (ho : OpIs w B oc 3 i lo ln lc L ph pl mk mf mt mid mph mpl mhops) (h2 : Two w B b d s p c F) : Calls Try.prog 10 #[.pointer (some ⟨b, 0, none⟩), .pointer (some ⟨d, 0, none⟩), .agg oc.toArray] w (Stepped B b d s p c w) := by
  obtain ⟨w1, hw1, hcell, b1, hlt1⟩ := box_op w ho.ol
  have HW1 := Lib.hid hw1; have CL := Lib.hid hcell; have BB := Lib.hid b1; have HLT := Lib.hid hlt1
  have HO := Lib.hid ho; have H2 := Lib.hid h2; have T1 := Lib.hid (h2.below b1)
  obtain ⟨k', f', t', id', ph', pl', hops', er, M, HA, HB⟩ := handle_both (s := s) (p := p) (c := c) (F := F) ho.om ho.oid (by have := h2.len; omega) (h2.own mph mpl)
  obtain ⟨ao, cap, ad, cad, hta, hda, _⟩ := h2
  have ST := Lib.hid (fun w1 (k : Below w.heap.size w w1) => HA w1 B b ao cap (hta.below k)); have DT := Lib.hid (fun w1 (k : Below w.heap.size w w1) => HB w1 B d ad cad (hda.below k))
  have HSZ := Lib.hid (show (Try.prog.info? 66).map (·.size) = some (oc.drop 5).length from by rw [List.length_drop, ho.ol]; exact msg_size)
  have RA := Lib.hid (show ∀ w', Below w1.heap.size w1 w' → w'.rangeAt w.heap.size 5 (oc.drop 5) from fun w' k j v hv => by rw [List.getElem?_drop] at hv; exact hcell w' k _ _ hv)
  clear HA HB hta hda
  clear hw1 hcell b1 hlt1 ho
  go_enter Try.func10, Try.ntmps10
  go_upto_region 1 with (fail)
  rw [← HW1.out]
  obtain ⟨x, hx⟩ : ∃ x, x = w.heap.size := ⟨_, rfl⟩
  rw [← hx] at CL HLT RA ⊢
  have HX := Lib.hid hx
  clear hx
  have hxl := HLT.out
  have k0 := CL.out w1 (Below.refl _ _) 0 _ HO.out.ok
  have RA1 := Lib.hid (RA.out w1 (Below.refl _ _))
  go_wp2_with (first
    | (refine wpList_load_mid rfl 66 (.tmp 99) rfl x 5 rfl (oc.drop 5) _ RA1.out Try.underlying66 rfl HSZ.out ?_))
  refine (ST.out w1 BB.out).mono ?_; rintro e w2 ⟨q1, m1, c1, rfl, hp1, hm1, hle1, b2⟩
  have P1 := Lib.hid hp1; have HM1 := Lib.hid hm1; have HL1 := Lib.hid hle1; have BE := Lib.hid b2
  have RZ := Lib.hid (heap_alloc_new w2 (.cells (msgC 0 0 0 (.slice none 0 0)) 66))
  clear hp1 hm1 hle1 b2
  go_upto_region 18 with (first
    | (refine wpList_alloc_msg rfl rfl (fun w9 hw9 => ?_); subst hw9)
    | (refine wpList_store_row rfl 66 (.tmp 18) (.tmp 102) rfl w2.heap.size (msgZ k' f' t' id' ph' pl' hops' (.slice q1 m1 c1)) rfl rfl 66 (msgC 0 0 0 (.slice none 0 0)) RZ.out (by rw [msgZ_size]; exact msg_size) rfl (msgZ_one _ _ _ _ _ _ _ _ _ _) ?_))
  have ba := below_alloc (Below.refl w2.heap.size w2) (.cells (msgC 0 0 0 (.slice none 0 0)) 66)
  have bs := ba.trans ((Keep.setRow (w2.alloc (.cells (msgC 0 0 0 (.slice none 0 0)) 66)) w2.heap.size (msgZ k' f' t' id' ph' pl' hops' (.slice q1 m1 c1))).below ba.size (by simp))
  have R1 := Lib.hid (setRow_heap _ _ _ (msgZ k' f' t' id' ph' pl' hops' (.slice q1 m1 c1)) _ _ RZ.out)
  have P1 := Lib.hid (P1.out.below bs)
  have be := below_next BE.out bs
  have BEN := Lib.hid be
  have BB3 := Lib.hid (below_next BB.out be)
  have RA2 := Lib.hid (RA.out _ be)
  have HX3 := Lib.hid (Nat.lt_of_lt_of_le HLT.out be.size)
  clear ba bs be BE BEN RZ k0 hxl RA1
  generalize (w2.alloc (.cells (msgC 0 0 0 (.slice none 0 0)) 66)).setRow w2.heap.size (msgZ k' f' t' id' ph' pl' hops' (.slice q1 m1 c1)) = w3 at *
  obtain ⟨y, hy⟩ : ∃ y, y = w2.heap.size := ⟨_, rfl⟩
  rw [← hy] at R1 ⊢
  clear hy
  have hxl := HX3.out
  go_wp2_with (first
    | (refine wpList_load_mid rfl 66 (.tmp 106) rfl x 5 rfl (oc.drop 5) _ RA2.out Try.underlying66 rfl HSZ.out ?_))
  refine (DT.out w3 BB3.out).mono ?_; rintro e w4 ⟨q2, m2, c2, rfl, hp2, hm2, hle2, b2⟩
  have P2 := Lib.hid hp2; have HM2 := Lib.hid hm2; have HL2 := Lib.hid hle2; have BE := Lib.hid b2
  have RZ := Lib.hid (heap_alloc_new w4 (.cells (msgC 0 0 0 (.slice none 0 0)) 66))
  clear hp2 hm2 hle2 b2
  go_upto_region 19 with (first
    | (refine wpList_alloc_msg rfl rfl (fun w9 hw9 => ?_); subst hw9)
    | (refine wpList_store_row rfl 66 (.tmp 20) (.tmp 109) rfl w4.heap.size (msgZ k' f' t' id' ph' pl' hops' (.slice q2 m2 c2)) rfl rfl 66 (msgC 0 0 0 (.slice none 0 0)) RZ.out (by rw [msgZ_size]; exact msg_size) rfl (msgZ_one _ _ _ _ _ _ _ _ _ _) ?_))
  have ba := below_alloc (Below.refl w4.heap.size w4) (.cells (msgC 0 0 0 (.slice none 0 0)) 66)
  have bs := ba.trans ((Keep.setRow (w4.alloc (.cells (msgC 0 0 0 (.slice none 0 0)) 66)) w4.heap.size (msgZ k' f' t' id' ph' pl' hops' (.slice q2 m2 c2))).below ba.size (by simp))
  have R2 := Lib.hid (setRow_heap _ _ _ (msgZ k' f' t' id' ph' pl' hops' (.slice q2 m2 c2)) _ _ RZ.out)
  have P2 := Lib.hid (P2.out.below bs)
  have be := below_next BE.out bs
  have BEN := Lib.hid be
  have R1 := Lib.hid (row_keep R1.out (Keep.of_below be []) (by simp))
  have P1 := Lib.hid (P1.out.below be)
  have BBz := Lib.hid (below_next BB3.out be)
  clear ba bs be BE BEN RZ hxl RA2
  generalize (w4.alloc (.cells (msgC 0 0 0 (.slice none 0 0)) 66)).setRow w4.heap.size (msgZ k' f' t' id' ph' pl' hops' (.slice q2 m2 c2)) = w5 at *
  obtain ⟨z, hz⟩ : ∃ z, z = w4.heap.size := ⟨_, rfl⟩
  rw [← hz] at R2 ⊢
  clear hz
  obtain rfl : m1 = m2 := HM1.out.symm.trans HM2.out
  have SA := Lib.hid (samez_any k' f' t' id' ph' pl' hops' q1 q2 m1 c1 c2 M w5 P1.out P2.out HM1.out (by have := HL1.out; omega))
  go_wp2_with (first
    | (refine BigFrame.wpList_want (by rfl) (fun K hK => wp_load_msg3 (.tmp 18) rfl y _ rfl (msgZ_size _ _ _ _ _ _ _ _) R1.out (hK _ _ ?_)))
    | (refine BigFrame.wpList_want (by rfl) (fun K hK => wp_load_msg3 (.tmp 20) rfl z _ rfl (msgZ_size _ _ _ _ _ _ _ _) R2.out (hK _ _ ?_))))
  refine SA.out.mono ?_; rintro e w6 ⟨rfl, b6⟩
  have BBz := Lib.hid (below_next BBz.out b6)
  clear b6
  go_wp2_with fail
  go_ret
  have e := Stepped.of H2.out BBz.out
  exact e
end
end Go.Proofs.Ytokmchkoojeadaa
