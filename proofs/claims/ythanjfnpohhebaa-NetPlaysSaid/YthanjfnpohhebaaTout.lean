/- NetPlays: the twin's own out. -/
import Derived.Test.YthanjfnpohhebaaTpush
import Derived.Test.YthanjfnpohhebaaSent
namespace Go.Proofs.Ythanjfnpohhebaa
open Go.RowKit Go.Sort
set_option linter.unusedVariables false
set_option linter.unusedSectionVars false
set_option linter.unusedSimpArgs false
set_option maxRecDepth 100000
/-- what out ends in: it says that they are alike, and keeps both -/
def ToutEnd (B tb hn nb room : Nat) (S : List Pkt) (made : Nat) (T : Tr) (D : List Pkt) (last : Nat) (T2 : Tr) (L V : List Pkt) (p q : Pkt) (w : World) (e : Ending) (w' : World) : Prop :=
  e = .returned (.bool true) ∧ ∃ tg' ao cap, TwW w' B tb tg' hn nb room S made T D last T2 (L ++ [p]) (V ++ [⟨q.id, q.fr, q.to, ao, cap, q.data⟩]) ∧ Below B w w'
section
variable {w w' : World} {B tb hn nb room made last : Nat} {tg : Nat → Nat} {S D L V : List Pkt} {T T2 : Tr}
set_option maxHeartbeats 12800000 in
theorem tout_any (w : World) (h : TwW w B tb tg hn nb room S made T D last T2 L V) (hLV : L.length = V.length) (hfew : L.length ≤ 1000) (pid : Nat) (fr dn : Int) (ao : Option Addr) (n cap : Nat) (l : List Nat) (hln : l.length = n) (hn6 : n ≤ 65546) (bo : Option Addr) (bc : Nat)
    (hp : Own w B ao n cap l) (htp : ∀ g ∈ blk ao, 7 ≤ tg g) (hq : Rd w bo l) (hqt : ∀ g ∈ blk bo, tg g ≠ 0 ∧ tg g ≠ 3) :
    Calls Try.prog 24 #[.pointer (some ⟨tb, 0, none⟩), .agg #[.int .u64 (pid : Int), .int .i64 fr, .int .i64 dn, .slice ao n cap], .agg #[.int .u64 (pid : Int), .int .i64 fr, .int .i64 dn, .slice bo n bc]] w
      (ToutEnd B tb hn nb room S made T D last T2 L V ⟨pid, fr, dn, ao, cap, l⟩ ⟨pid, fr, dn, bo, bc, l⟩ w) := by
  obtain ⟨la, lc, wv, wc, h5, h6, h7, h8, h9, h10, h11⟩ := h.out
  have H := Lib.hid h
  have H5 := Lib.hid h5; have H6 := Lib.hid h6; have H7 := Lib.hid h7; have H8 := Lib.hid h8; have H9 := Lib.hid h9; have H10 := Lib.hid h10; have H11 := Lib.hid h11
  have HP := Lib.hid hp; have HTP := Lib.hid htp; have HQ := Lib.hid hq; have HQT := Lib.hid hqt
  have HLN := Lib.hid hln
  have HLO := Lib.hid h.lo
  obtain ⟨x0, hx0⟩ : ∃ x, x = w.heap.size := ⟨_, rfl⟩
  obtain ⟨x1, hx1⟩ : ∃ x, x = w.heap.size + 1 := ⟨_, rfl⟩
  obtain ⟨sn, hsn⟩ : ∃ x, L.length = x := ⟨_, rfl⟩
  have hsv : V.length = sn := hLV.symm.trans hsn
  rw [hsn] at hfew
  have HSN := Lib.hid hsn; have HSV := Lib.hid hsv
  have b1 := (below_alloc (below_alloc (Below.refl w.heap.size w) (pko (.int .u64 (pid : Int)) (.int .i64 fr) (.int .i64 dn) (.slice ao n cap))) (pko (.int .u64 (pid : Int)) (.int .i64 fr) (.int .i64 dn) (.slice bo n bc)))
  have q0 := (Row4.new w (.int .u64 (pid : Int)) (.int .i64 fr) (.int .i64 dn) (.slice ao n cap)).below (below_alloc (Below.refl _ (w.alloc (pko (.int .u64 (pid : Int)) (.int .i64 fr) (.int .i64 dn) (.slice ao n cap)))) (pko (.int .u64 (pid : Int)) (.int .i64 fr) (.int .i64 dn) (.slice bo n bc)))
  have q1 := Row4.new (w.alloc (pko (.int .u64 (pid : Int)) (.int .i64 fr) (.int .i64 dn) (.slice ao n cap))) (.int .u64 (pid : Int)) (.int .i64 fr) (.int .i64 dn) (.slice bo n bc)
  rw [show (w.alloc (pko (.int .u64 (pid : Int)) (.int .i64 fr) (.int .i64 dn) (.slice ao n cap))).heap.size = x1 by rw [hx1]; simp] at q1
  rw [← hx0] at q0
  have hs2 : ((w.alloc (pko (.int .u64 (pid : Int)) (.int .i64 fr) (.int .i64 dn) (.slice ao n cap))).alloc (pko (.int .u64 (pid : Int)) (.int .i64 fr) (.int .i64 dn) (.slice bo n bc))).heap.size = w.heap.size + 2 := by simp
  have B1 := Lib.hid b1; have Q0 := Lib.hid q0; have Q1 := Lib.hid q1; have HS2 := Lib.hid hs2
  have htl := h.lt
  have HX0 := Lib.hid hx0; have HX1 := Lib.hid hx1; have HTL := Lib.hid htl
  clear h h5 h6 h7 h8 h9 h10 h11 hp htp hq hqt hln hsn hsv b1 q0 q1 hs2 hLV htl
  go_enter Try.func24, Try.ntmps24
  go_upto_region 1 with (fail)
  generalize (w.alloc (.cells #[.int .u64 (pid : Int), .int .i64 fr, .int .i64 dn, .slice ao n cap] 52)).alloc (.cells #[.int .u64 (pid : Int), .int .i64 fr, .int .i64 dn, .slice bo n bc] 52) = w1 at *
  rw [← hx1, ← hx0]
  clear hx0 hx1
  obtain ⟨i0, hi0, hz0, hz1, hz2⟩ := info_parts pkt_info
  have HI := Lib.hid hi0; have HZ0 := Lib.hid hz0; have HZ1 := Lib.hid hz1; have HZ2 := Lib.hid hz2
  clear hi0 hz0 hz1 hz2
  have PUSH := H; have ROWT := H5; have RH6 := H6; have RH7 := H7; have RH8 := H8; have RH9 := H9; have RH10 := H10; have RH11 := H11
  have PO := HP; have PT := HTP; have HTLB := HTL; have HLOB := HLO
  have CELL : Hid (w.cell? ⟨tb, 2, none⟩ = some (.slice la sn lc)) := Lib.hid (by have := cell_of_row w tb 2 _ _ (0, 0) H5.out; rw [HSN.out] at this; exact this)
  have TNL : Hid (tb ∉ blk la) := Lib.hid (fun hm => by have := H8.out tb hm; have := H.out.tt; omega)
  have XNL : Hid (x0 ∉ blk la) := Lib.hid (fun hm => by have := (H6.out.blocks x0 (List.mem_append.2 (.inl hm))).2; have := HX0.out; omega)
  have XNT : Hid (x0 ≠ tb) := Lib.hid (by have := HX0.out; have := HTL.out; omega)
  obtain ⟨e0, e1, e2, e3, _, _, _, _, hxl⟩ := Q0.out.all
  have HHL : Hid (Holds w1 [(⟨x0, 0, none⟩, .int .u64 (pid : Int)), (⟨x0, 1, none⟩, .int .i64 fr), (⟨x0, 2, none⟩, .int .i64 dn), (⟨x0, 3, none⟩, .slice ao n cap)]) := Lib.hid (.cons e0 hxl (.cons e1 hxl (.cons e2 hxl (.cons e3 hxl (.nil _)))))
  clear e0 e1 e2 e3
  refine wp_region_held_drew (S := fun w' => Holds w' [(⟨x0, 0, none⟩, .int .u64 (pid : Int)), (⟨x0, 1, none⟩, .int .i64 fr), (⟨x0, 2, none⟩, .int .i64 dn), (⟨x0, 3, none⟩, .slice ao n cap)]) (by kernel_rfl) (HHL.out.drew) (fun s0 => ?_)
  have BD : Hid (Below w1.heap.size w1 w1.drew) := Lib.hid (Below.refl _ _).drew
  generalize w1.drew = wd at *
  have BWD := Lib.hid (B1.out.trans (BD.out.mono B1.out.size))
  have y0 := (BWD.out.cell (p := ⟨tb, 2, none⟩) HTLB.out).trans CELL.out
  have HXD := Lib.hid (show wd.heap.size ≥ w1.heap.size from BD.out.size)
  refine wpAnyH_take (i := 0) (v := .pointer (some ⟨tb, 0, none⟩)) rfl (by kernel_rfl) (by kernel_rfl) (by kernel_rfl) (fun _ _ _ h => h) (Or.inl ⟨by rfl, fun w' hw' => by go_simp⟩) s0 ?_
  try simp only [Act.put, List.getElem_toArray, List.getElem_cons_succ, List.getElem_cons_zero, List.setIfInBounds_toArray, List.set_cons_zero, List.set_cons_succ, Nat.zero_add, List.nil_append]
  refine wpAnyH_take (i := 1) (v := .pointer (some ⟨tb, 0, none⟩)) rfl (by kernel_rfl) (by kernel_rfl) (by kernel_rfl) (fun _ _ _ h => h) (Or.inl ⟨by rfl, fun w' hw' => by go_simp⟩) s0 ?_
  try simp only [Act.put, List.getElem_toArray, List.getElem_cons_succ, List.getElem_cons_zero, List.setIfInBounds_toArray, List.set_cons_zero, List.set_cons_succ, Nat.zero_add, List.nil_append]
  refine wpAnyH_take (i := 2) (v := .pointer (some ⟨tb, 0, none⟩)) rfl (by kernel_rfl) (by kernel_rfl) (by kernel_rfl) (fun _ _ _ h => h) (Or.inl ⟨by rfl, fun w' hw' => by go_simp⟩) s0 ?_
  try simp only [Act.put, List.getElem_toArray, List.getElem_cons_succ, List.getElem_cons_zero, List.setIfInBounds_toArray, List.set_cons_zero, List.set_cons_succ, Nat.zero_add, List.nil_append]
  refine wpAnyH_take (i := 3) (v := .pointer (some ⟨tb, 2, none⟩)) rfl (by kernel_rfl) (by kernel_rfl) (by kernel_rfl) (fun _ _ _ h => h) (Or.inl ⟨by rfl, fun w' hw' => by go_simp⟩) s0 ?_
  try simp only [Act.put, List.getElem_toArray, List.getElem_cons_succ, List.getElem_cons_zero, List.setIfInBounds_toArray, List.set_cons_zero, List.set_cons_succ, Nat.zero_add, List.nil_append]
  refine wpAnyH_take (i := 5) (v := .agg #[.int .u64 (pid : Int), .int .i64 fr, .int .i64 dn, .slice ao n cap]) rfl (by kernel_rfl) (by kernel_rfl) (by kernel_rfl) (fun _ _ _ h => h) (Or.inl ⟨by rfl, fun w' hw' => by have q0 := hw'.head; have q1 := hw'.tail.head; have q2 := hw'.tail.tail.head; have q3 := hw'.tail.tail.tail.head; go_simp⟩) s0 ?_
  try simp only [Act.put, List.getElem_toArray, List.getElem_cons_succ, List.getElem_cons_zero, List.setIfInBounds_toArray, List.set_cons_zero, List.set_cons_succ, Nat.zero_add, List.nil_append]
  refine wpAnyH_ready (rs := [4, 6]) (by kernel_rfl) (by simp) ?_
  refine AllReadyH.cons rfl (fun K hK => ?_) (AllReadyH.cons rfl (fun K hK => ?_) AllReadyH.nil)
  · skip
    rw [if_pos (by rfl)]
    go_simp
    refine hK.out _ _ s0 (fun _ => ?_)
    clear hK K
    try simp only [Act.put, List.getElem_toArray, List.getElem_cons_succ, List.getElem_cons_zero, List.setIfInBounds_toArray, List.set_cons_zero, List.set_cons_succ, Nat.zero_add, List.nil_append]
    refine wpAnyH_ready (rs := [6]) (by kernel_rfl) (by simp) ?_
    refine AllReadyH.cons rfl (fun K hK => ?_) AllReadyH.nil
    rw [if_pos (by rfl)]
    go_simp
    have b3 : Below wd.heap.size wd (wd.alloc (.cells #[.int .u64 (pid : Int), .int .i64 fr, .int .i64 dn, .slice ao n cap] 52)) := below_alloc (Below.refl _ _) _
    have r3 := heap_alloc_new wd (.cells #[.int .u64 (pid : Int), .int .i64 fr, .int .i64 dn, .slice ao n cap] 52)
    have s1 := s0.below b3
    have BV := Lib.hid (BWD.out.trans (b3.mono BWD.out.size))
    have y3 := (BV.out.cell (p := ⟨tb, 2, none⟩) HTLB.out).trans CELL.out
    generalize wd.alloc (.cells #[.int .u64 (pid : Int), .int .i64 fr, .int .i64 dn, .slice ao n cap] 52) = v3 at *
    obtain ⟨pb, hpb⟩ : ∃ q, q = wd.heap.size := ⟨_, rfl⟩
    rw [← hpb] at r3 ⊢
    have R3 := Lib.hid r3
    have HV3 : Hid (wd.heap.size ≤ v3.heap.size) := Lib.hid b3.size
    have BW3 := Lib.hid (BD.out.trans (b3.mono BD.out.size))
    clear b3 r3 hpb
    refine hK.out _ _ s1 (fun _ => ?_)
    clear hK K
    try simp only [Act.put, List.getElem_toArray, List.getElem_cons_succ, List.getElem_cons_zero, List.setIfInBounds_toArray, List.set_cons_zero, List.set_cons_succ, Nat.zero_add, List.nil_append]
    refine wpAnyH_ready (rs := [7]) (by kernel_rfl) (by simp) ?_
    refine AllReadyH.cons rfl (fun K hK => ?_) AllReadyH.nil
    rw [if_pos (by rfl)]
    have hBv : B ≤ v3.heap.size := Nat.le_trans HLOB.out BV.out.size
    have hxown : v3.ownsRow B 52 4 (.slice la sn lc) sn (fl Pkt.list L) := by have := owns_keep H6.out.own (Keep.of_below BV.out []) (by simp); rwa [HSN.out] at this
    refine wp_append_lies _ (.tmp 11) (.tmp 13) 31 rfl B 52 i0 _ 4 48 Try.underlying31 HI.out HZ0.out HZ1.out HZ2.out rfl (by decide) (.slice la sn lc) sn (fl Pkt.list L) rfl hxown ⟨pb, 0, none⟩ 1 1 (Pkt.list ⟨pid, fr, dn, ao, cap, l⟩) rfl rfl (news_pkt (p := ⟨pid, fr, dn, ao, cap, l⟩) (by have := R3.out; have e := HLN.out; subst e; exact this)) (list_one _) (by decide) (by unfold maxLen; omega) (by omega) hBv _ rfl ?_
    intro ga ca v4 own4 gr4 at4 lt4
    have kg := keep_grown gr4
    have hnl : ∀ g, g ∈ blk la → g < w.heap.size := fun g hg => (H6.out.blocks g (List.mem_append.2 (.inl hg))).2
    have z0 := (kg.cell (a := ⟨tb, 2, none⟩) (Nat.lt_of_lt_of_le HTLB.out BV.out.size) TNL.out).trans y3
    have z1 := (kg.frozen (a := ⟨tb, 2, none⟩) (Nat.lt_of_lt_of_le HTLB.out BV.out.size) TNL.out).trans ((BV.out.frozen (p := ⟨tb, 2, none⟩) HTLB.out).trans (frozen_of_row _ _ _ _ _ ROWT.out))
    have s4 := s1.keep kg (by intro p hp; simp only [List.mem_cons, List.not_mem_nil, or_false] at hp; rcases hp with rfl | rfl | rfl | rfl <;> exact XNL.out)
    have PU := Lib.hid (PUSH.out.pushL (p := ⟨pid, fr, dn, ao, cap, l⟩) ROWT.out RH6.out RH7.out RH8.out RH9.out RH10.out RH11.out HSN.out (by show Own _ B _ l.length _ l; rw [HLN.out]; exact PO.out) PT.out BV.out gr4 own4 at4 rfl)
    have KT := Lib.hid (((Keep.of_below BV.out (tb :: blk la)).trans (kg.mono (fun q hq => .inl (List.mem_cons_of_mem _ hq)))).trans ((Keep.setCell v4 ⟨tb, 2, none⟩ (.slice (some ⟨ga, 0, none⟩) (sn + 1) ca)).mono (by simp)))
    have GA := Lib.hid (own_gg at4)
    have LT4 := Lib.hid lt4
    have KT1 := Lib.hid (((Keep.of_below BW3.out (tb :: blk la)).trans (kg.mono (fun q hq => .inl (List.mem_cons_of_mem _ hq)))).trans ((Keep.setCell v4 ⟨tb, 2, none⟩ (.slice (some ⟨ga, 0, none⟩) (sn + 1) ca)).mono (by simp)))
    have V4 := Lib.hid (show v3.heap.size ≤ v4.heap.size from kg.size)
    have V3 := Lib.hid (show w1.heap.size ≤ v3.heap.size from Nat.le_trans HXD.out HV3.out)
    clear own4 gr4 at4 lt4 kg y3
    refine hK.out _ _ s4 (fun _ => ?_)
    clear hK K
    try simp only [Act.put, List.getElem_toArray, List.getElem_cons_succ, List.getElem_cons_zero, List.setIfInBounds_toArray, List.set_cons_zero, List.set_cons_succ, Nat.zero_add, List.nil_append]
    refine wpAnyH_take (i := 8) (v := .pointer (some ⟨tb, 0, none⟩)) rfl (by kernel_rfl) (by kernel_rfl) (by kernel_rfl) (fun _ _ _ h => h) (Or.inl ⟨by rfl, fun w' hw' => by go_simp⟩) s4 ?_
    try simp only [Act.put, List.getElem_toArray, List.getElem_cons_succ, List.getElem_cons_zero, List.setIfInBounds_toArray, List.set_cons_zero, List.set_cons_succ, Nat.zero_add, List.nil_append]
    refine wpAnyH_take (i := 9) (v := .pointer (some ⟨tb, 2, none⟩)) rfl (by kernel_rfl) (by kernel_rfl) (by kernel_rfl) (fun _ _ _ h => h) (Or.inl ⟨by rfl, fun w' hw' => by go_simp⟩) s4 ?_
    try simp only [Act.put, List.getElem_toArray, List.getElem_cons_succ, List.getElem_cons_zero, List.setIfInBounds_toArray, List.set_cons_zero, List.set_cons_succ, Nat.zero_add, List.nil_append]
    refine wpAnyH_ready (rs := [10]) (by kernel_rfl) (by simp) ?_
    refine AllReadyH.cons rfl (fun K hK => ?_) AllReadyH.nil
    rw [if_pos (by rfl)]
    go_simp
    have s5 := s4.set ⟨tb, 2, none⟩ (.slice (some ⟨ga, 0, none⟩) (sn + 1) ca) (by intro p hp; simp only [List.mem_cons, List.not_mem_nil, or_false] at hp; rcases hp with rfl | rfl | rfl | rfl <;> (intro e; simp only [Addr.mk.injEq] at e; exact XNT.out e.1))
    refine hK.out _ _ s5 (fun _ => ?_)
    clear hK K
    try simp only [Act.put, List.getElem_toArray, List.getElem_cons_succ, List.getElem_cons_zero, List.setIfInBounds_toArray, List.set_cons_zero, List.set_cons_succ, Nat.zero_add, List.nil_append]
    refine wpAnyH_done (by kernel_rfl) ?_ _
    clear s0 s1 s4 s5 z0 z1 y0
    have HV9 : Hid (v4.heap.size ≤ (v4.setCell ⟨tb, 2, none⟩ (.slice (some ⟨ga, 0, none⟩) (sn + 1) ca)).heap.size) := Lib.hid (Keep.setCell _ _ _).size
    generalize v4.setCell ⟨tb, 2, none⟩ (.slice (some ⟨ga, 0, none⟩) (sn + 1) ca) = w4 at *
    have X0L : Hid (x0 < w1.heap.size ∧ x1 < w1.heap.size) := Lib.hid ⟨(Array.getElem?_eq_some_iff.1 Q0.out).1, (Array.getElem?_eq_some_iff.1 Q1.out).1⟩
    have X1NL : Hid (x1 ∉ tb :: blk la) := Lib.hid (fun hm => by
      have hh := HX1.out
      rcases List.mem_cons.1 hm with e | hm
      · have := HTL.out; omega
      · have := (H6.out.blocks x1 (List.mem_append.2 (.inl hm))).2; omega)
    have X0NL : Hid (x0 ∉ tb :: blk la) := Lib.hid (fun hm => by
      have hh := HX0.out
      rcases List.mem_cons.1 hm with e | hm
      · have := HTL.out; omega
      · have := (H6.out.blocks x0 (List.mem_append.2 (.inl hm))).2; omega)
    have HGA : Hid (x1 ≠ ga ∧ x0 ≠ ga) := Lib.hid (by
      have h1 := X0L.out; have h2 := V3.out
      rcases GA.out with h | h
      · exact ⟨fun e => X1NL.out (by rw [e]; exact List.mem_cons_of_mem _ h), fun e => X0NL.out (by rw [e]; exact List.mem_cons_of_mem _ h)⟩
      · exact ⟨by omega, by omega⟩)
    have HAO : Hid (∀ g ∈ blk ao, g < w.heap.size) := Lib.hid (fun g hg => (HP.out.lt_size g hg).2)
    have TX : Hid (ptag tg w.heap.size ga (blk ao) 3 5 x1 = 7 ∧ ptag tg w.heap.size ga (blk ao) 3 5 x0 = 7) := Lib.hid ⟨ptag_new HGA.out.1 (fun hm => by have := HAO.out _ hm; have := HX1.out; omega) (by have := HX1.out; omega), ptag_new HGA.out.2 (fun hm => by have := HAO.out _ hm; have := HX0.out; omega) (by have := HX0.out; omega)⟩
    have GAL : Hid (ga < w4.heap.size) := Lib.hid (Nat.lt_of_lt_of_le LT4.out HV9.out)
    have TN : Hid (∀ g, w4.heap.size ≤ g → ptag tg w.heap.size ga (blk ao) 3 5 g = 7) := Lib.hid (fun g hg => ptag_new (by have := GAL.out; omega) (fun hm => by have := HAO.out _ hm; have := B1.out.size; have := V3.out; have := V4.out; have := HV9.out; omega) (by have := B1.out.size; have := V3.out; have := V4.out; have := HV9.out; omega))
    have HQ4 := Lib.hid (HQ.out.keep KT.out (fun g hg hm => by
      have h1 := HQT.out g hg
      rcases List.mem_cons.1 hm with e | hm
      · subst e; exact h1.1 H.out.tt
      · exact h1.2 (H8.out g hm)))
    have HX14 : Hid (x1 < w4.heap.size ∧ x0 < w4.heap.size) := Lib.hid (by have := X0L.out; have := V3.out; have := V4.out; have := HV9.out; omega)
    have R14 := Lib.hid (Q1.out.keep KT1.out X1NL.out)
    have R04 := Lib.hid (Q0.out.keep KT1.out X0NL.out)
    have BB4 := Lib.hid (KT.out.below HLO.out (by
      intro g hg
      rcases List.mem_cons.1 hg with rfl | hg
      · exact H.out.base
      · exact (H6.out.blocks g (List.mem_append.2 (.inl hg))).1))
    have OWN := Lib.hid (own_any n bc w4 HQ4.out HLN.out (by omega))
    have PU4 := PU
    have HX01 : Hid (x0 ≠ x1) := Lib.hid (by have := HX0.out; have := HX1.out; omega)
    clear PU GA LT4 KT KT1 V3 V4 HV9 HV3 HXD BW3 BV R3 BWD BD HHL X0L
    obtain ⟨f0, f1, f2, f3, _, _, _, _, hlx⟩ := R14.out.all
    go_upto_region 3 with (refine OWN.out.mono ?_; rintro e w5 ⟨ao2, cap2, rfl, own5, b5⟩; obtain ⟨g0, g1, g2, g3, k0, k1, k2, k3, hly⟩ := (R14.out.below b5).all)
    have R15 := Lib.hid (R14.out.below b5)
    have KS := Lib.hid (Keep.setCell w5 ⟨x1, 3, none⟩ (.slice ao2 n cap2))
    have W5 := Lib.hid b5.size
    have O6 := Lib.hid ((own5.keep KS.out (fun g hg hm => by simp only [List.mem_singleton] at hm; have := (own5.lt_size g hg).1; have := HX14.out; omega)))
    have R06 := Lib.hid ((R04.out.below b5).keep KS.out (by simpa using HX01.out))
    have R16 : Hid (Row4 (w5.setCell ⟨x1, 3, none⟩ (.slice ao2 n cap2)) x1 (.int .u64 (pid : Int)) (.int .i64 fr) (.int .i64 dn) (.slice ao2 n cap2)) := Lib.hid (by
      have := heap_setCell_same w5 x1 3 _ _ (.slice ao2 n cap2) R15.out
      simpa using this)
    have PU6 := Lib.hid ((PU4.out.below b5).keep KS.out (by intro g hg; simp only [List.mem_singleton] at hg; subst hg; exact Nat.le_of_eq TX.out.1.symm))
    have HX1B : Hid (B ≤ x1) := Lib.hid (by have := HLO.out; have := HX1.out; omega)
    have BB6 := Lib.hid ((BB4.out.trans (b5.mono (Nat.le_trans HLO.out BB4.out.size))).trans (KS.out.below (Nat.le_trans HLO.out (Nat.le_trans BB4.out.size b5.size)) (by intro g hg; simp only [List.mem_singleton] at hg; subst hg; exact HX1B.out)))
    have W4B := Lib.hid (Nat.le_trans HLO.out BB4.out.size)
    have OB : Hid (∀ g ∈ blk ao2, w4.heap.size ≤ g) := Lib.hid (fun g hg => (own5.lt_size g hg).1)
    clear own5 b5 f0 f1 f2 f3 hlx g0 g1 g2 g3 k0 k1 k2 k3 hly R15 R14 R04 KS PU4 OWN HQ4 BB4
    generalize w5.setCell ⟨x1, 3, none⟩ (.slice ao2 n cap2) = w6 at *
    obtain ⟨la2, lc2, wv2, wc2, h5, h6, h7, h8, h9, h10, h11⟩ := PU6.out.out
    have PUSH := PU6; have ROWT := Lib.hid h5; have RH6 := Lib.hid h6; have RH7 := Lib.hid h7; have RH8 := Lib.hid h8; have RH9 := Lib.hid h9; have RH10 := Lib.hid h10; have RH11 := Lib.hid h11
    have HTLB := Lib.hid PU6.out.lt; have HLOB := Lib.hid PU6.out.lo
    have CELL : Hid (w6.cell? ⟨tb, 3, none⟩ = some (.slice wv2 sn wc2)) := Lib.hid (by have := cell_of_row w6 tb 3 _ _ (0, 0) h5; rw [HSV.out] at this; exact this)
    have TNL : Hid (tb ∉ blk wv2) := Lib.hid (fun hm => by have := RH9.out tb hm; have := PU6.out.tt; omega)
    have XNL : Hid (x1 ∉ blk wv2) := Lib.hid (fun hm => by have := RH9.out x1 hm; have := TX.out; omega)
    have XNT : Hid (x1 ≠ tb) := Lib.hid (by have := HX1.out; have := HTL.out; omega)
    have X0N : Hid (x0 ∉ tb :: blk wv2) := Lib.hid (fun hm => by
      have h1 := TX.out
      rcases List.mem_cons.1 hm with e | hm
      · have := HX0.out; have := HTL.out; omega
      · have := RH9.out x0 hm; omega)
    have X1N : Hid (x1 ∉ tb :: blk wv2) := Lib.hid (fun hm => by
      rcases List.mem_cons.1 hm with e | hm
      · exact XNT.out e
      · exact XNL.out hm)
    have PO : Hid (Own w6 B ao2 n cap2 l) := Lib.hid (O6.out.base W4B.out)
    have PT : Hid (∀ g ∈ blk ao2, 7 ≤ ptag tg w.heap.size ga (blk ao) 3 5 g) := Lib.hid (fun g hg => Nat.le_of_eq (TN.out g (OB.out g hg)).symm)
    have R0F := R06; have R1F := R16
    have KTB : Hid (∀ g ∈ tb :: blk wv2, B ≤ g) := Lib.hid (by
      intro g hg
      rcases List.mem_cons.1 hg with rfl | hg
      · exact PU6.out.base
      · exact (RH7.out.blocks g (List.mem_append.2 (.inl hg))).1)
    have B6R : Hid (Below w6.heap.size w6 w6) := Lib.hid (Below.refl _ _)
    clear h5 h6 h7 h8 h9 h10 h11
    obtain ⟨e0, e1, e2, e3, _, _, _, _, hxl⟩ := R16.out.all
    have HHL : Hid (Holds w6 [(⟨x1, 0, none⟩, .int .u64 (pid : Int)), (⟨x1, 1, none⟩, .int .i64 fr), (⟨x1, 2, none⟩, .int .i64 dn), (⟨x1, 3, none⟩, .slice ao2 n cap2)]) := Lib.hid (.cons e0 hxl (.cons e1 hxl (.cons e2 hxl (.cons e3 hxl (.nil _)))))
    clear e0 e1 e2 e3
    refine wp_region_held_drew (S := fun w' => Holds w' [(⟨x1, 0, none⟩, .int .u64 (pid : Int)), (⟨x1, 1, none⟩, .int .i64 fr), (⟨x1, 2, none⟩, .int .i64 dn), (⟨x1, 3, none⟩, .slice ao2 n cap2)]) (by kernel_rfl) (HHL.out.drew) (fun s0 => ?_)
    have BD : Hid (Below w6.heap.size w6 w6.drew) := Lib.hid (Below.refl _ _).drew
    generalize w6.drew = wd at *
    have BWD := Lib.hid (B6R.out.trans (BD.out.mono B6R.out.size))
    have y0 := (BWD.out.cell (p := ⟨tb, 3, none⟩) HTLB.out).trans CELL.out
    have HXD := Lib.hid (show wd.heap.size ≥ w6.heap.size from BD.out.size)
    refine wpAnyH_take (i := 0) (v := .pointer (some ⟨tb, 0, none⟩)) rfl (by kernel_rfl) (by kernel_rfl) (by kernel_rfl) (fun _ _ _ h => h) (Or.inl ⟨by rfl, fun w' hw' => by go_simp⟩) s0 ?_
    try simp only [Act.put, List.getElem_toArray, List.getElem_cons_succ, List.getElem_cons_zero, List.setIfInBounds_toArray, List.set_cons_zero, List.set_cons_succ, Nat.zero_add, List.nil_append]
    refine wpAnyH_take (i := 1) (v := .pointer (some ⟨tb, 0, none⟩)) rfl (by kernel_rfl) (by kernel_rfl) (by kernel_rfl) (fun _ _ _ h => h) (Or.inl ⟨by rfl, fun w' hw' => by go_simp⟩) s0 ?_
    try simp only [Act.put, List.getElem_toArray, List.getElem_cons_succ, List.getElem_cons_zero, List.setIfInBounds_toArray, List.set_cons_zero, List.set_cons_succ, Nat.zero_add, List.nil_append]
    refine wpAnyH_take (i := 2) (v := .pointer (some ⟨tb, 0, none⟩)) rfl (by kernel_rfl) (by kernel_rfl) (by kernel_rfl) (fun _ _ _ h => h) (Or.inl ⟨by rfl, fun w' hw' => by go_simp⟩) s0 ?_
    try simp only [Act.put, List.getElem_toArray, List.getElem_cons_succ, List.getElem_cons_zero, List.setIfInBounds_toArray, List.set_cons_zero, List.set_cons_succ, Nat.zero_add, List.nil_append]
    refine wpAnyH_take (i := 3) (v := .pointer (some ⟨tb, 3, none⟩)) rfl (by kernel_rfl) (by kernel_rfl) (by kernel_rfl) (fun _ _ _ h => h) (Or.inl ⟨by rfl, fun w' hw' => by go_simp⟩) s0 ?_
    try simp only [Act.put, List.getElem_toArray, List.getElem_cons_succ, List.getElem_cons_zero, List.setIfInBounds_toArray, List.set_cons_zero, List.set_cons_succ, Nat.zero_add, List.nil_append]
    refine wpAnyH_take (i := 5) (v := .agg #[.int .u64 (pid : Int), .int .i64 fr, .int .i64 dn, .slice ao2 n cap2]) rfl (by kernel_rfl) (by kernel_rfl) (by kernel_rfl) (fun _ _ _ h => h) (Or.inl ⟨by rfl, fun w' hw' => by have q0 := hw'.head; have q1 := hw'.tail.head; have q2 := hw'.tail.tail.head; have q3 := hw'.tail.tail.tail.head; go_simp⟩) s0 ?_
    try simp only [Act.put, List.getElem_toArray, List.getElem_cons_succ, List.getElem_cons_zero, List.setIfInBounds_toArray, List.set_cons_zero, List.set_cons_succ, Nat.zero_add, List.nil_append]
    refine wpAnyH_ready (rs := [4, 6]) (by kernel_rfl) (by simp) ?_
    refine AllReadyH.cons rfl (fun K hK => ?_) (AllReadyH.cons rfl (fun K hK => ?_) AllReadyH.nil)
    · skip
      rw [if_pos (by rfl)]
      go_simp
      refine hK.out _ _ s0 (fun _ => ?_)
      clear hK K
      try simp only [Act.put, List.getElem_toArray, List.getElem_cons_succ, List.getElem_cons_zero, List.setIfInBounds_toArray, List.set_cons_zero, List.set_cons_succ, Nat.zero_add, List.nil_append]
      refine wpAnyH_ready (rs := [6]) (by kernel_rfl) (by simp) ?_
      refine AllReadyH.cons rfl (fun K hK => ?_) AllReadyH.nil
      rw [if_pos (by rfl)]
      go_simp
      have b3 : Below wd.heap.size wd (wd.alloc (.cells #[.int .u64 (pid : Int), .int .i64 fr, .int .i64 dn, .slice ao2 n cap2] 52)) := below_alloc (Below.refl _ _) _
      have r3 := heap_alloc_new wd (.cells #[.int .u64 (pid : Int), .int .i64 fr, .int .i64 dn, .slice ao2 n cap2] 52)
      have s1 := s0.below b3
      have BV := Lib.hid (BWD.out.trans (b3.mono BWD.out.size))
      have y3 := (BV.out.cell (p := ⟨tb, 3, none⟩) HTLB.out).trans CELL.out
      generalize wd.alloc (.cells #[.int .u64 (pid : Int), .int .i64 fr, .int .i64 dn, .slice ao2 n cap2] 52) = v3 at *
      obtain ⟨pb, hpb⟩ : ∃ q, q = wd.heap.size := ⟨_, rfl⟩
      rw [← hpb] at r3 ⊢
      have R3 := Lib.hid r3
      have HV3 : Hid (wd.heap.size ≤ v3.heap.size) := Lib.hid b3.size
      have BW3 := Lib.hid (BD.out.trans (b3.mono BD.out.size))
      clear b3 r3 hpb
      refine hK.out _ _ s1 (fun _ => ?_)
      clear hK K
      try simp only [Act.put, List.getElem_toArray, List.getElem_cons_succ, List.getElem_cons_zero, List.setIfInBounds_toArray, List.set_cons_zero, List.set_cons_succ, Nat.zero_add, List.nil_append]
      refine wpAnyH_ready (rs := [7]) (by kernel_rfl) (by simp) ?_
      refine AllReadyH.cons rfl (fun K hK => ?_) AllReadyH.nil
      rw [if_pos (by rfl)]
      have hBv : B ≤ v3.heap.size := Nat.le_trans HLOB.out BV.out.size
      have hxown : v3.ownsRow B 52 4 (.slice wv2 sn wc2) sn (fl Pkt.list V) := by have := owns_keep RH7.out.own (Keep.of_below BV.out []) (by simp); rwa [HSV.out] at this
      refine wp_append_lies _ (.tmp 25) (.tmp 27) 31 rfl B 52 i0 _ 4 48 Try.underlying31 HI.out HZ0.out HZ1.out HZ2.out rfl (by decide) (.slice wv2 sn wc2) sn (fl Pkt.list V) rfl hxown ⟨pb, 0, none⟩ 1 1 (Pkt.list ⟨pid, fr, dn, ao2, cap2, l⟩) rfl rfl (news_pkt (p := ⟨pid, fr, dn, ao2, cap2, l⟩) (by have := R3.out; have e := HLN.out; subst e; exact this)) (list_one _) (by decide) (by unfold maxLen; omega) (by omega) hBv _ rfl ?_
      intro ga ca v4 own4 gr4 at4 lt4
      have kg := keep_grown gr4
      have hnl : ∀ g, g ∈ blk wv2 → g < w6.heap.size := fun g hg => (RH7.out.blocks g (List.mem_append.2 (.inl hg))).2
      have z0 := (kg.cell (a := ⟨tb, 3, none⟩) (Nat.lt_of_lt_of_le HTLB.out BV.out.size) TNL.out).trans y3
      have z1 := (kg.frozen (a := ⟨tb, 3, none⟩) (Nat.lt_of_lt_of_le HTLB.out BV.out.size) TNL.out).trans ((BV.out.frozen (p := ⟨tb, 3, none⟩) HTLB.out).trans (frozen_of_row _ _ _ _ _ ROWT.out))
      have s4 := s1.keep kg (by intro p hp; simp only [List.mem_cons, List.not_mem_nil, or_false] at hp; rcases hp with rfl | rfl | rfl | rfl <;> exact XNL.out)
      have PU := Lib.hid (PUSH.out.pushV (p := ⟨pid, fr, dn, ao2, cap2, l⟩) ROWT.out RH6.out RH7.out RH8.out RH9.out RH10.out RH11.out HSV.out (by show Own _ B _ l.length _ l; rw [HLN.out]; exact PO.out) PT.out BV.out gr4 own4 at4 rfl)
      have KT := Lib.hid (((Keep.of_below BV.out (tb :: blk wv2)).trans (kg.mono (fun q hq => .inl (List.mem_cons_of_mem _ hq)))).trans ((Keep.setCell v4 ⟨tb, 3, none⟩ (.slice (some ⟨ga, 0, none⟩) (sn + 1) ca)).mono (by simp)))
      have GA := Lib.hid (own_gg at4)
      have LT4 := Lib.hid lt4
      have KT1 := Lib.hid (((Keep.of_below BW3.out (tb :: blk wv2)).trans (kg.mono (fun q hq => .inl (List.mem_cons_of_mem _ hq)))).trans ((Keep.setCell v4 ⟨tb, 3, none⟩ (.slice (some ⟨ga, 0, none⟩) (sn + 1) ca)).mono (by simp)))
      have V4 := Lib.hid (show v3.heap.size ≤ v4.heap.size from kg.size)
      have V3 := Lib.hid (show w6.heap.size ≤ v3.heap.size from Nat.le_trans HXD.out HV3.out)
      clear own4 gr4 at4 lt4 kg y3
      refine hK.out _ _ s4 (fun _ => ?_)
      clear hK K
      try simp only [Act.put, List.getElem_toArray, List.getElem_cons_succ, List.getElem_cons_zero, List.setIfInBounds_toArray, List.set_cons_zero, List.set_cons_succ, Nat.zero_add, List.nil_append]
      refine wpAnyH_take (i := 8) (v := .pointer (some ⟨tb, 0, none⟩)) rfl (by kernel_rfl) (by kernel_rfl) (by kernel_rfl) (fun _ _ _ h => h) (Or.inl ⟨by rfl, fun w' hw' => by go_simp⟩) s4 ?_
      try simp only [Act.put, List.getElem_toArray, List.getElem_cons_succ, List.getElem_cons_zero, List.setIfInBounds_toArray, List.set_cons_zero, List.set_cons_succ, Nat.zero_add, List.nil_append]
      refine wpAnyH_take (i := 9) (v := .pointer (some ⟨tb, 3, none⟩)) rfl (by kernel_rfl) (by kernel_rfl) (by kernel_rfl) (fun _ _ _ h => h) (Or.inl ⟨by rfl, fun w' hw' => by go_simp⟩) s4 ?_
      try simp only [Act.put, List.getElem_toArray, List.getElem_cons_succ, List.getElem_cons_zero, List.setIfInBounds_toArray, List.set_cons_zero, List.set_cons_succ, Nat.zero_add, List.nil_append]
      refine wpAnyH_ready (rs := [10]) (by kernel_rfl) (by simp) ?_
      refine AllReadyH.cons rfl (fun K hK => ?_) AllReadyH.nil
      rw [if_pos (by rfl)]
      go_simp
      have s5 := s4.set ⟨tb, 3, none⟩ (.slice (some ⟨ga, 0, none⟩) (sn + 1) ca) (by intro p hp; simp only [List.mem_cons, List.not_mem_nil, or_false] at hp; rcases hp with rfl | rfl | rfl | rfl <;> (intro e; simp only [Addr.mk.injEq] at e; exact XNT.out e.1))
      refine hK.out _ _ s5 (fun _ => ?_)
      clear hK K
      try simp only [Act.put, List.getElem_toArray, List.getElem_cons_succ, List.getElem_cons_zero, List.setIfInBounds_toArray, List.set_cons_zero, List.set_cons_succ, Nat.zero_add, List.nil_append]
      refine wpAnyH_done (by kernel_rfl) ?_ _
      clear s0 s1 s4 s5 z0 z1 y0
      have HV9 : Hid (v4.heap.size ≤ (v4.setCell ⟨tb, 3, none⟩ (.slice (some ⟨ga, 0, none⟩) (sn + 1) ca)).heap.size) := Lib.hid (Keep.setCell _ _ _).size
      generalize v4.setCell ⟨tb, 3, none⟩ (.slice (some ⟨ga, 0, none⟩) (sn + 1) ca) = w9 at *
      obtain ⟨_, _, _, _, _, u6, u7, _⟩ := PU.out.out
      have rdA := (u6.pk.own ⟨pid, fr, dn, ao, cap, l⟩ (by simp)).rd
      have rdB := (u7.pk.own ⟨pid, fr, dn, ao2, cap2, l⟩ (by simp)).rd
      obtain ⟨e0, e1, e2, e3, _, _, _, _, hl0⟩ := (R0F.out.keep KT.out X0N.out).all
      obtain ⟨g0, g1, g2, g3, _, _, _, _, hl1⟩ := (R1F.out.keep KT.out X1N.out).all
      have PS := Lib.hid (psame_yes pid fr dn l ao ao2 n cap cap2 HLN.out (by omega) w9 rdA rdB)
      have BBX := Lib.hid (BB6.out.trans (KT.out.below (Nat.le_trans HLO.out BB6.out.size) KTB.out))
      have H96 : Hid (B ≤ w9.heap.size) := Lib.hid (Nat.le_trans HLO.out BBX.out.size)
      clear rdA rdB u6 u7
      go_wp2_with fail
      refine PS.out.mono ?_; rintro e w10 ⟨rfl, b10⟩
      have PU10 := Lib.hid (PU.out.below b10)
      have B10 := Lib.hid (BBX.out.trans (b10.mono H96.out))
      clear b10 e0 e1 e2 e3 g0 g1 g2 g3 hl0 hl1
      go_wp2_with fail
      go_ret
      exact ⟨rfl, _, ao2, cap2, PU10.out, B10.out⟩
    · skip
      rw [if_pos (by rfl)]
      go_simp
      have b3 : Below wd.heap.size wd (wd.alloc (.cells #[.int .u64 (pid : Int), .int .i64 fr, .int .i64 dn, .slice ao2 n cap2] 52)) := below_alloc (Below.refl _ _) _
      have r3 := heap_alloc_new wd (.cells #[.int .u64 (pid : Int), .int .i64 fr, .int .i64 dn, .slice ao2 n cap2] 52)
      have s1 := s0.below b3
      have BV := Lib.hid (BWD.out.trans (b3.mono BWD.out.size))
      have y3 := (BV.out.cell (p := ⟨tb, 3, none⟩) HTLB.out).trans CELL.out
      generalize wd.alloc (.cells #[.int .u64 (pid : Int), .int .i64 fr, .int .i64 dn, .slice ao2 n cap2] 52) = v3 at *
      obtain ⟨pb, hpb⟩ : ∃ q, q = wd.heap.size := ⟨_, rfl⟩
      rw [← hpb] at r3 ⊢
      have R3 := Lib.hid r3
      have HV3 : Hid (wd.heap.size ≤ v3.heap.size) := Lib.hid b3.size
      have BW3 := Lib.hid (BD.out.trans (b3.mono BD.out.size))
      clear b3 r3 hpb
      refine hK.out _ _ s1 (fun _ => ?_)
      clear hK K
      try simp only [Act.put, List.getElem_toArray, List.getElem_cons_succ, List.getElem_cons_zero, List.setIfInBounds_toArray, List.set_cons_zero, List.set_cons_succ, Nat.zero_add, List.nil_append]
      refine wpAnyH_ready (rs := [4]) (by kernel_rfl) (by simp) ?_
      refine AllReadyH.cons rfl (fun K hK => ?_) AllReadyH.nil
      rw [if_pos (by rfl)]
      go_simp
      refine hK.out _ _ s1 (fun _ => ?_)
      clear hK K
      try simp only [Act.put, List.getElem_toArray, List.getElem_cons_succ, List.getElem_cons_zero, List.setIfInBounds_toArray, List.set_cons_zero, List.set_cons_succ, Nat.zero_add, List.nil_append]
      refine wpAnyH_ready (rs := [7]) (by kernel_rfl) (by simp) ?_
      refine AllReadyH.cons rfl (fun K hK => ?_) AllReadyH.nil
      rw [if_pos (by rfl)]
      have hBv : B ≤ v3.heap.size := Nat.le_trans HLOB.out BV.out.size
      have hxown : v3.ownsRow B 52 4 (.slice wv2 sn wc2) sn (fl Pkt.list V) := by have := owns_keep RH7.out.own (Keep.of_below BV.out []) (by simp); rwa [HSV.out] at this
      refine wp_append_lies _ (.tmp 25) (.tmp 27) 31 rfl B 52 i0 _ 4 48 Try.underlying31 HI.out HZ0.out HZ1.out HZ2.out rfl (by decide) (.slice wv2 sn wc2) sn (fl Pkt.list V) rfl hxown ⟨pb, 0, none⟩ 1 1 (Pkt.list ⟨pid, fr, dn, ao2, cap2, l⟩) rfl rfl (news_pkt (p := ⟨pid, fr, dn, ao2, cap2, l⟩) (by have := R3.out; have e := HLN.out; subst e; exact this)) (list_one _) (by decide) (by unfold maxLen; omega) (by omega) hBv _ rfl ?_
      intro ga ca v4 own4 gr4 at4 lt4
      have kg := keep_grown gr4
      have hnl : ∀ g, g ∈ blk wv2 → g < w6.heap.size := fun g hg => (RH7.out.blocks g (List.mem_append.2 (.inl hg))).2
      have z0 := (kg.cell (a := ⟨tb, 3, none⟩) (Nat.lt_of_lt_of_le HTLB.out BV.out.size) TNL.out).trans y3
      have z1 := (kg.frozen (a := ⟨tb, 3, none⟩) (Nat.lt_of_lt_of_le HTLB.out BV.out.size) TNL.out).trans ((BV.out.frozen (p := ⟨tb, 3, none⟩) HTLB.out).trans (frozen_of_row _ _ _ _ _ ROWT.out))
      have s4 := s1.keep kg (by intro p hp; simp only [List.mem_cons, List.not_mem_nil, or_false] at hp; rcases hp with rfl | rfl | rfl | rfl <;> exact XNL.out)
      have PU := Lib.hid (PUSH.out.pushV (p := ⟨pid, fr, dn, ao2, cap2, l⟩) ROWT.out RH6.out RH7.out RH8.out RH9.out RH10.out RH11.out HSV.out (by show Own _ B _ l.length _ l; rw [HLN.out]; exact PO.out) PT.out BV.out gr4 own4 at4 rfl)
      have KT := Lib.hid (((Keep.of_below BV.out (tb :: blk wv2)).trans (kg.mono (fun q hq => .inl (List.mem_cons_of_mem _ hq)))).trans ((Keep.setCell v4 ⟨tb, 3, none⟩ (.slice (some ⟨ga, 0, none⟩) (sn + 1) ca)).mono (by simp)))
      have GA := Lib.hid (own_gg at4)
      have LT4 := Lib.hid lt4
      have KT1 := Lib.hid (((Keep.of_below BW3.out (tb :: blk wv2)).trans (kg.mono (fun q hq => .inl (List.mem_cons_of_mem _ hq)))).trans ((Keep.setCell v4 ⟨tb, 3, none⟩ (.slice (some ⟨ga, 0, none⟩) (sn + 1) ca)).mono (by simp)))
      have V4 := Lib.hid (show v3.heap.size ≤ v4.heap.size from kg.size)
      have V3 := Lib.hid (show w6.heap.size ≤ v3.heap.size from Nat.le_trans HXD.out HV3.out)
      clear own4 gr4 at4 lt4 kg y3
      refine hK.out _ _ s4 (fun _ => ?_)
      clear hK K
      try simp only [Act.put, List.getElem_toArray, List.getElem_cons_succ, List.getElem_cons_zero, List.setIfInBounds_toArray, List.set_cons_zero, List.set_cons_succ, Nat.zero_add, List.nil_append]
      refine wpAnyH_take (i := 8) (v := .pointer (some ⟨tb, 0, none⟩)) rfl (by kernel_rfl) (by kernel_rfl) (by kernel_rfl) (fun _ _ _ h => h) (Or.inl ⟨by rfl, fun w' hw' => by go_simp⟩) s4 ?_
      try simp only [Act.put, List.getElem_toArray, List.getElem_cons_succ, List.getElem_cons_zero, List.setIfInBounds_toArray, List.set_cons_zero, List.set_cons_succ, Nat.zero_add, List.nil_append]
      refine wpAnyH_take (i := 9) (v := .pointer (some ⟨tb, 3, none⟩)) rfl (by kernel_rfl) (by kernel_rfl) (by kernel_rfl) (fun _ _ _ h => h) (Or.inl ⟨by rfl, fun w' hw' => by go_simp⟩) s4 ?_
      try simp only [Act.put, List.getElem_toArray, List.getElem_cons_succ, List.getElem_cons_zero, List.setIfInBounds_toArray, List.set_cons_zero, List.set_cons_succ, Nat.zero_add, List.nil_append]
      refine wpAnyH_ready (rs := [10]) (by kernel_rfl) (by simp) ?_
      refine AllReadyH.cons rfl (fun K hK => ?_) AllReadyH.nil
      rw [if_pos (by rfl)]
      go_simp
      have s5 := s4.set ⟨tb, 3, none⟩ (.slice (some ⟨ga, 0, none⟩) (sn + 1) ca) (by intro p hp; simp only [List.mem_cons, List.not_mem_nil, or_false] at hp; rcases hp with rfl | rfl | rfl | rfl <;> (intro e; simp only [Addr.mk.injEq] at e; exact XNT.out e.1))
      refine hK.out _ _ s5 (fun _ => ?_)
      clear hK K
      try simp only [Act.put, List.getElem_toArray, List.getElem_cons_succ, List.getElem_cons_zero, List.setIfInBounds_toArray, List.set_cons_zero, List.set_cons_succ, Nat.zero_add, List.nil_append]
      refine wpAnyH_done (by kernel_rfl) ?_ _
      clear s0 s1 s4 s5 z0 z1 y0
      have HV9 : Hid (v4.heap.size ≤ (v4.setCell ⟨tb, 3, none⟩ (.slice (some ⟨ga, 0, none⟩) (sn + 1) ca)).heap.size) := Lib.hid (Keep.setCell _ _ _).size
      generalize v4.setCell ⟨tb, 3, none⟩ (.slice (some ⟨ga, 0, none⟩) (sn + 1) ca) = w9 at *
      obtain ⟨_, _, _, _, _, u6, u7, _⟩ := PU.out.out
      have rdA := (u6.pk.own ⟨pid, fr, dn, ao, cap, l⟩ (by simp)).rd
      have rdB := (u7.pk.own ⟨pid, fr, dn, ao2, cap2, l⟩ (by simp)).rd
      obtain ⟨e0, e1, e2, e3, _, _, _, _, hl0⟩ := (R0F.out.keep KT.out X0N.out).all
      obtain ⟨g0, g1, g2, g3, _, _, _, _, hl1⟩ := (R1F.out.keep KT.out X1N.out).all
      have PS := Lib.hid (psame_yes pid fr dn l ao ao2 n cap cap2 HLN.out (by omega) w9 rdA rdB)
      have BBX := Lib.hid (BB6.out.trans (KT.out.below (Nat.le_trans HLO.out BB6.out.size) KTB.out))
      have H96 : Hid (B ≤ w9.heap.size) := Lib.hid (Nat.le_trans HLO.out BBX.out.size)
      clear rdA rdB u6 u7
      go_wp2_with fail
      refine PS.out.mono ?_; rintro e w10 ⟨rfl, b10⟩
      have PU10 := Lib.hid (PU.out.below b10)
      have B10 := Lib.hid (BBX.out.trans (b10.mono H96.out))
      clear b10 e0 e1 e2 e3 g0 g1 g2 g3 hl0 hl1
      go_wp2_with fail
      go_ret
      exact ⟨rfl, _, ao2, cap2, PU10.out, B10.out⟩
  · skip
    rw [if_pos (by rfl)]
    go_simp
    have b3 : Below wd.heap.size wd (wd.alloc (.cells #[.int .u64 (pid : Int), .int .i64 fr, .int .i64 dn, .slice ao n cap] 52)) := below_alloc (Below.refl _ _) _
    have r3 := heap_alloc_new wd (.cells #[.int .u64 (pid : Int), .int .i64 fr, .int .i64 dn, .slice ao n cap] 52)
    have s1 := s0.below b3
    have BV := Lib.hid (BWD.out.trans (b3.mono BWD.out.size))
    have y3 := (BV.out.cell (p := ⟨tb, 2, none⟩) HTLB.out).trans CELL.out
    generalize wd.alloc (.cells #[.int .u64 (pid : Int), .int .i64 fr, .int .i64 dn, .slice ao n cap] 52) = v3 at *
    obtain ⟨pb, hpb⟩ : ∃ q, q = wd.heap.size := ⟨_, rfl⟩
    rw [← hpb] at r3 ⊢
    have R3 := Lib.hid r3
    have HV3 : Hid (wd.heap.size ≤ v3.heap.size) := Lib.hid b3.size
    have BW3 := Lib.hid (BD.out.trans (b3.mono BD.out.size))
    clear b3 r3 hpb
    refine hK.out _ _ s1 (fun _ => ?_)
    clear hK K
    try simp only [Act.put, List.getElem_toArray, List.getElem_cons_succ, List.getElem_cons_zero, List.setIfInBounds_toArray, List.set_cons_zero, List.set_cons_succ, Nat.zero_add, List.nil_append]
    refine wpAnyH_ready (rs := [4]) (by kernel_rfl) (by simp) ?_
    refine AllReadyH.cons rfl (fun K hK => ?_) AllReadyH.nil
    rw [if_pos (by rfl)]
    go_simp
    refine hK.out _ _ s1 (fun _ => ?_)
    clear hK K
    try simp only [Act.put, List.getElem_toArray, List.getElem_cons_succ, List.getElem_cons_zero, List.setIfInBounds_toArray, List.set_cons_zero, List.set_cons_succ, Nat.zero_add, List.nil_append]
    refine wpAnyH_ready (rs := [7]) (by kernel_rfl) (by simp) ?_
    refine AllReadyH.cons rfl (fun K hK => ?_) AllReadyH.nil
    rw [if_pos (by rfl)]
    have hBv : B ≤ v3.heap.size := Nat.le_trans HLOB.out BV.out.size
    have hxown : v3.ownsRow B 52 4 (.slice la sn lc) sn (fl Pkt.list L) := by have := owns_keep H6.out.own (Keep.of_below BV.out []) (by simp); rwa [HSN.out] at this
    refine wp_append_lies _ (.tmp 11) (.tmp 13) 31 rfl B 52 i0 _ 4 48 Try.underlying31 HI.out HZ0.out HZ1.out HZ2.out rfl (by decide) (.slice la sn lc) sn (fl Pkt.list L) rfl hxown ⟨pb, 0, none⟩ 1 1 (Pkt.list ⟨pid, fr, dn, ao, cap, l⟩) rfl rfl (news_pkt (p := ⟨pid, fr, dn, ao, cap, l⟩) (by have := R3.out; have e := HLN.out; subst e; exact this)) (list_one _) (by decide) (by unfold maxLen; omega) (by omega) hBv _ rfl ?_
    intro ga ca v4 own4 gr4 at4 lt4
    have kg := keep_grown gr4
    have hnl : ∀ g, g ∈ blk la → g < w.heap.size := fun g hg => (H6.out.blocks g (List.mem_append.2 (.inl hg))).2
    have z0 := (kg.cell (a := ⟨tb, 2, none⟩) (Nat.lt_of_lt_of_le HTLB.out BV.out.size) TNL.out).trans y3
    have z1 := (kg.frozen (a := ⟨tb, 2, none⟩) (Nat.lt_of_lt_of_le HTLB.out BV.out.size) TNL.out).trans ((BV.out.frozen (p := ⟨tb, 2, none⟩) HTLB.out).trans (frozen_of_row _ _ _ _ _ ROWT.out))
    have s4 := s1.keep kg (by intro p hp; simp only [List.mem_cons, List.not_mem_nil, or_false] at hp; rcases hp with rfl | rfl | rfl | rfl <;> exact XNL.out)
    have PU := Lib.hid (PUSH.out.pushL (p := ⟨pid, fr, dn, ao, cap, l⟩) ROWT.out RH6.out RH7.out RH8.out RH9.out RH10.out RH11.out HSN.out (by show Own _ B _ l.length _ l; rw [HLN.out]; exact PO.out) PT.out BV.out gr4 own4 at4 rfl)
    have KT := Lib.hid (((Keep.of_below BV.out (tb :: blk la)).trans (kg.mono (fun q hq => .inl (List.mem_cons_of_mem _ hq)))).trans ((Keep.setCell v4 ⟨tb, 2, none⟩ (.slice (some ⟨ga, 0, none⟩) (sn + 1) ca)).mono (by simp)))
    have GA := Lib.hid (own_gg at4)
    have LT4 := Lib.hid lt4
    have KT1 := Lib.hid (((Keep.of_below BW3.out (tb :: blk la)).trans (kg.mono (fun q hq => .inl (List.mem_cons_of_mem _ hq)))).trans ((Keep.setCell v4 ⟨tb, 2, none⟩ (.slice (some ⟨ga, 0, none⟩) (sn + 1) ca)).mono (by simp)))
    have V4 := Lib.hid (show v3.heap.size ≤ v4.heap.size from kg.size)
    have V3 := Lib.hid (show w1.heap.size ≤ v3.heap.size from Nat.le_trans HXD.out HV3.out)
    clear own4 gr4 at4 lt4 kg y3
    refine hK.out _ _ s4 (fun _ => ?_)
    clear hK K
    try simp only [Act.put, List.getElem_toArray, List.getElem_cons_succ, List.getElem_cons_zero, List.setIfInBounds_toArray, List.set_cons_zero, List.set_cons_succ, Nat.zero_add, List.nil_append]
    refine wpAnyH_take (i := 8) (v := .pointer (some ⟨tb, 0, none⟩)) rfl (by kernel_rfl) (by kernel_rfl) (by kernel_rfl) (fun _ _ _ h => h) (Or.inl ⟨by rfl, fun w' hw' => by go_simp⟩) s4 ?_
    try simp only [Act.put, List.getElem_toArray, List.getElem_cons_succ, List.getElem_cons_zero, List.setIfInBounds_toArray, List.set_cons_zero, List.set_cons_succ, Nat.zero_add, List.nil_append]
    refine wpAnyH_take (i := 9) (v := .pointer (some ⟨tb, 2, none⟩)) rfl (by kernel_rfl) (by kernel_rfl) (by kernel_rfl) (fun _ _ _ h => h) (Or.inl ⟨by rfl, fun w' hw' => by go_simp⟩) s4 ?_
    try simp only [Act.put, List.getElem_toArray, List.getElem_cons_succ, List.getElem_cons_zero, List.setIfInBounds_toArray, List.set_cons_zero, List.set_cons_succ, Nat.zero_add, List.nil_append]
    refine wpAnyH_ready (rs := [10]) (by kernel_rfl) (by simp) ?_
    refine AllReadyH.cons rfl (fun K hK => ?_) AllReadyH.nil
    rw [if_pos (by rfl)]
    go_simp
    have s5 := s4.set ⟨tb, 2, none⟩ (.slice (some ⟨ga, 0, none⟩) (sn + 1) ca) (by intro p hp; simp only [List.mem_cons, List.not_mem_nil, or_false] at hp; rcases hp with rfl | rfl | rfl | rfl <;> (intro e; simp only [Addr.mk.injEq] at e; exact XNT.out e.1))
    refine hK.out _ _ s5 (fun _ => ?_)
    clear hK K
    try simp only [Act.put, List.getElem_toArray, List.getElem_cons_succ, List.getElem_cons_zero, List.setIfInBounds_toArray, List.set_cons_zero, List.set_cons_succ, Nat.zero_add, List.nil_append]
    refine wpAnyH_done (by kernel_rfl) ?_ _
    clear s0 s1 s4 s5 z0 z1 y0
    have HV9 : Hid (v4.heap.size ≤ (v4.setCell ⟨tb, 2, none⟩ (.slice (some ⟨ga, 0, none⟩) (sn + 1) ca)).heap.size) := Lib.hid (Keep.setCell _ _ _).size
    generalize v4.setCell ⟨tb, 2, none⟩ (.slice (some ⟨ga, 0, none⟩) (sn + 1) ca) = w4 at *
    have X0L : Hid (x0 < w1.heap.size ∧ x1 < w1.heap.size) := Lib.hid ⟨(Array.getElem?_eq_some_iff.1 Q0.out).1, (Array.getElem?_eq_some_iff.1 Q1.out).1⟩
    have X1NL : Hid (x1 ∉ tb :: blk la) := Lib.hid (fun hm => by
      have hh := HX1.out
      rcases List.mem_cons.1 hm with e | hm
      · have := HTL.out; omega
      · have := (H6.out.blocks x1 (List.mem_append.2 (.inl hm))).2; omega)
    have X0NL : Hid (x0 ∉ tb :: blk la) := Lib.hid (fun hm => by
      have hh := HX0.out
      rcases List.mem_cons.1 hm with e | hm
      · have := HTL.out; omega
      · have := (H6.out.blocks x0 (List.mem_append.2 (.inl hm))).2; omega)
    have HGA : Hid (x1 ≠ ga ∧ x0 ≠ ga) := Lib.hid (by
      have h1 := X0L.out; have h2 := V3.out
      rcases GA.out with h | h
      · exact ⟨fun e => X1NL.out (by rw [e]; exact List.mem_cons_of_mem _ h), fun e => X0NL.out (by rw [e]; exact List.mem_cons_of_mem _ h)⟩
      · exact ⟨by omega, by omega⟩)
    have HAO : Hid (∀ g ∈ blk ao, g < w.heap.size) := Lib.hid (fun g hg => (HP.out.lt_size g hg).2)
    have TX : Hid (ptag tg w.heap.size ga (blk ao) 3 5 x1 = 7 ∧ ptag tg w.heap.size ga (blk ao) 3 5 x0 = 7) := Lib.hid ⟨ptag_new HGA.out.1 (fun hm => by have := HAO.out _ hm; have := HX1.out; omega) (by have := HX1.out; omega), ptag_new HGA.out.2 (fun hm => by have := HAO.out _ hm; have := HX0.out; omega) (by have := HX0.out; omega)⟩
    have GAL : Hid (ga < w4.heap.size) := Lib.hid (Nat.lt_of_lt_of_le LT4.out HV9.out)
    have TN : Hid (∀ g, w4.heap.size ≤ g → ptag tg w.heap.size ga (blk ao) 3 5 g = 7) := Lib.hid (fun g hg => ptag_new (by have := GAL.out; omega) (fun hm => by have := HAO.out _ hm; have := B1.out.size; have := V3.out; have := V4.out; have := HV9.out; omega) (by have := B1.out.size; have := V3.out; have := V4.out; have := HV9.out; omega))
    have HQ4 := Lib.hid (HQ.out.keep KT.out (fun g hg hm => by
      have h1 := HQT.out g hg
      rcases List.mem_cons.1 hm with e | hm
      · subst e; exact h1.1 H.out.tt
      · exact h1.2 (H8.out g hm)))
    have HX14 : Hid (x1 < w4.heap.size ∧ x0 < w4.heap.size) := Lib.hid (by have := X0L.out; have := V3.out; have := V4.out; have := HV9.out; omega)
    have R14 := Lib.hid (Q1.out.keep KT1.out X1NL.out)
    have R04 := Lib.hid (Q0.out.keep KT1.out X0NL.out)
    have BB4 := Lib.hid (KT.out.below HLO.out (by
      intro g hg
      rcases List.mem_cons.1 hg with rfl | hg
      · exact H.out.base
      · exact (H6.out.blocks g (List.mem_append.2 (.inl hg))).1))
    have OWN := Lib.hid (own_any n bc w4 HQ4.out HLN.out (by omega))
    have PU4 := PU
    have HX01 : Hid (x0 ≠ x1) := Lib.hid (by have := HX0.out; have := HX1.out; omega)
    clear PU GA LT4 KT KT1 V3 V4 HV9 HV3 HXD BW3 BV R3 BWD BD HHL X0L
    obtain ⟨f0, f1, f2, f3, _, _, _, _, hlx⟩ := R14.out.all
    go_upto_region 3 with (refine OWN.out.mono ?_; rintro e w5 ⟨ao2, cap2, rfl, own5, b5⟩; obtain ⟨g0, g1, g2, g3, k0, k1, k2, k3, hly⟩ := (R14.out.below b5).all)
    have R15 := Lib.hid (R14.out.below b5)
    have KS := Lib.hid (Keep.setCell w5 ⟨x1, 3, none⟩ (.slice ao2 n cap2))
    have W5 := Lib.hid b5.size
    have O6 := Lib.hid ((own5.keep KS.out (fun g hg hm => by simp only [List.mem_singleton] at hm; have := (own5.lt_size g hg).1; have := HX14.out; omega)))
    have R06 := Lib.hid ((R04.out.below b5).keep KS.out (by simpa using HX01.out))
    have R16 : Hid (Row4 (w5.setCell ⟨x1, 3, none⟩ (.slice ao2 n cap2)) x1 (.int .u64 (pid : Int)) (.int .i64 fr) (.int .i64 dn) (.slice ao2 n cap2)) := Lib.hid (by
      have := heap_setCell_same w5 x1 3 _ _ (.slice ao2 n cap2) R15.out
      simpa using this)
    have PU6 := Lib.hid ((PU4.out.below b5).keep KS.out (by intro g hg; simp only [List.mem_singleton] at hg; subst hg; exact Nat.le_of_eq TX.out.1.symm))
    have HX1B : Hid (B ≤ x1) := Lib.hid (by have := HLO.out; have := HX1.out; omega)
    have BB6 := Lib.hid ((BB4.out.trans (b5.mono (Nat.le_trans HLO.out BB4.out.size))).trans (KS.out.below (Nat.le_trans HLO.out (Nat.le_trans BB4.out.size b5.size)) (by intro g hg; simp only [List.mem_singleton] at hg; subst hg; exact HX1B.out)))
    have W4B := Lib.hid (Nat.le_trans HLO.out BB4.out.size)
    have OB : Hid (∀ g ∈ blk ao2, w4.heap.size ≤ g) := Lib.hid (fun g hg => (own5.lt_size g hg).1)
    clear own5 b5 f0 f1 f2 f3 hlx g0 g1 g2 g3 k0 k1 k2 k3 hly R15 R14 R04 KS PU4 OWN HQ4 BB4
    generalize w5.setCell ⟨x1, 3, none⟩ (.slice ao2 n cap2) = w6 at *
    obtain ⟨la2, lc2, wv2, wc2, h5, h6, h7, h8, h9, h10, h11⟩ := PU6.out.out
    have PUSH := PU6; have ROWT := Lib.hid h5; have RH6 := Lib.hid h6; have RH7 := Lib.hid h7; have RH8 := Lib.hid h8; have RH9 := Lib.hid h9; have RH10 := Lib.hid h10; have RH11 := Lib.hid h11
    have HTLB := Lib.hid PU6.out.lt; have HLOB := Lib.hid PU6.out.lo
    have CELL : Hid (w6.cell? ⟨tb, 3, none⟩ = some (.slice wv2 sn wc2)) := Lib.hid (by have := cell_of_row w6 tb 3 _ _ (0, 0) h5; rw [HSV.out] at this; exact this)
    have TNL : Hid (tb ∉ blk wv2) := Lib.hid (fun hm => by have := RH9.out tb hm; have := PU6.out.tt; omega)
    have XNL : Hid (x1 ∉ blk wv2) := Lib.hid (fun hm => by have := RH9.out x1 hm; have := TX.out; omega)
    have XNT : Hid (x1 ≠ tb) := Lib.hid (by have := HX1.out; have := HTL.out; omega)
    have X0N : Hid (x0 ∉ tb :: blk wv2) := Lib.hid (fun hm => by
      have h1 := TX.out
      rcases List.mem_cons.1 hm with e | hm
      · have := HX0.out; have := HTL.out; omega
      · have := RH9.out x0 hm; omega)
    have X1N : Hid (x1 ∉ tb :: blk wv2) := Lib.hid (fun hm => by
      rcases List.mem_cons.1 hm with e | hm
      · exact XNT.out e
      · exact XNL.out hm)
    have PO : Hid (Own w6 B ao2 n cap2 l) := Lib.hid (O6.out.base W4B.out)
    have PT : Hid (∀ g ∈ blk ao2, 7 ≤ ptag tg w.heap.size ga (blk ao) 3 5 g) := Lib.hid (fun g hg => Nat.le_of_eq (TN.out g (OB.out g hg)).symm)
    have R0F := R06; have R1F := R16
    have KTB : Hid (∀ g ∈ tb :: blk wv2, B ≤ g) := Lib.hid (by
      intro g hg
      rcases List.mem_cons.1 hg with rfl | hg
      · exact PU6.out.base
      · exact (RH7.out.blocks g (List.mem_append.2 (.inl hg))).1)
    have B6R : Hid (Below w6.heap.size w6 w6) := Lib.hid (Below.refl _ _)
    clear h5 h6 h7 h8 h9 h10 h11
    obtain ⟨e0, e1, e2, e3, _, _, _, _, hxl⟩ := R16.out.all
    have HHL : Hid (Holds w6 [(⟨x1, 0, none⟩, .int .u64 (pid : Int)), (⟨x1, 1, none⟩, .int .i64 fr), (⟨x1, 2, none⟩, .int .i64 dn), (⟨x1, 3, none⟩, .slice ao2 n cap2)]) := Lib.hid (.cons e0 hxl (.cons e1 hxl (.cons e2 hxl (.cons e3 hxl (.nil _)))))
    clear e0 e1 e2 e3
    refine wp_region_held_drew (S := fun w' => Holds w' [(⟨x1, 0, none⟩, .int .u64 (pid : Int)), (⟨x1, 1, none⟩, .int .i64 fr), (⟨x1, 2, none⟩, .int .i64 dn), (⟨x1, 3, none⟩, .slice ao2 n cap2)]) (by kernel_rfl) (HHL.out.drew) (fun s0 => ?_)
    have BD : Hid (Below w6.heap.size w6 w6.drew) := Lib.hid (Below.refl _ _).drew
    generalize w6.drew = wd at *
    have BWD := Lib.hid (B6R.out.trans (BD.out.mono B6R.out.size))
    have y0 := (BWD.out.cell (p := ⟨tb, 3, none⟩) HTLB.out).trans CELL.out
    have HXD := Lib.hid (show wd.heap.size ≥ w6.heap.size from BD.out.size)
    refine wpAnyH_take (i := 0) (v := .pointer (some ⟨tb, 0, none⟩)) rfl (by kernel_rfl) (by kernel_rfl) (by kernel_rfl) (fun _ _ _ h => h) (Or.inl ⟨by rfl, fun w' hw' => by go_simp⟩) s0 ?_
    try simp only [Act.put, List.getElem_toArray, List.getElem_cons_succ, List.getElem_cons_zero, List.setIfInBounds_toArray, List.set_cons_zero, List.set_cons_succ, Nat.zero_add, List.nil_append]
    refine wpAnyH_take (i := 1) (v := .pointer (some ⟨tb, 0, none⟩)) rfl (by kernel_rfl) (by kernel_rfl) (by kernel_rfl) (fun _ _ _ h => h) (Or.inl ⟨by rfl, fun w' hw' => by go_simp⟩) s0 ?_
    try simp only [Act.put, List.getElem_toArray, List.getElem_cons_succ, List.getElem_cons_zero, List.setIfInBounds_toArray, List.set_cons_zero, List.set_cons_succ, Nat.zero_add, List.nil_append]
    refine wpAnyH_take (i := 2) (v := .pointer (some ⟨tb, 0, none⟩)) rfl (by kernel_rfl) (by kernel_rfl) (by kernel_rfl) (fun _ _ _ h => h) (Or.inl ⟨by rfl, fun w' hw' => by go_simp⟩) s0 ?_
    try simp only [Act.put, List.getElem_toArray, List.getElem_cons_succ, List.getElem_cons_zero, List.setIfInBounds_toArray, List.set_cons_zero, List.set_cons_succ, Nat.zero_add, List.nil_append]
    refine wpAnyH_take (i := 3) (v := .pointer (some ⟨tb, 3, none⟩)) rfl (by kernel_rfl) (by kernel_rfl) (by kernel_rfl) (fun _ _ _ h => h) (Or.inl ⟨by rfl, fun w' hw' => by go_simp⟩) s0 ?_
    try simp only [Act.put, List.getElem_toArray, List.getElem_cons_succ, List.getElem_cons_zero, List.setIfInBounds_toArray, List.set_cons_zero, List.set_cons_succ, Nat.zero_add, List.nil_append]
    refine wpAnyH_take (i := 5) (v := .agg #[.int .u64 (pid : Int), .int .i64 fr, .int .i64 dn, .slice ao2 n cap2]) rfl (by kernel_rfl) (by kernel_rfl) (by kernel_rfl) (fun _ _ _ h => h) (Or.inl ⟨by rfl, fun w' hw' => by have q0 := hw'.head; have q1 := hw'.tail.head; have q2 := hw'.tail.tail.head; have q3 := hw'.tail.tail.tail.head; go_simp⟩) s0 ?_
    try simp only [Act.put, List.getElem_toArray, List.getElem_cons_succ, List.getElem_cons_zero, List.setIfInBounds_toArray, List.set_cons_zero, List.set_cons_succ, Nat.zero_add, List.nil_append]
    refine wpAnyH_ready (rs := [4, 6]) (by kernel_rfl) (by simp) ?_
    refine AllReadyH.cons rfl (fun K hK => ?_) (AllReadyH.cons rfl (fun K hK => ?_) AllReadyH.nil)
    · skip
      rw [if_pos (by rfl)]
      go_simp
      refine hK.out _ _ s0 (fun _ => ?_)
      clear hK K
      try simp only [Act.put, List.getElem_toArray, List.getElem_cons_succ, List.getElem_cons_zero, List.setIfInBounds_toArray, List.set_cons_zero, List.set_cons_succ, Nat.zero_add, List.nil_append]
      refine wpAnyH_ready (rs := [6]) (by kernel_rfl) (by simp) ?_
      refine AllReadyH.cons rfl (fun K hK => ?_) AllReadyH.nil
      rw [if_pos (by rfl)]
      go_simp
      have b3 : Below wd.heap.size wd (wd.alloc (.cells #[.int .u64 (pid : Int), .int .i64 fr, .int .i64 dn, .slice ao2 n cap2] 52)) := below_alloc (Below.refl _ _) _
      have r3 := heap_alloc_new wd (.cells #[.int .u64 (pid : Int), .int .i64 fr, .int .i64 dn, .slice ao2 n cap2] 52)
      have s1 := s0.below b3
      have BV := Lib.hid (BWD.out.trans (b3.mono BWD.out.size))
      have y3 := (BV.out.cell (p := ⟨tb, 3, none⟩) HTLB.out).trans CELL.out
      generalize wd.alloc (.cells #[.int .u64 (pid : Int), .int .i64 fr, .int .i64 dn, .slice ao2 n cap2] 52) = v3 at *
      obtain ⟨pb, hpb⟩ : ∃ q, q = wd.heap.size := ⟨_, rfl⟩
      rw [← hpb] at r3 ⊢
      have R3 := Lib.hid r3
      have HV3 : Hid (wd.heap.size ≤ v3.heap.size) := Lib.hid b3.size
      have BW3 := Lib.hid (BD.out.trans (b3.mono BD.out.size))
      clear b3 r3 hpb
      refine hK.out _ _ s1 (fun _ => ?_)
      clear hK K
      try simp only [Act.put, List.getElem_toArray, List.getElem_cons_succ, List.getElem_cons_zero, List.setIfInBounds_toArray, List.set_cons_zero, List.set_cons_succ, Nat.zero_add, List.nil_append]
      refine wpAnyH_ready (rs := [7]) (by kernel_rfl) (by simp) ?_
      refine AllReadyH.cons rfl (fun K hK => ?_) AllReadyH.nil
      rw [if_pos (by rfl)]
      have hBv : B ≤ v3.heap.size := Nat.le_trans HLOB.out BV.out.size
      have hxown : v3.ownsRow B 52 4 (.slice wv2 sn wc2) sn (fl Pkt.list V) := by have := owns_keep RH7.out.own (Keep.of_below BV.out []) (by simp); rwa [HSV.out] at this
      refine wp_append_lies _ (.tmp 25) (.tmp 27) 31 rfl B 52 i0 _ 4 48 Try.underlying31 HI.out HZ0.out HZ1.out HZ2.out rfl (by decide) (.slice wv2 sn wc2) sn (fl Pkt.list V) rfl hxown ⟨pb, 0, none⟩ 1 1 (Pkt.list ⟨pid, fr, dn, ao2, cap2, l⟩) rfl rfl (news_pkt (p := ⟨pid, fr, dn, ao2, cap2, l⟩) (by have := R3.out; have e := HLN.out; subst e; exact this)) (list_one _) (by decide) (by unfold maxLen; omega) (by omega) hBv _ rfl ?_
      intro ga ca v4 own4 gr4 at4 lt4
      have kg := keep_grown gr4
      have hnl : ∀ g, g ∈ blk wv2 → g < w6.heap.size := fun g hg => (RH7.out.blocks g (List.mem_append.2 (.inl hg))).2
      have z0 := (kg.cell (a := ⟨tb, 3, none⟩) (Nat.lt_of_lt_of_le HTLB.out BV.out.size) TNL.out).trans y3
      have z1 := (kg.frozen (a := ⟨tb, 3, none⟩) (Nat.lt_of_lt_of_le HTLB.out BV.out.size) TNL.out).trans ((BV.out.frozen (p := ⟨tb, 3, none⟩) HTLB.out).trans (frozen_of_row _ _ _ _ _ ROWT.out))
      have s4 := s1.keep kg (by intro p hp; simp only [List.mem_cons, List.not_mem_nil, or_false] at hp; rcases hp with rfl | rfl | rfl | rfl <;> exact XNL.out)
      have PU := Lib.hid (PUSH.out.pushV (p := ⟨pid, fr, dn, ao2, cap2, l⟩) ROWT.out RH6.out RH7.out RH8.out RH9.out RH10.out RH11.out HSV.out (by show Own _ B _ l.length _ l; rw [HLN.out]; exact PO.out) PT.out BV.out gr4 own4 at4 rfl)
      have KT := Lib.hid (((Keep.of_below BV.out (tb :: blk wv2)).trans (kg.mono (fun q hq => .inl (List.mem_cons_of_mem _ hq)))).trans ((Keep.setCell v4 ⟨tb, 3, none⟩ (.slice (some ⟨ga, 0, none⟩) (sn + 1) ca)).mono (by simp)))
      have GA := Lib.hid (own_gg at4)
      have LT4 := Lib.hid lt4
      have KT1 := Lib.hid (((Keep.of_below BW3.out (tb :: blk wv2)).trans (kg.mono (fun q hq => .inl (List.mem_cons_of_mem _ hq)))).trans ((Keep.setCell v4 ⟨tb, 3, none⟩ (.slice (some ⟨ga, 0, none⟩) (sn + 1) ca)).mono (by simp)))
      have V4 := Lib.hid (show v3.heap.size ≤ v4.heap.size from kg.size)
      have V3 := Lib.hid (show w6.heap.size ≤ v3.heap.size from Nat.le_trans HXD.out HV3.out)
      clear own4 gr4 at4 lt4 kg y3
      refine hK.out _ _ s4 (fun _ => ?_)
      clear hK K
      try simp only [Act.put, List.getElem_toArray, List.getElem_cons_succ, List.getElem_cons_zero, List.setIfInBounds_toArray, List.set_cons_zero, List.set_cons_succ, Nat.zero_add, List.nil_append]
      refine wpAnyH_take (i := 8) (v := .pointer (some ⟨tb, 0, none⟩)) rfl (by kernel_rfl) (by kernel_rfl) (by kernel_rfl) (fun _ _ _ h => h) (Or.inl ⟨by rfl, fun w' hw' => by go_simp⟩) s4 ?_
      try simp only [Act.put, List.getElem_toArray, List.getElem_cons_succ, List.getElem_cons_zero, List.setIfInBounds_toArray, List.set_cons_zero, List.set_cons_succ, Nat.zero_add, List.nil_append]
      refine wpAnyH_take (i := 9) (v := .pointer (some ⟨tb, 3, none⟩)) rfl (by kernel_rfl) (by kernel_rfl) (by kernel_rfl) (fun _ _ _ h => h) (Or.inl ⟨by rfl, fun w' hw' => by go_simp⟩) s4 ?_
      try simp only [Act.put, List.getElem_toArray, List.getElem_cons_succ, List.getElem_cons_zero, List.setIfInBounds_toArray, List.set_cons_zero, List.set_cons_succ, Nat.zero_add, List.nil_append]
      refine wpAnyH_ready (rs := [10]) (by kernel_rfl) (by simp) ?_
      refine AllReadyH.cons rfl (fun K hK => ?_) AllReadyH.nil
      rw [if_pos (by rfl)]
      go_simp
      have s5 := s4.set ⟨tb, 3, none⟩ (.slice (some ⟨ga, 0, none⟩) (sn + 1) ca) (by intro p hp; simp only [List.mem_cons, List.not_mem_nil, or_false] at hp; rcases hp with rfl | rfl | rfl | rfl <;> (intro e; simp only [Addr.mk.injEq] at e; exact XNT.out e.1))
      refine hK.out _ _ s5 (fun _ => ?_)
      clear hK K
      try simp only [Act.put, List.getElem_toArray, List.getElem_cons_succ, List.getElem_cons_zero, List.setIfInBounds_toArray, List.set_cons_zero, List.set_cons_succ, Nat.zero_add, List.nil_append]
      refine wpAnyH_done (by kernel_rfl) ?_ _
      clear s0 s1 s4 s5 z0 z1 y0
      have HV9 : Hid (v4.heap.size ≤ (v4.setCell ⟨tb, 3, none⟩ (.slice (some ⟨ga, 0, none⟩) (sn + 1) ca)).heap.size) := Lib.hid (Keep.setCell _ _ _).size
      generalize v4.setCell ⟨tb, 3, none⟩ (.slice (some ⟨ga, 0, none⟩) (sn + 1) ca) = w9 at *
      obtain ⟨_, _, _, _, _, u6, u7, _⟩ := PU.out.out
      have rdA := (u6.pk.own ⟨pid, fr, dn, ao, cap, l⟩ (by simp)).rd
      have rdB := (u7.pk.own ⟨pid, fr, dn, ao2, cap2, l⟩ (by simp)).rd
      obtain ⟨e0, e1, e2, e3, _, _, _, _, hl0⟩ := (R0F.out.keep KT.out X0N.out).all
      obtain ⟨g0, g1, g2, g3, _, _, _, _, hl1⟩ := (R1F.out.keep KT.out X1N.out).all
      have PS := Lib.hid (psame_yes pid fr dn l ao ao2 n cap cap2 HLN.out (by omega) w9 rdA rdB)
      have BBX := Lib.hid (BB6.out.trans (KT.out.below (Nat.le_trans HLO.out BB6.out.size) KTB.out))
      have H96 : Hid (B ≤ w9.heap.size) := Lib.hid (Nat.le_trans HLO.out BBX.out.size)
      clear rdA rdB u6 u7
      go_wp2_with fail
      refine PS.out.mono ?_; rintro e w10 ⟨rfl, b10⟩
      have PU10 := Lib.hid (PU.out.below b10)
      have B10 := Lib.hid (BBX.out.trans (b10.mono H96.out))
      clear b10 e0 e1 e2 e3 g0 g1 g2 g3 hl0 hl1
      go_wp2_with fail
      go_ret
      exact ⟨rfl, _, ao2, cap2, PU10.out, B10.out⟩
    · skip
      rw [if_pos (by rfl)]
      go_simp
      have b3 : Below wd.heap.size wd (wd.alloc (.cells #[.int .u64 (pid : Int), .int .i64 fr, .int .i64 dn, .slice ao2 n cap2] 52)) := below_alloc (Below.refl _ _) _
      have r3 := heap_alloc_new wd (.cells #[.int .u64 (pid : Int), .int .i64 fr, .int .i64 dn, .slice ao2 n cap2] 52)
      have s1 := s0.below b3
      have BV := Lib.hid (BWD.out.trans (b3.mono BWD.out.size))
      have y3 := (BV.out.cell (p := ⟨tb, 3, none⟩) HTLB.out).trans CELL.out
      generalize wd.alloc (.cells #[.int .u64 (pid : Int), .int .i64 fr, .int .i64 dn, .slice ao2 n cap2] 52) = v3 at *
      obtain ⟨pb, hpb⟩ : ∃ q, q = wd.heap.size := ⟨_, rfl⟩
      rw [← hpb] at r3 ⊢
      have R3 := Lib.hid r3
      have HV3 : Hid (wd.heap.size ≤ v3.heap.size) := Lib.hid b3.size
      have BW3 := Lib.hid (BD.out.trans (b3.mono BD.out.size))
      clear b3 r3 hpb
      refine hK.out _ _ s1 (fun _ => ?_)
      clear hK K
      try simp only [Act.put, List.getElem_toArray, List.getElem_cons_succ, List.getElem_cons_zero, List.setIfInBounds_toArray, List.set_cons_zero, List.set_cons_succ, Nat.zero_add, List.nil_append]
      refine wpAnyH_ready (rs := [4]) (by kernel_rfl) (by simp) ?_
      refine AllReadyH.cons rfl (fun K hK => ?_) AllReadyH.nil
      rw [if_pos (by rfl)]
      go_simp
      refine hK.out _ _ s1 (fun _ => ?_)
      clear hK K
      try simp only [Act.put, List.getElem_toArray, List.getElem_cons_succ, List.getElem_cons_zero, List.setIfInBounds_toArray, List.set_cons_zero, List.set_cons_succ, Nat.zero_add, List.nil_append]
      refine wpAnyH_ready (rs := [7]) (by kernel_rfl) (by simp) ?_
      refine AllReadyH.cons rfl (fun K hK => ?_) AllReadyH.nil
      rw [if_pos (by rfl)]
      have hBv : B ≤ v3.heap.size := Nat.le_trans HLOB.out BV.out.size
      have hxown : v3.ownsRow B 52 4 (.slice wv2 sn wc2) sn (fl Pkt.list V) := by have := owns_keep RH7.out.own (Keep.of_below BV.out []) (by simp); rwa [HSV.out] at this
      refine wp_append_lies _ (.tmp 25) (.tmp 27) 31 rfl B 52 i0 _ 4 48 Try.underlying31 HI.out HZ0.out HZ1.out HZ2.out rfl (by decide) (.slice wv2 sn wc2) sn (fl Pkt.list V) rfl hxown ⟨pb, 0, none⟩ 1 1 (Pkt.list ⟨pid, fr, dn, ao2, cap2, l⟩) rfl rfl (news_pkt (p := ⟨pid, fr, dn, ao2, cap2, l⟩) (by have := R3.out; have e := HLN.out; subst e; exact this)) (list_one _) (by decide) (by unfold maxLen; omega) (by omega) hBv _ rfl ?_
      intro ga ca v4 own4 gr4 at4 lt4
      have kg := keep_grown gr4
      have hnl : ∀ g, g ∈ blk wv2 → g < w6.heap.size := fun g hg => (RH7.out.blocks g (List.mem_append.2 (.inl hg))).2
      have z0 := (kg.cell (a := ⟨tb, 3, none⟩) (Nat.lt_of_lt_of_le HTLB.out BV.out.size) TNL.out).trans y3
      have z1 := (kg.frozen (a := ⟨tb, 3, none⟩) (Nat.lt_of_lt_of_le HTLB.out BV.out.size) TNL.out).trans ((BV.out.frozen (p := ⟨tb, 3, none⟩) HTLB.out).trans (frozen_of_row _ _ _ _ _ ROWT.out))
      have s4 := s1.keep kg (by intro p hp; simp only [List.mem_cons, List.not_mem_nil, or_false] at hp; rcases hp with rfl | rfl | rfl | rfl <;> exact XNL.out)
      have PU := Lib.hid (PUSH.out.pushV (p := ⟨pid, fr, dn, ao2, cap2, l⟩) ROWT.out RH6.out RH7.out RH8.out RH9.out RH10.out RH11.out HSV.out (by show Own _ B _ l.length _ l; rw [HLN.out]; exact PO.out) PT.out BV.out gr4 own4 at4 rfl)
      have KT := Lib.hid (((Keep.of_below BV.out (tb :: blk wv2)).trans (kg.mono (fun q hq => .inl (List.mem_cons_of_mem _ hq)))).trans ((Keep.setCell v4 ⟨tb, 3, none⟩ (.slice (some ⟨ga, 0, none⟩) (sn + 1) ca)).mono (by simp)))
      have GA := Lib.hid (own_gg at4)
      have LT4 := Lib.hid lt4
      have KT1 := Lib.hid (((Keep.of_below BW3.out (tb :: blk wv2)).trans (kg.mono (fun q hq => .inl (List.mem_cons_of_mem _ hq)))).trans ((Keep.setCell v4 ⟨tb, 3, none⟩ (.slice (some ⟨ga, 0, none⟩) (sn + 1) ca)).mono (by simp)))
      have V4 := Lib.hid (show v3.heap.size ≤ v4.heap.size from kg.size)
      have V3 := Lib.hid (show w6.heap.size ≤ v3.heap.size from Nat.le_trans HXD.out HV3.out)
      clear own4 gr4 at4 lt4 kg y3
      refine hK.out _ _ s4 (fun _ => ?_)
      clear hK K
      try simp only [Act.put, List.getElem_toArray, List.getElem_cons_succ, List.getElem_cons_zero, List.setIfInBounds_toArray, List.set_cons_zero, List.set_cons_succ, Nat.zero_add, List.nil_append]
      refine wpAnyH_take (i := 8) (v := .pointer (some ⟨tb, 0, none⟩)) rfl (by kernel_rfl) (by kernel_rfl) (by kernel_rfl) (fun _ _ _ h => h) (Or.inl ⟨by rfl, fun w' hw' => by go_simp⟩) s4 ?_
      try simp only [Act.put, List.getElem_toArray, List.getElem_cons_succ, List.getElem_cons_zero, List.setIfInBounds_toArray, List.set_cons_zero, List.set_cons_succ, Nat.zero_add, List.nil_append]
      refine wpAnyH_take (i := 9) (v := .pointer (some ⟨tb, 3, none⟩)) rfl (by kernel_rfl) (by kernel_rfl) (by kernel_rfl) (fun _ _ _ h => h) (Or.inl ⟨by rfl, fun w' hw' => by go_simp⟩) s4 ?_
      try simp only [Act.put, List.getElem_toArray, List.getElem_cons_succ, List.getElem_cons_zero, List.setIfInBounds_toArray, List.set_cons_zero, List.set_cons_succ, Nat.zero_add, List.nil_append]
      refine wpAnyH_ready (rs := [10]) (by kernel_rfl) (by simp) ?_
      refine AllReadyH.cons rfl (fun K hK => ?_) AllReadyH.nil
      rw [if_pos (by rfl)]
      go_simp
      have s5 := s4.set ⟨tb, 3, none⟩ (.slice (some ⟨ga, 0, none⟩) (sn + 1) ca) (by intro p hp; simp only [List.mem_cons, List.not_mem_nil, or_false] at hp; rcases hp with rfl | rfl | rfl | rfl <;> (intro e; simp only [Addr.mk.injEq] at e; exact XNT.out e.1))
      refine hK.out _ _ s5 (fun _ => ?_)
      clear hK K
      try simp only [Act.put, List.getElem_toArray, List.getElem_cons_succ, List.getElem_cons_zero, List.setIfInBounds_toArray, List.set_cons_zero, List.set_cons_succ, Nat.zero_add, List.nil_append]
      refine wpAnyH_done (by kernel_rfl) ?_ _
      clear s0 s1 s4 s5 z0 z1 y0
      have HV9 : Hid (v4.heap.size ≤ (v4.setCell ⟨tb, 3, none⟩ (.slice (some ⟨ga, 0, none⟩) (sn + 1) ca)).heap.size) := Lib.hid (Keep.setCell _ _ _).size
      generalize v4.setCell ⟨tb, 3, none⟩ (.slice (some ⟨ga, 0, none⟩) (sn + 1) ca) = w9 at *
      obtain ⟨_, _, _, _, _, u6, u7, _⟩ := PU.out.out
      have rdA := (u6.pk.own ⟨pid, fr, dn, ao, cap, l⟩ (by simp)).rd
      have rdB := (u7.pk.own ⟨pid, fr, dn, ao2, cap2, l⟩ (by simp)).rd
      obtain ⟨e0, e1, e2, e3, _, _, _, _, hl0⟩ := (R0F.out.keep KT.out X0N.out).all
      obtain ⟨g0, g1, g2, g3, _, _, _, _, hl1⟩ := (R1F.out.keep KT.out X1N.out).all
      have PS := Lib.hid (psame_yes pid fr dn l ao ao2 n cap cap2 HLN.out (by omega) w9 rdA rdB)
      have BBX := Lib.hid (BB6.out.trans (KT.out.below (Nat.le_trans HLO.out BB6.out.size) KTB.out))
      have H96 : Hid (B ≤ w9.heap.size) := Lib.hid (Nat.le_trans HLO.out BBX.out.size)
      clear rdA rdB u6 u7
      go_wp2_with fail
      refine PS.out.mono ?_; rintro e w10 ⟨rfl, b10⟩
      have PU10 := Lib.hid (PU.out.below b10)
      have B10 := Lib.hid (BBX.out.trans (b10.mono H96.out))
      clear b10 e0 e1 e2 e3 g0 g1 g2 g3 hl0 hl1
      go_wp2_with fail
      go_ret
      exact ⟨rfl, _, ao2, cap2, PU10.out, B10.out⟩
end
end Go.Proofs.Ythanjfnpohhebaa
