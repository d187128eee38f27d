/- Decide. -/
import Derived.Test.YtbjcmomicjdepaaPd
namespace Go.Proofs.Ytbjcmomicjdepaa
open Go.RowKit Go.Sort
set_option linter.unusedVariables false
set_option linter.unusedSimpArgs false
set_option linter.unusedSectionVars false
set_option maxRecDepth 100000
def newD (c : Cp) (l : Lk) (cm : Bool) : Cp := if (cm && (l.it.write && decide (c.ver < l.it.ver + 1))) = true then {c with ver := l.it.ver + 1, es := l.it.es} else c
def delD (l : Lk) (c : Cp) : Cp := {c with ls := c.ls.filter fun y => !(txP l y)}
def endD (l : Lk) (c : Cp) : Cp := if votedP c.vs l.tx = 0 ∧ c.vs.length < 64 then {c with vs := c.vs ++ [⟨l.tx, 2⟩]} else c
/-- what Decide answers, and what becomes of the copy -/
def decideR (c : Cp) (l : Lk) (cm : Bool) : Int × Cp := if lockB l = false then (155, c) else (0, endD l (delD l (newD c l cm)))
def DcEnd (w : World) (B sb gm b : Nat) (nm : Nm) (s : Cs) (e : Int) (c1 : Cp) (r : Ending) (w' : World) : Prop :=
  r = .returned (.int .i64 e) ∧ ∃ s1, StR w' B sb gm b nm c1 s1 ∧ Trn b s s1 w w'
section
variable {B sb gm b : Nat} {nm : Nm} {c : Cp} {s : Cs} {t : Sd} {l : Lk}
set_option maxHeartbeats 16000000 in
theorem decide_any (w : World) (h : StR w B sb gm b nm c s) (hs : c.state = 2) (he : EsR w t l.it.es) (hb : l.it.bucket = nm.b) (hv0 : 0 ≤ l.it.ver) (cm : Bool) : Calls Try.prog 18 #[.pointer (some ⟨sb, 0, none⟩), .int .i64 nm.r, l.ag t, .bool cm] w
    (DcEnd w B sb gm b nm s (decideR c l cm).1 (decideR c l cm).2) := by
  obtain ⟨W, hW⟩ : ∃ W, W = w.alloc (.cells (l.cells t) 38) := ⟨_, rfl⟩
  have bW : Below w.heap.size w W := by rw [hW]; exact below_alloc (Below.refl _ _) _
  have k1 : LkB W w.heap.size l t := by rw [hW]; exact LkB.new w l t
  have C := Lib.hid (for_any (l := l) W (h.below bW) hs (he.below bW) hb)
  have H0 := Lib.hid h
  have HE := Lib.hid (he.below bW)
  have BW := Lib.hid bW
  have K1 := Lib.hid k1
  have RG := Lib.hid k1.range
  obtain ⟨e0, c0, hv⟩ : ∃ e0 c0, decideR c l cm = (e0, c0) := ⟨_, _, rfl⟩
  rw [hv]
  have HV := Lib.hid hv
  have HFIT := Lib.hid (show lockB l = true → Fit l.it.es ∧ l.it.ver < 2147483647 from fun e => by
    refine ⟨fit_lock e, ?_⟩
    unfold lockB at e
    simp only [Bool.and_eq_true] at e
    exact (right_fit e.2).2.2)
  obtain ⟨lb, hlb⟩ : ∃ lb, lockB l = lb := ⟨_, rfl⟩
  have HLB := Lib.hid hlb
  rw [hlb] at C
  clear h hs he hb bW k1 hv hlb
  obtain ⟨tx, m0, m1, m2, ⟨bk, ver, wt, es, i0, i1, i2, i3⟩⟩ := l
  simp only [Lk.ag, Lk.cells] at hW C hv0 ⊢
  go_enter Try.func18, Try.ntmps18
  go_upto_region 1 with (fail)
  rw [← hW]
  clear hW
  generalize hbi : w.heap.size = bi at K1 RG ⊢
  go_wp2_with (refine wpList_load_mid rfl 38 (.tmp 6) rfl bi 0 rfl (Lk.list ⟨tx, m0, m1, m2, ⟨bk, ver, wt, es, i0, i1, i2, i3⟩⟩ t) _ RG.out Try.underlying38 rfl (lk_size _ _) ?_)
  refine C.out.mono ?_; rintro e w1 ⟨rfl, b1⟩
  have K2 := Lib.hid (K1.out.below b1)
  have B1 := Lib.hid (show Below w.heap.size w w1 from below_next BW.out b1)
  have E1 := Lib.hid (HE.out.below b1)
  have H1 := Lib.hid (H0.out.below B1.out)
  clear b1 K1 RG BW HE C
  cases lb with
  | false =>
    go_wp2_with fail
    go_ret
    have e := HV.out
    unfold decideR at e
    rw [if_pos HLB.out] at e
    cases e
    exact ⟨rfl, s, H1.out, Trn.of_below b s B1.out⟩
  | true =>
    have F0 := Lib.hid (HFIT.out HLB.out).1
    have hver := (HFIT.out HLB.out).2
    try simp only at hver
    have HV2 := Lib.hid (show decideR c ⟨tx, m0, m1, m2, ⟨bk, ver, wt, es, i0, i1, i2, i3⟩⟩ cm = (0, endD ⟨tx, m0, m1, m2, ⟨bk, ver, wt, es, i0, i1, i2, i3⟩⟩ (delD ⟨tx, m0, m1, m2, ⟨bk, ver, wt, es, i0, i1, i2, i3⟩⟩ (newD c ⟨tx, m0, m1, m2, ⟨bk, ver, wt, es, i0, i1, i2, i3⟩⟩ cm))) from by
      unfold decideR; rw [if_neg (by rw [HLB.out]; decide)])
    have x5 := K2.out.c 5 _ rfl
    have x6 := K2.out.c 6 _ rfl
    have y2 := H1.out.row.at_ 2 _ rfl
    have HBB := Lib.hid (bx_apart hbi H0.out.row)
    have hv1 : ver + 1 ≤ 4294967295 := by omega
    clear HFIT
    go_upto_region 4 with (fail)
    cases cm with
    | false =>
      go_quiet (fail)
      clear x5 x6 y2
      have bq := below_drewN w1 nq
      have H3 := Lib.hid (H1.out.row.below bq)
      have K3 := Lib.hid (K2.out.below bq)
      have T3 := Lib.hid (Trn.of_below b s (below_next B1.out bq))
      obtain ⟨c1, hc1⟩ : ∃ c1, newD c ⟨tx, m0, m1, m2, ⟨bk, ver, wt, es, i0, i1, i2, i3⟩⟩ false = c1 := ⟨_, rfl⟩
      have HC1 := Lib.hid hc1
      have hcc : c = c1 := by rw [← hc1]; unfold newD; rw [if_neg (by simp)]
      rw [hcc] at H3
      obtain ⟨s1, hs1⟩ : ∃ s1, s = s1 := ⟨_, rfl⟩
      rw [hs1] at H3 HBB
      have T3 : Hid (Trn b s s1 w (w1.drewN nq)) := Lib.hid (by rw [← hs1]; exact T3.out)
      clear bq K2 H1 B1 hc1 hcc hs1
      generalize w1.drewN nq = w3 at *
      have y4 := H3.out.at_ 4 _ rfl
      have CD := Lib.hid (delete_any (l := ⟨tx, m0, m1, m2, ⟨bk, ver, wt, es, i0, i1, i2, i3⟩⟩) (t := t) w3 H3.out.l H3.out.zlen (by have := H3.out.few; omega) K3.out (fun e => HBB.out.2 (by simp [e])))
      go_wp2_with fail
      refine CD.out.mono ?_; rintro e wd1 ⟨rfl, own1, kd1⟩
      have hbnl : b ∉ blk s1.l.ao := fun e => (List.nodup_cons.1 H3.out.nd).1 (by simp [e])
      have z4 := (kd1.cell (a := ⟨b, 4, none⟩) H3.out.blt hbnl).trans y4
      have zf := (kd1.frozen (a := ⟨b, 4, none⟩) H3.out.blt hbnl).trans (H3.out.fr 4)
      have PD := Lib.hid (H3.out.delL (fun y => !(txP ⟨tx, m0, m1, m2, ⟨bk, ver, wt, es, i0, i1, i2, i3⟩⟩ y)) own1 kd1)
      have KD := Lib.hid ((K3.out.keep kd1 (fun e => HBB.out.2 (by simp [e]))).keep (Keep.setCell wd1 ⟨b, 4, none⟩ (.slice s1.l.ao ((c1.ls.zip s1.la).filter (keepP ⟨tx, m0, m1, m2, ⟨bk, ver, wt, es, i0, i1, i2, i3⟩⟩)).length s1.l.cap)) (by simpa using HBB.out.1))
      clear CD own1 kd1 y4 hbnl
      go_upto_region 7 with (fail)
      generalize wd1.setCell ⟨b, 4, none⟩ (.slice s1.l.ao ((c1.ls.zip s1.la).filter (keepP ⟨tx, m0, m1, m2, ⟨bk, ver, wt, es, i0, i1, i2, i3⟩⟩)).length s1.l.cap) = wd2 at *
      clear z4 zf
      obtain ⟨s2, hs2⟩ : ∃ s2 : Cs, {s1 with la := ((c1.ls.zip s1.la).filter fun x => !(txP ⟨tx, m0, m1, m2, ⟨bk, ver, wt, es, i0, i1, i2, i3⟩⟩ x.1)).map (·.2)} = s2 := ⟨_, rfl⟩
      obtain ⟨c2, hc2⟩ : ∃ c2 : Cp, {c1 with ls := c1.ls.filter fun y => !(txP ⟨tx, m0, m1, m2, ⟨bk, ver, wt, es, i0, i1, i2, i3⟩⟩ y)} = c2 := ⟨_, rfl⟩
      rw [hs2, hc2] at PD
      have HC2 := Lib.hid (show delD ⟨tx, m0, m1, m2, ⟨bk, ver, wt, es, i0, i1, i2, i3⟩⟩ c1 = c2 from hc2)
      have H2 := Lib.hid PD.out.1
      have T2 := Lib.hid (T3.out.trans PD.out.2)
      have HBB := Lib.hid (show bi ≠ b ∧ bi ∉ blk s2.v.ao ++ blk s2.l.ao from by rw [← hs2]; exact HBB.out)
      clear hs2 hc2 PD
      have C7 := Lib.hid (voted_any wd2 H2.out tx)
      have x0 := KD.out.c 0 _ rfl
      go_wp2_with fail
      refine C7.out.mono ?_; rintro e w7 ⟨rfl, b7⟩
      have K7 := Lib.hid (KD.out.below b7)
      have H7 := Lib.hid (H2.out.below b7)
      have T7 := Lib.hid (T2.out.trans (Trn.of_below b s2 b7))
      clear x0 C7 b7 KD H2 T2
      obtain ⟨vo, hvo⟩ : ∃ vo, votedP c2.vs tx = vo := ⟨_, rfl⟩
      rw [hvo]
      have HVO := Lib.hid hvo
      clear hvo
      by_cases hv0 : vo = 0
      · have hv1 : (vo == 0) = true := by simp [hv0]
        have HV0 := Lib.hid hv0
        clear hv0
        have C9 := Lib.hid (full_any w7 H7.out)
        go_wp2_with fail
        refine C9.out.mono ?_; rintro e w8 ⟨rfl, rfl⟩
        clear C9
        by_cases hfu : 64 ≤ c2.vs.length
        · have hfu2 : decide (64 ≤ c2.vs.length) = true := by simpa using hfu
          have HFU := Lib.hid hfu
          rw [hfu2]
          clear hfu hfu2
          go_wp2_with fail
          go_ret
          have e := HV2.out.symm.trans HV.out
          rw [HC1.out, HC2.out, show endD ⟨tx, m0, m1, m2, ⟨bk, ver, wt, es, i0, i1, i2, i3⟩⟩ c2 = c2 from by unfold endD; rw [if_neg (fun h => by have := h.2; have := HFU.out; omega)]] at e
          cases e
          exact ⟨rfl, _, H0.out.turn H7.out T7.out, T7.out⟩
        · have hfu2 : decide (64 ≤ c2.vs.length) = false := by simpa using hfu
          have HFU := Lib.hid hfu
          have HFEW := Lib.hid (show c2.vs.length < 1099511627775 by omega)
          rw [hfu2]
          clear hfu hfu2
          go_upto_region 8 with (fail)
          obtain ⟨j0, hj0, hjz0, hjz1, hjz2⟩ := info_parts vd_info
          have HI := Lib.hid hj0; have HZ0 := Lib.hid hjz0; have HZ1 := Lib.hid hjz1; have HZ2 := Lib.hid hjz2
          clear hj0 hjz0 hjz1 hjz2
          have hl0 : Holds w7 [(⟨bi, 0, none⟩, .int .u64 tx)] := .cons (K7.out.c 0 _ rfl) K7.out.lt (.nil _)
          refine wp_region_held_drew (S := fun w' => Holds w' [(⟨bi, 0, none⟩, .int .u64 tx)]) (by kernel_rfl) hl0.drew (fun s0 => ?_)
          have bd := (Below.refl w7.heap.size w7).drew
          have HD := Lib.hid (H7.out.below bd)
          have BDD := Lib.hid bd
          have HXD := Lib.hid (K7.out.below bd)
          clear bd hl0
          generalize w7.drew = wd at *
          have y0 := HD.out.at_ 9 _ rfl
          have hblt := Lib.hid HD.out.blt
          have hfev := Lib.hid HD.out.fev
          refine wpAnyH_take (i := 0) (v := .pointer (some ⟨b, 0, none⟩)) rfl (by kernel_rfl) (by kernel_rfl) (by kernel_rfl) (fun _ _ _ h => h) (Or.inl ⟨by rfl, fun w' hw' => by go_simp⟩) s0 ?_
          try simp only [Act.put, List.getElem_toArray, List.getElem_cons_succ, List.getElem_cons_zero, List.setIfInBounds_toArray, List.set_cons_zero, List.set_cons_succ, Nat.zero_add, List.nil_append]
          refine wpAnyH_take (i := 1) (v := .pointer (some ⟨b, 0, none⟩)) rfl (by kernel_rfl) (by kernel_rfl) (by kernel_rfl) (fun _ _ _ h => h) (Or.inl ⟨by rfl, fun w' hw' => by go_simp⟩) s0 ?_
          try simp only [Act.put, List.getElem_toArray, List.getElem_cons_succ, List.getElem_cons_zero, List.setIfInBounds_toArray, List.set_cons_zero, List.set_cons_succ, Nat.zero_add, List.nil_append]
          refine wpAnyH_take (i := 2) (v := .pointer (some ⟨b, 0, none⟩)) rfl (by kernel_rfl) (by kernel_rfl) (by kernel_rfl) (fun _ _ _ h => h) (Or.inl ⟨by rfl, fun w' hw' => by go_simp⟩) s0 ?_
          try simp only [Act.put, List.getElem_toArray, List.getElem_cons_succ, List.getElem_cons_zero, List.setIfInBounds_toArray, List.set_cons_zero, List.set_cons_succ, Nat.zero_add, List.nil_append]
          refine wpAnyH_take (i := 3) (v := .pointer (some ⟨b, 0, none⟩)) rfl (by kernel_rfl) (by kernel_rfl) (by kernel_rfl) (fun _ _ _ h => h) (Or.inl ⟨by rfl, fun w' hw' => by go_simp⟩) s0 ?_
          try simp only [Act.put, List.getElem_toArray, List.getElem_cons_succ, List.getElem_cons_zero, List.setIfInBounds_toArray, List.set_cons_zero, List.set_cons_succ, Nat.zero_add, List.nil_append]
          refine wpAnyH_take (i := 4) (v := .pointer (some ⟨b, 9, none⟩)) rfl (by kernel_rfl) (by kernel_rfl) (by kernel_rfl) (fun _ _ _ h => h) (Or.inl ⟨by rfl, fun w' hw' => by go_simp⟩) s0 ?_
          try simp only [Act.put, List.getElem_toArray, List.getElem_cons_succ, List.getElem_cons_zero, List.setIfInBounds_toArray, List.set_cons_zero, List.set_cons_succ, Nat.zero_add, List.nil_append]
          refine wpAnyH_take (i := 6) (v := .pointer (some ⟨bi, 0, none⟩)) rfl (by kernel_rfl) (by kernel_rfl) (by kernel_rfl) (fun _ _ _ h => h) (Or.inl ⟨by rfl, fun w' hw' => by go_simp⟩) s0 ?_
          try simp only [Act.put, List.getElem_toArray, List.getElem_cons_succ, List.getElem_cons_zero, List.setIfInBounds_toArray, List.set_cons_zero, List.set_cons_succ, Nat.zero_add, List.nil_append]
          refine wpAnyH_take (i := 7) (v := .int .u64 tx) rfl (by kernel_rfl) (by kernel_rfl) (by kernel_rfl) (fun _ _ _ h => h) (Or.inl ⟨by rfl, fun w' hw' => by have q0 := hw'.head; go_simp⟩) s0 ?_
          try simp only [Act.put, List.getElem_toArray, List.getElem_cons_succ, List.getElem_cons_zero, List.setIfInBounds_toArray, List.set_cons_zero, List.set_cons_succ, Nat.zero_add, List.nil_append]
          refine wpAnyH_take (i := 8) (v := .agg #[.int .u64 tx, .int .i64 2]) rfl (by kernel_rfl) (by kernel_rfl) (by kernel_rfl) (fun _ _ _ h => h) (Or.inl ⟨by rfl, fun w' hw' => by go_simp⟩) s0 ?_
          try simp only [Act.put, List.getElem_toArray, List.getElem_cons_succ, List.getElem_cons_zero, List.setIfInBounds_toArray, List.set_cons_zero, List.set_cons_succ, Nat.zero_add, List.nil_append]
          refine wpAnyH_ready (rs := [5, 9]) (by kernel_rfl) (by simp) ?_
          refine AllReadyH.cons rfl (fun K hK => ?_) (AllReadyH.cons rfl (fun K hK => ?_) AllReadyH.nil)
          · skip
            rw [if_pos (by rfl)]
            go_simp
            refine hK.out _ _ s0 (fun _ => ?_)
            clear hK K
            try simp only [Act.put, List.getElem_toArray, List.getElem_cons_succ, List.getElem_cons_zero, List.setIfInBounds_toArray, List.set_cons_zero, List.set_cons_succ, Nat.zero_add, List.nil_append]
            refine wpAnyH_ready (rs := [9]) (by kernel_rfl) (by simp) ?_
            refine AllReadyH.cons rfl (fun K hK => ?_) AllReadyH.nil
            rw [if_pos (by rfl)]
            go_simp
            have b3 : Below wd.heap.size wd (wd.alloc (.cells #[.int .u64 tx, .int .i64 2] 51)) := below_alloc (Below.refl _ _) _
            have r3 := heap_alloc_new wd (.cells #[.int .u64 tx, .int .i64 2] 51)
            have y1 := (b3.cell (p := ⟨b, 9, none⟩) hblt.out).trans y0
            have s3 := s0.below b3
            obtain ⟨pb, hpb⟩ : ∃ q, q = wd.heap.size := ⟨_, rfl⟩
            rw [← hpb] at r3 ⊢
            have HPB := Lib.hid hpb
            generalize wd.alloc (.cells #[.int .u64 tx, .int .i64 2] 51) = w3 at *
            have B3 := Lib.hid b3
            have R3 := Lib.hid r3
            clear b3 r3 hpb
            refine hK.out _ _ s3 (fun _ => ?_)
            clear hK K
            try simp only [Act.put, List.getElem_toArray, List.getElem_cons_succ, List.getElem_cons_zero, List.setIfInBounds_toArray, List.set_cons_zero, List.set_cons_succ, Nat.zero_add, List.nil_append]
            refine wpAnyH_ready (rs := [10]) (by kernel_rfl) (by simp) ?_
            refine AllReadyH.cons rfl (fun K hK => ?_) AllReadyH.nil
            rw [if_pos (by rfl)]
            have hown : w3.ownsRow B 51 2 (.slice s2.v.ao c2.vs.length s2.v.cap) c2.vs.length (fl Vd.list c2.vs) := owns_keep HD.out.v (Keep.of_below B3.out []) (by simp)
            have hBv : B ≤ w3.heap.size := by have := HD.out.bs b (by simp [Cs.mut]); have := hblt.out; have := B3.out.size; omega
            have hnd := HD.out.nd
            refine wp_append_lies _ (.tmp 81) (.tmp 85) 34 rfl B 51 j0 _ 2 16 Try.underlying34 HI.out HZ0.out HZ1.out HZ2.out rfl (by decide) (.slice s2.v.ao c2.vs.length s2.v.cap) c2.vs.length (fl Vd.list c2.vs) rfl hown ⟨pb, 0, none⟩ 1 1 (Vd.list ⟨tx, 2⟩) rfl rfl (news_row R3.out) (vd_one _) (by decide) (by have := hfev.out; unfold maxLen; omega) (by have := hfev.out; omega) hBv _ rfl ?_
            intro ga ca w4 own4 gr4 at4 lt4
            have kg := keep_grown gr4
            have hbv : b ∉ blk s2.v.ao := fun e => (List.nodup_cons.1 hnd).1 (by simp [e])
            have z0 := (kg.cell (a := ⟨b, 9, none⟩) (Nat.lt_of_lt_of_le hblt.out B3.out.size) hbv).trans y1
            have z1 := (kg.frozen (a := ⟨b, 9, none⟩) (Nat.lt_of_lt_of_le hblt.out B3.out.size) hbv).trans ((HD.out.below B3.out).fr 9)
            have hbi1 : bi ≠ b := HBB.out.1
            have hbi2 : bi ∉ blk s2.v.ao := fun e => HBB.out.2 (by simp [e])
            have sx := s3.keep kg (by intro p hp; simp only [List.mem_cons, List.not_mem_nil, or_false] at hp; subst hp; exact hbi2)
            have PU := Lib.hid (HD.out.pushV ⟨tx, 2⟩ (HFEW.out) B3.out own4 gr4 at4)
            clear own4 gr4 at4 lt4 kg hown hBv hnd y1 hbv hbi2
            refine hK.out _ _ sx (fun _ => ?_)
            clear hK K
            try simp only [Act.put, List.getElem_toArray, List.getElem_cons_succ, List.getElem_cons_zero, List.setIfInBounds_toArray, List.set_cons_zero, List.set_cons_succ, Nat.zero_add, List.nil_append]
            refine wpAnyH_take (i := 11) (v := .pointer (some ⟨b, 0, none⟩)) rfl (by kernel_rfl) (by kernel_rfl) (by kernel_rfl) (fun _ _ _ h => h) (Or.inl ⟨by rfl, fun w' hw' => by go_simp⟩) sx ?_
            try simp only [Act.put, List.getElem_toArray, List.getElem_cons_succ, List.getElem_cons_zero, List.setIfInBounds_toArray, List.set_cons_zero, List.set_cons_succ, Nat.zero_add, List.nil_append]
            refine wpAnyH_take (i := 12) (v := .pointer (some ⟨b, 0, none⟩)) rfl (by kernel_rfl) (by kernel_rfl) (by kernel_rfl) (fun _ _ _ h => h) (Or.inl ⟨by rfl, fun w' hw' => by go_simp⟩) sx ?_
            try simp only [Act.put, List.getElem_toArray, List.getElem_cons_succ, List.getElem_cons_zero, List.setIfInBounds_toArray, List.set_cons_zero, List.set_cons_succ, Nat.zero_add, List.nil_append]
            refine wpAnyH_take (i := 13) (v := .pointer (some ⟨b, 9, none⟩)) rfl (by kernel_rfl) (by kernel_rfl) (by kernel_rfl) (fun _ _ _ h => h) (Or.inl ⟨by rfl, fun w' hw' => by go_simp⟩) sx ?_
            try simp only [Act.put, List.getElem_toArray, List.getElem_cons_succ, List.getElem_cons_zero, List.setIfInBounds_toArray, List.set_cons_zero, List.set_cons_succ, Nat.zero_add, List.nil_append]
            refine wpAnyH_ready (rs := [14]) (by kernel_rfl) (by simp) ?_
            refine AllReadyH.cons rfl (fun K hK => ?_) AllReadyH.nil
            rw [if_pos (by rfl)]
            go_simp
            have s5 := sx.set ⟨b, 9, none⟩ (.slice (some ⟨ga, 0, none⟩) (c2.vs.length + 1) ca) (by intro p hp; simp only [List.mem_cons, List.not_mem_nil, or_false] at hp; subst hp; intro e; simp only [Addr.mk.injEq] at e; exact hbi1 (by first | exact e.1 | exact e.1.symm))
            refine hK.out _ _ s5 (fun _ => ?_)
            clear hK K
            try simp only [Act.put, List.getElem_toArray, List.getElem_cons_succ, List.getElem_cons_zero, List.setIfInBounds_toArray, List.set_cons_zero, List.set_cons_succ, Nat.zero_add, List.nil_append]
            refine wpAnyH_done (by kernel_rfl) ?_ _
            clear s0 sx s5 z0 z1 y0
            generalize w4.setCell ⟨b, 9, none⟩ (.slice (some ⟨ga, 0, none⟩) (c2.vs.length + 1) ca) = w9 at *
            go_wp2_with fail
            go_ret
            have e := HV2.out.symm.trans HV.out
            rw [HC1.out, HC2.out, show endD ⟨tx, m0, m1, m2, ⟨bk, ver, wt, es, i0, i1, i2, i3⟩⟩ c2 = {c2 with vs := c2.vs ++ [⟨tx, 2⟩]} from by unfold endD; rw [if_pos ⟨by show votedP c2.vs tx = 0; rw [HVO.out]; exact HV0.out, by have := HFU.out; omega⟩]] at e
            cases e
            have tr := T7.out.trans (Trn.of_below b s2 BDD.out)
            exact ⟨rfl, _, H0.out.turn PU.out.1 (tr.trans PU.out.2), tr.trans PU.out.2⟩
          · skip
            rw [if_pos (by rfl)]
            go_simp
            have b3 : Below wd.heap.size wd (wd.alloc (.cells #[.int .u64 tx, .int .i64 2] 51)) := below_alloc (Below.refl _ _) _
            have r3 := heap_alloc_new wd (.cells #[.int .u64 tx, .int .i64 2] 51)
            have y1 := (b3.cell (p := ⟨b, 9, none⟩) hblt.out).trans y0
            have s3 := s0.below b3
            obtain ⟨pb, hpb⟩ : ∃ q, q = wd.heap.size := ⟨_, rfl⟩
            rw [← hpb] at r3 ⊢
            have HPB := Lib.hid hpb
            generalize wd.alloc (.cells #[.int .u64 tx, .int .i64 2] 51) = w3 at *
            have B3 := Lib.hid b3
            have R3 := Lib.hid r3
            clear b3 r3 hpb
            refine hK.out _ _ s3 (fun _ => ?_)
            clear hK K
            try simp only [Act.put, List.getElem_toArray, List.getElem_cons_succ, List.getElem_cons_zero, List.setIfInBounds_toArray, List.set_cons_zero, List.set_cons_succ, Nat.zero_add, List.nil_append]
            refine wpAnyH_ready (rs := [5]) (by kernel_rfl) (by simp) ?_
            refine AllReadyH.cons rfl (fun K hK => ?_) AllReadyH.nil
            rw [if_pos (by rfl)]
            go_simp
            refine hK.out _ _ s3 (fun _ => ?_)
            clear hK K
            try simp only [Act.put, List.getElem_toArray, List.getElem_cons_succ, List.getElem_cons_zero, List.setIfInBounds_toArray, List.set_cons_zero, List.set_cons_succ, Nat.zero_add, List.nil_append]
            refine wpAnyH_ready (rs := [10]) (by kernel_rfl) (by simp) ?_
            refine AllReadyH.cons rfl (fun K hK => ?_) AllReadyH.nil
            rw [if_pos (by rfl)]
            have hown : w3.ownsRow B 51 2 (.slice s2.v.ao c2.vs.length s2.v.cap) c2.vs.length (fl Vd.list c2.vs) := owns_keep HD.out.v (Keep.of_below B3.out []) (by simp)
            have hBv : B ≤ w3.heap.size := by have := HD.out.bs b (by simp [Cs.mut]); have := hblt.out; have := B3.out.size; omega
            have hnd := HD.out.nd
            refine wp_append_lies _ (.tmp 81) (.tmp 85) 34 rfl B 51 j0 _ 2 16 Try.underlying34 HI.out HZ0.out HZ1.out HZ2.out rfl (by decide) (.slice s2.v.ao c2.vs.length s2.v.cap) c2.vs.length (fl Vd.list c2.vs) rfl hown ⟨pb, 0, none⟩ 1 1 (Vd.list ⟨tx, 2⟩) rfl rfl (news_row R3.out) (vd_one _) (by decide) (by have := hfev.out; unfold maxLen; omega) (by have := hfev.out; omega) hBv _ rfl ?_
            intro ga ca w4 own4 gr4 at4 lt4
            have kg := keep_grown gr4
            have hbv : b ∉ blk s2.v.ao := fun e => (List.nodup_cons.1 hnd).1 (by simp [e])
            have z0 := (kg.cell (a := ⟨b, 9, none⟩) (Nat.lt_of_lt_of_le hblt.out B3.out.size) hbv).trans y1
            have z1 := (kg.frozen (a := ⟨b, 9, none⟩) (Nat.lt_of_lt_of_le hblt.out B3.out.size) hbv).trans ((HD.out.below B3.out).fr 9)
            have hbi1 : bi ≠ b := HBB.out.1
            have hbi2 : bi ∉ blk s2.v.ao := fun e => HBB.out.2 (by simp [e])
            have sx := s3.keep kg (by intro p hp; simp only [List.mem_cons, List.not_mem_nil, or_false] at hp; subst hp; exact hbi2)
            have PU := Lib.hid (HD.out.pushV ⟨tx, 2⟩ (HFEW.out) B3.out own4 gr4 at4)
            clear own4 gr4 at4 lt4 kg hown hBv hnd y1 hbv hbi2
            refine hK.out _ _ sx (fun _ => ?_)
            clear hK K
            try simp only [Act.put, List.getElem_toArray, List.getElem_cons_succ, List.getElem_cons_zero, List.setIfInBounds_toArray, List.set_cons_zero, List.set_cons_succ, Nat.zero_add, List.nil_append]
            refine wpAnyH_take (i := 11) (v := .pointer (some ⟨b, 0, none⟩)) rfl (by kernel_rfl) (by kernel_rfl) (by kernel_rfl) (fun _ _ _ h => h) (Or.inl ⟨by rfl, fun w' hw' => by go_simp⟩) sx ?_
            try simp only [Act.put, List.getElem_toArray, List.getElem_cons_succ, List.getElem_cons_zero, List.setIfInBounds_toArray, List.set_cons_zero, List.set_cons_succ, Nat.zero_add, List.nil_append]
            refine wpAnyH_take (i := 12) (v := .pointer (some ⟨b, 0, none⟩)) rfl (by kernel_rfl) (by kernel_rfl) (by kernel_rfl) (fun _ _ _ h => h) (Or.inl ⟨by rfl, fun w' hw' => by go_simp⟩) sx ?_
            try simp only [Act.put, List.getElem_toArray, List.getElem_cons_succ, List.getElem_cons_zero, List.setIfInBounds_toArray, List.set_cons_zero, List.set_cons_succ, Nat.zero_add, List.nil_append]
            refine wpAnyH_take (i := 13) (v := .pointer (some ⟨b, 9, none⟩)) rfl (by kernel_rfl) (by kernel_rfl) (by kernel_rfl) (fun _ _ _ h => h) (Or.inl ⟨by rfl, fun w' hw' => by go_simp⟩) sx ?_
            try simp only [Act.put, List.getElem_toArray, List.getElem_cons_succ, List.getElem_cons_zero, List.setIfInBounds_toArray, List.set_cons_zero, List.set_cons_succ, Nat.zero_add, List.nil_append]
            refine wpAnyH_ready (rs := [14]) (by kernel_rfl) (by simp) ?_
            refine AllReadyH.cons rfl (fun K hK => ?_) AllReadyH.nil
            rw [if_pos (by rfl)]
            go_simp
            have s5 := sx.set ⟨b, 9, none⟩ (.slice (some ⟨ga, 0, none⟩) (c2.vs.length + 1) ca) (by intro p hp; simp only [List.mem_cons, List.not_mem_nil, or_false] at hp; subst hp; intro e; simp only [Addr.mk.injEq] at e; exact hbi1 (by first | exact e.1 | exact e.1.symm))
            refine hK.out _ _ s5 (fun _ => ?_)
            clear hK K
            try simp only [Act.put, List.getElem_toArray, List.getElem_cons_succ, List.getElem_cons_zero, List.setIfInBounds_toArray, List.set_cons_zero, List.set_cons_succ, Nat.zero_add, List.nil_append]
            refine wpAnyH_done (by kernel_rfl) ?_ _
            clear s0 sx s5 z0 z1 y0
            generalize w4.setCell ⟨b, 9, none⟩ (.slice (some ⟨ga, 0, none⟩) (c2.vs.length + 1) ca) = w9 at *
            go_wp2_with fail
            go_ret
            have e := HV2.out.symm.trans HV.out
            rw [HC1.out, HC2.out, show endD ⟨tx, m0, m1, m2, ⟨bk, ver, wt, es, i0, i1, i2, i3⟩⟩ c2 = {c2 with vs := c2.vs ++ [⟨tx, 2⟩]} from by unfold endD; rw [if_pos ⟨by show votedP c2.vs tx = 0; rw [HVO.out]; exact HV0.out, by have := HFU.out; omega⟩]] at e
            cases e
            have tr := T7.out.trans (Trn.of_below b s2 BDD.out)
            exact ⟨rfl, _, H0.out.turn PU.out.1 (tr.trans PU.out.2), tr.trans PU.out.2⟩
      · have hv1 : (vo == 0) = false := by simpa using hv0
        have HV0 := Lib.hid hv0
        clear hv0
        go_wp2_with fail
        go_ret
        have e := HV2.out.symm.trans HV.out
        rw [HC1.out, HC2.out, show endD ⟨tx, m0, m1, m2, ⟨bk, ver, wt, es, i0, i1, i2, i3⟩⟩ c2 = c2 from by unfold endD; rw [if_neg (fun h => by have h1 : votedP c2.vs tx = 0 := h.1; rw [HVO.out] at h1; exact HV0.out h1)]] at e
        cases e
        exact ⟨rfl, _, H0.out.turn H7.out T7.out, T7.out⟩
    | true =>
      cases wt with
      | false =>
        go_quiet (fail)
        clear x5 x6 y2
        have bq := below_drewN w1 nq
        have H3 := Lib.hid (H1.out.row.below bq)
        have K3 := Lib.hid (K2.out.below bq)
        have T3 := Lib.hid (Trn.of_below b s (below_next B1.out bq))
        obtain ⟨c1, hc1⟩ : ∃ c1, newD c ⟨tx, m0, m1, m2, ⟨bk, ver, false, es, i0, i1, i2, i3⟩⟩ true = c1 := ⟨_, rfl⟩
        have HC1 := Lib.hid hc1
        have hcc : c = c1 := by rw [← hc1]; unfold newD; rw [if_neg (by simp)]
        rw [hcc] at H3
        obtain ⟨s1, hs1⟩ : ∃ s1, s = s1 := ⟨_, rfl⟩
        rw [hs1] at H3 HBB
        have T3 : Hid (Trn b s s1 w (w1.drewN nq)) := Lib.hid (by rw [← hs1]; exact T3.out)
        clear bq K2 H1 B1 hc1 hcc hs1
        generalize w1.drewN nq = w3 at *
        have y4 := H3.out.at_ 4 _ rfl
        have CD := Lib.hid (delete_any (l := ⟨tx, m0, m1, m2, ⟨bk, ver, false, es, i0, i1, i2, i3⟩⟩) (t := t) w3 H3.out.l H3.out.zlen (by have := H3.out.few; omega) K3.out (fun e => HBB.out.2 (by simp [e])))
        go_wp2_with fail
        refine CD.out.mono ?_; rintro e wd1 ⟨rfl, own1, kd1⟩
        have hbnl : b ∉ blk s1.l.ao := fun e => (List.nodup_cons.1 H3.out.nd).1 (by simp [e])
        have z4 := (kd1.cell (a := ⟨b, 4, none⟩) H3.out.blt hbnl).trans y4
        have zf := (kd1.frozen (a := ⟨b, 4, none⟩) H3.out.blt hbnl).trans (H3.out.fr 4)
        have PD := Lib.hid (H3.out.delL (fun y => !(txP ⟨tx, m0, m1, m2, ⟨bk, ver, false, es, i0, i1, i2, i3⟩⟩ y)) own1 kd1)
        have KD := Lib.hid ((K3.out.keep kd1 (fun e => HBB.out.2 (by simp [e]))).keep (Keep.setCell wd1 ⟨b, 4, none⟩ (.slice s1.l.ao ((c1.ls.zip s1.la).filter (keepP ⟨tx, m0, m1, m2, ⟨bk, ver, false, es, i0, i1, i2, i3⟩⟩)).length s1.l.cap)) (by simpa using HBB.out.1))
        clear CD own1 kd1 y4 hbnl
        go_upto_region 7 with (fail)
        generalize wd1.setCell ⟨b, 4, none⟩ (.slice s1.l.ao ((c1.ls.zip s1.la).filter (keepP ⟨tx, m0, m1, m2, ⟨bk, ver, false, es, i0, i1, i2, i3⟩⟩)).length s1.l.cap) = wd2 at *
        clear z4 zf
        obtain ⟨s2, hs2⟩ : ∃ s2 : Cs, {s1 with la := ((c1.ls.zip s1.la).filter fun x => !(txP ⟨tx, m0, m1, m2, ⟨bk, ver, false, es, i0, i1, i2, i3⟩⟩ x.1)).map (·.2)} = s2 := ⟨_, rfl⟩
        obtain ⟨c2, hc2⟩ : ∃ c2 : Cp, {c1 with ls := c1.ls.filter fun y => !(txP ⟨tx, m0, m1, m2, ⟨bk, ver, false, es, i0, i1, i2, i3⟩⟩ y)} = c2 := ⟨_, rfl⟩
        rw [hs2, hc2] at PD
        have HC2 := Lib.hid (show delD ⟨tx, m0, m1, m2, ⟨bk, ver, false, es, i0, i1, i2, i3⟩⟩ c1 = c2 from hc2)
        have H2 := Lib.hid PD.out.1
        have T2 := Lib.hid (T3.out.trans PD.out.2)
        have HBB := Lib.hid (show bi ≠ b ∧ bi ∉ blk s2.v.ao ++ blk s2.l.ao from by rw [← hs2]; exact HBB.out)
        clear hs2 hc2 PD
        have C7 := Lib.hid (voted_any wd2 H2.out tx)
        have x0 := KD.out.c 0 _ rfl
        go_wp2_with fail
        refine C7.out.mono ?_; rintro e w7 ⟨rfl, b7⟩
        have K7 := Lib.hid (KD.out.below b7)
        have H7 := Lib.hid (H2.out.below b7)
        have T7 := Lib.hid (T2.out.trans (Trn.of_below b s2 b7))
        clear x0 C7 b7 KD H2 T2
        obtain ⟨vo, hvo⟩ : ∃ vo, votedP c2.vs tx = vo := ⟨_, rfl⟩
        rw [hvo]
        have HVO := Lib.hid hvo
        clear hvo
        by_cases hv0 : vo = 0
        · have hv1 : (vo == 0) = true := by simp [hv0]
          have HV0 := Lib.hid hv0
          clear hv0
          have C9 := Lib.hid (full_any w7 H7.out)
          go_wp2_with fail
          refine C9.out.mono ?_; rintro e w8 ⟨rfl, rfl⟩
          clear C9
          by_cases hfu : 64 ≤ c2.vs.length
          · have hfu2 : decide (64 ≤ c2.vs.length) = true := by simpa using hfu
            have HFU := Lib.hid hfu
            rw [hfu2]
            clear hfu hfu2
            go_wp2_with fail
            go_ret
            have e := HV2.out.symm.trans HV.out
            rw [HC1.out, HC2.out, show endD ⟨tx, m0, m1, m2, ⟨bk, ver, false, es, i0, i1, i2, i3⟩⟩ c2 = c2 from by unfold endD; rw [if_neg (fun h => by have := h.2; have := HFU.out; omega)]] at e
            cases e
            exact ⟨rfl, _, H0.out.turn H7.out T7.out, T7.out⟩
          · have hfu2 : decide (64 ≤ c2.vs.length) = false := by simpa using hfu
            have HFU := Lib.hid hfu
            have HFEW := Lib.hid (show c2.vs.length < 1099511627775 by omega)
            rw [hfu2]
            clear hfu hfu2
            go_upto_region 8 with (fail)
            obtain ⟨j0, hj0, hjz0, hjz1, hjz2⟩ := info_parts vd_info
            have HI := Lib.hid hj0; have HZ0 := Lib.hid hjz0; have HZ1 := Lib.hid hjz1; have HZ2 := Lib.hid hjz2
            clear hj0 hjz0 hjz1 hjz2
            have hl0 : Holds w7 [(⟨bi, 0, none⟩, .int .u64 tx)] := .cons (K7.out.c 0 _ rfl) K7.out.lt (.nil _)
            refine wp_region_held_drew (S := fun w' => Holds w' [(⟨bi, 0, none⟩, .int .u64 tx)]) (by kernel_rfl) hl0.drew (fun s0 => ?_)
            have bd := (Below.refl w7.heap.size w7).drew
            have HD := Lib.hid (H7.out.below bd)
            have BDD := Lib.hid bd
            have HXD := Lib.hid (K7.out.below bd)
            clear bd hl0
            generalize w7.drew = wd at *
            have y0 := HD.out.at_ 9 _ rfl
            have hblt := Lib.hid HD.out.blt
            have hfev := Lib.hid HD.out.fev
            refine wpAnyH_take (i := 0) (v := .pointer (some ⟨b, 0, none⟩)) rfl (by kernel_rfl) (by kernel_rfl) (by kernel_rfl) (fun _ _ _ h => h) (Or.inl ⟨by rfl, fun w' hw' => by go_simp⟩) s0 ?_
            try simp only [Act.put, List.getElem_toArray, List.getElem_cons_succ, List.getElem_cons_zero, List.setIfInBounds_toArray, List.set_cons_zero, List.set_cons_succ, Nat.zero_add, List.nil_append]
            refine wpAnyH_take (i := 1) (v := .pointer (some ⟨b, 0, none⟩)) rfl (by kernel_rfl) (by kernel_rfl) (by kernel_rfl) (fun _ _ _ h => h) (Or.inl ⟨by rfl, fun w' hw' => by go_simp⟩) s0 ?_
            try simp only [Act.put, List.getElem_toArray, List.getElem_cons_succ, List.getElem_cons_zero, List.setIfInBounds_toArray, List.set_cons_zero, List.set_cons_succ, Nat.zero_add, List.nil_append]
            refine wpAnyH_take (i := 2) (v := .pointer (some ⟨b, 0, none⟩)) rfl (by kernel_rfl) (by kernel_rfl) (by kernel_rfl) (fun _ _ _ h => h) (Or.inl ⟨by rfl, fun w' hw' => by go_simp⟩) s0 ?_
            try simp only [Act.put, List.getElem_toArray, List.getElem_cons_succ, List.getElem_cons_zero, List.setIfInBounds_toArray, List.set_cons_zero, List.set_cons_succ, Nat.zero_add, List.nil_append]
            refine wpAnyH_take (i := 3) (v := .pointer (some ⟨b, 0, none⟩)) rfl (by kernel_rfl) (by kernel_rfl) (by kernel_rfl) (fun _ _ _ h => h) (Or.inl ⟨by rfl, fun w' hw' => by go_simp⟩) s0 ?_
            try simp only [Act.put, List.getElem_toArray, List.getElem_cons_succ, List.getElem_cons_zero, List.setIfInBounds_toArray, List.set_cons_zero, List.set_cons_succ, Nat.zero_add, List.nil_append]
            refine wpAnyH_take (i := 4) (v := .pointer (some ⟨b, 9, none⟩)) rfl (by kernel_rfl) (by kernel_rfl) (by kernel_rfl) (fun _ _ _ h => h) (Or.inl ⟨by rfl, fun w' hw' => by go_simp⟩) s0 ?_
            try simp only [Act.put, List.getElem_toArray, List.getElem_cons_succ, List.getElem_cons_zero, List.setIfInBounds_toArray, List.set_cons_zero, List.set_cons_succ, Nat.zero_add, List.nil_append]
            refine wpAnyH_take (i := 6) (v := .pointer (some ⟨bi, 0, none⟩)) rfl (by kernel_rfl) (by kernel_rfl) (by kernel_rfl) (fun _ _ _ h => h) (Or.inl ⟨by rfl, fun w' hw' => by go_simp⟩) s0 ?_
            try simp only [Act.put, List.getElem_toArray, List.getElem_cons_succ, List.getElem_cons_zero, List.setIfInBounds_toArray, List.set_cons_zero, List.set_cons_succ, Nat.zero_add, List.nil_append]
            refine wpAnyH_take (i := 7) (v := .int .u64 tx) rfl (by kernel_rfl) (by kernel_rfl) (by kernel_rfl) (fun _ _ _ h => h) (Or.inl ⟨by rfl, fun w' hw' => by have q0 := hw'.head; go_simp⟩) s0 ?_
            try simp only [Act.put, List.getElem_toArray, List.getElem_cons_succ, List.getElem_cons_zero, List.setIfInBounds_toArray, List.set_cons_zero, List.set_cons_succ, Nat.zero_add, List.nil_append]
            refine wpAnyH_take (i := 8) (v := .agg #[.int .u64 tx, .int .i64 2]) rfl (by kernel_rfl) (by kernel_rfl) (by kernel_rfl) (fun _ _ _ h => h) (Or.inl ⟨by rfl, fun w' hw' => by go_simp⟩) s0 ?_
            try simp only [Act.put, List.getElem_toArray, List.getElem_cons_succ, List.getElem_cons_zero, List.setIfInBounds_toArray, List.set_cons_zero, List.set_cons_succ, Nat.zero_add, List.nil_append]
            refine wpAnyH_ready (rs := [5, 9]) (by kernel_rfl) (by simp) ?_
            refine AllReadyH.cons rfl (fun K hK => ?_) (AllReadyH.cons rfl (fun K hK => ?_) AllReadyH.nil)
            · skip
              rw [if_pos (by rfl)]
              go_simp
              refine hK.out _ _ s0 (fun _ => ?_)
              clear hK K
              try simp only [Act.put, List.getElem_toArray, List.getElem_cons_succ, List.getElem_cons_zero, List.setIfInBounds_toArray, List.set_cons_zero, List.set_cons_succ, Nat.zero_add, List.nil_append]
              refine wpAnyH_ready (rs := [9]) (by kernel_rfl) (by simp) ?_
              refine AllReadyH.cons rfl (fun K hK => ?_) AllReadyH.nil
              rw [if_pos (by rfl)]
              go_simp
              have b3 : Below wd.heap.size wd (wd.alloc (.cells #[.int .u64 tx, .int .i64 2] 51)) := below_alloc (Below.refl _ _) _
              have r3 := heap_alloc_new wd (.cells #[.int .u64 tx, .int .i64 2] 51)
              have y1 := (b3.cell (p := ⟨b, 9, none⟩) hblt.out).trans y0
              have s3 := s0.below b3
              obtain ⟨pb, hpb⟩ : ∃ q, q = wd.heap.size := ⟨_, rfl⟩
              rw [← hpb] at r3 ⊢
              have HPB := Lib.hid hpb
              generalize wd.alloc (.cells #[.int .u64 tx, .int .i64 2] 51) = w3 at *
              have B3 := Lib.hid b3
              have R3 := Lib.hid r3
              clear b3 r3 hpb
              refine hK.out _ _ s3 (fun _ => ?_)
              clear hK K
              try simp only [Act.put, List.getElem_toArray, List.getElem_cons_succ, List.getElem_cons_zero, List.setIfInBounds_toArray, List.set_cons_zero, List.set_cons_succ, Nat.zero_add, List.nil_append]
              refine wpAnyH_ready (rs := [10]) (by kernel_rfl) (by simp) ?_
              refine AllReadyH.cons rfl (fun K hK => ?_) AllReadyH.nil
              rw [if_pos (by rfl)]
              have hown : w3.ownsRow B 51 2 (.slice s2.v.ao c2.vs.length s2.v.cap) c2.vs.length (fl Vd.list c2.vs) := owns_keep HD.out.v (Keep.of_below B3.out []) (by simp)
              have hBv : B ≤ w3.heap.size := by have := HD.out.bs b (by simp [Cs.mut]); have := hblt.out; have := B3.out.size; omega
              have hnd := HD.out.nd
              refine wp_append_lies _ (.tmp 81) (.tmp 85) 34 rfl B 51 j0 _ 2 16 Try.underlying34 HI.out HZ0.out HZ1.out HZ2.out rfl (by decide) (.slice s2.v.ao c2.vs.length s2.v.cap) c2.vs.length (fl Vd.list c2.vs) rfl hown ⟨pb, 0, none⟩ 1 1 (Vd.list ⟨tx, 2⟩) rfl rfl (news_row R3.out) (vd_one _) (by decide) (by have := hfev.out; unfold maxLen; omega) (by have := hfev.out; omega) hBv _ rfl ?_
              intro ga ca w4 own4 gr4 at4 lt4
              have kg := keep_grown gr4
              have hbv : b ∉ blk s2.v.ao := fun e => (List.nodup_cons.1 hnd).1 (by simp [e])
              have z0 := (kg.cell (a := ⟨b, 9, none⟩) (Nat.lt_of_lt_of_le hblt.out B3.out.size) hbv).trans y1
              have z1 := (kg.frozen (a := ⟨b, 9, none⟩) (Nat.lt_of_lt_of_le hblt.out B3.out.size) hbv).trans ((HD.out.below B3.out).fr 9)
              have hbi1 : bi ≠ b := HBB.out.1
              have hbi2 : bi ∉ blk s2.v.ao := fun e => HBB.out.2 (by simp [e])
              have sx := s3.keep kg (by intro p hp; simp only [List.mem_cons, List.not_mem_nil, or_false] at hp; subst hp; exact hbi2)
              have PU := Lib.hid (HD.out.pushV ⟨tx, 2⟩ (HFEW.out) B3.out own4 gr4 at4)
              clear own4 gr4 at4 lt4 kg hown hBv hnd y1 hbv hbi2
              refine hK.out _ _ sx (fun _ => ?_)
              clear hK K
              try simp only [Act.put, List.getElem_toArray, List.getElem_cons_succ, List.getElem_cons_zero, List.setIfInBounds_toArray, List.set_cons_zero, List.set_cons_succ, Nat.zero_add, List.nil_append]
              refine wpAnyH_take (i := 11) (v := .pointer (some ⟨b, 0, none⟩)) rfl (by kernel_rfl) (by kernel_rfl) (by kernel_rfl) (fun _ _ _ h => h) (Or.inl ⟨by rfl, fun w' hw' => by go_simp⟩) sx ?_
              try simp only [Act.put, List.getElem_toArray, List.getElem_cons_succ, List.getElem_cons_zero, List.setIfInBounds_toArray, List.set_cons_zero, List.set_cons_succ, Nat.zero_add, List.nil_append]
              refine wpAnyH_take (i := 12) (v := .pointer (some ⟨b, 0, none⟩)) rfl (by kernel_rfl) (by kernel_rfl) (by kernel_rfl) (fun _ _ _ h => h) (Or.inl ⟨by rfl, fun w' hw' => by go_simp⟩) sx ?_
              try simp only [Act.put, List.getElem_toArray, List.getElem_cons_succ, List.getElem_cons_zero, List.setIfInBounds_toArray, List.set_cons_zero, List.set_cons_succ, Nat.zero_add, List.nil_append]
              refine wpAnyH_take (i := 13) (v := .pointer (some ⟨b, 9, none⟩)) rfl (by kernel_rfl) (by kernel_rfl) (by kernel_rfl) (fun _ _ _ h => h) (Or.inl ⟨by rfl, fun w' hw' => by go_simp⟩) sx ?_
              try simp only [Act.put, List.getElem_toArray, List.getElem_cons_succ, List.getElem_cons_zero, List.setIfInBounds_toArray, List.set_cons_zero, List.set_cons_succ, Nat.zero_add, List.nil_append]
              refine wpAnyH_ready (rs := [14]) (by kernel_rfl) (by simp) ?_
              refine AllReadyH.cons rfl (fun K hK => ?_) AllReadyH.nil
              rw [if_pos (by rfl)]
              go_simp
              have s5 := sx.set ⟨b, 9, none⟩ (.slice (some ⟨ga, 0, none⟩) (c2.vs.length + 1) ca) (by intro p hp; simp only [List.mem_cons, List.not_mem_nil, or_false] at hp; subst hp; intro e; simp only [Addr.mk.injEq] at e; exact hbi1 (by first | exact e.1 | exact e.1.symm))
              refine hK.out _ _ s5 (fun _ => ?_)
              clear hK K
              try simp only [Act.put, List.getElem_toArray, List.getElem_cons_succ, List.getElem_cons_zero, List.setIfInBounds_toArray, List.set_cons_zero, List.set_cons_succ, Nat.zero_add, List.nil_append]
              refine wpAnyH_done (by kernel_rfl) ?_ _
              clear s0 sx s5 z0 z1 y0
              generalize w4.setCell ⟨b, 9, none⟩ (.slice (some ⟨ga, 0, none⟩) (c2.vs.length + 1) ca) = w9 at *
              go_wp2_with fail
              go_ret
              have e := HV2.out.symm.trans HV.out
              rw [HC1.out, HC2.out, show endD ⟨tx, m0, m1, m2, ⟨bk, ver, false, es, i0, i1, i2, i3⟩⟩ c2 = {c2 with vs := c2.vs ++ [⟨tx, 2⟩]} from by unfold endD; rw [if_pos ⟨by show votedP c2.vs tx = 0; rw [HVO.out]; exact HV0.out, by have := HFU.out; omega⟩]] at e
              cases e
              have tr := T7.out.trans (Trn.of_below b s2 BDD.out)
              exact ⟨rfl, _, H0.out.turn PU.out.1 (tr.trans PU.out.2), tr.trans PU.out.2⟩
            · skip
              rw [if_pos (by rfl)]
              go_simp
              have b3 : Below wd.heap.size wd (wd.alloc (.cells #[.int .u64 tx, .int .i64 2] 51)) := below_alloc (Below.refl _ _) _
              have r3 := heap_alloc_new wd (.cells #[.int .u64 tx, .int .i64 2] 51)
              have y1 := (b3.cell (p := ⟨b, 9, none⟩) hblt.out).trans y0
              have s3 := s0.below b3
              obtain ⟨pb, hpb⟩ : ∃ q, q = wd.heap.size := ⟨_, rfl⟩
              rw [← hpb] at r3 ⊢
              have HPB := Lib.hid hpb
              generalize wd.alloc (.cells #[.int .u64 tx, .int .i64 2] 51) = w3 at *
              have B3 := Lib.hid b3
              have R3 := Lib.hid r3
              clear b3 r3 hpb
              refine hK.out _ _ s3 (fun _ => ?_)
              clear hK K
              try simp only [Act.put, List.getElem_toArray, List.getElem_cons_succ, List.getElem_cons_zero, List.setIfInBounds_toArray, List.set_cons_zero, List.set_cons_succ, Nat.zero_add, List.nil_append]
              refine wpAnyH_ready (rs := [5]) (by kernel_rfl) (by simp) ?_
              refine AllReadyH.cons rfl (fun K hK => ?_) AllReadyH.nil
              rw [if_pos (by rfl)]
              go_simp
              refine hK.out _ _ s3 (fun _ => ?_)
              clear hK K
              try simp only [Act.put, List.getElem_toArray, List.getElem_cons_succ, List.getElem_cons_zero, List.setIfInBounds_toArray, List.set_cons_zero, List.set_cons_succ, Nat.zero_add, List.nil_append]
              refine wpAnyH_ready (rs := [10]) (by kernel_rfl) (by simp) ?_
              refine AllReadyH.cons rfl (fun K hK => ?_) AllReadyH.nil
              rw [if_pos (by rfl)]
              have hown : w3.ownsRow B 51 2 (.slice s2.v.ao c2.vs.length s2.v.cap) c2.vs.length (fl Vd.list c2.vs) := owns_keep HD.out.v (Keep.of_below B3.out []) (by simp)
              have hBv : B ≤ w3.heap.size := by have := HD.out.bs b (by simp [Cs.mut]); have := hblt.out; have := B3.out.size; omega
              have hnd := HD.out.nd
              refine wp_append_lies _ (.tmp 81) (.tmp 85) 34 rfl B 51 j0 _ 2 16 Try.underlying34 HI.out HZ0.out HZ1.out HZ2.out rfl (by decide) (.slice s2.v.ao c2.vs.length s2.v.cap) c2.vs.length (fl Vd.list c2.vs) rfl hown ⟨pb, 0, none⟩ 1 1 (Vd.list ⟨tx, 2⟩) rfl rfl (news_row R3.out) (vd_one _) (by decide) (by have := hfev.out; unfold maxLen; omega) (by have := hfev.out; omega) hBv _ rfl ?_
              intro ga ca w4 own4 gr4 at4 lt4
              have kg := keep_grown gr4
              have hbv : b ∉ blk s2.v.ao := fun e => (List.nodup_cons.1 hnd).1 (by simp [e])
              have z0 := (kg.cell (a := ⟨b, 9, none⟩) (Nat.lt_of_lt_of_le hblt.out B3.out.size) hbv).trans y1
              have z1 := (kg.frozen (a := ⟨b, 9, none⟩) (Nat.lt_of_lt_of_le hblt.out B3.out.size) hbv).trans ((HD.out.below B3.out).fr 9)
              have hbi1 : bi ≠ b := HBB.out.1
              have hbi2 : bi ∉ blk s2.v.ao := fun e => HBB.out.2 (by simp [e])
              have sx := s3.keep kg (by intro p hp; simp only [List.mem_cons, List.not_mem_nil, or_false] at hp; subst hp; exact hbi2)
              have PU := Lib.hid (HD.out.pushV ⟨tx, 2⟩ (HFEW.out) B3.out own4 gr4 at4)
              clear own4 gr4 at4 lt4 kg hown hBv hnd y1 hbv hbi2
              refine hK.out _ _ sx (fun _ => ?_)
              clear hK K
              try simp only [Act.put, List.getElem_toArray, List.getElem_cons_succ, List.getElem_cons_zero, List.setIfInBounds_toArray, List.set_cons_zero, List.set_cons_succ, Nat.zero_add, List.nil_append]
              refine wpAnyH_take (i := 11) (v := .pointer (some ⟨b, 0, none⟩)) rfl (by kernel_rfl) (by kernel_rfl) (by kernel_rfl) (fun _ _ _ h => h) (Or.inl ⟨by rfl, fun w' hw' => by go_simp⟩) sx ?_
              try simp only [Act.put, List.getElem_toArray, List.getElem_cons_succ, List.getElem_cons_zero, List.setIfInBounds_toArray, List.set_cons_zero, List.set_cons_succ, Nat.zero_add, List.nil_append]
              refine wpAnyH_take (i := 12) (v := .pointer (some ⟨b, 0, none⟩)) rfl (by kernel_rfl) (by kernel_rfl) (by kernel_rfl) (fun _ _ _ h => h) (Or.inl ⟨by rfl, fun w' hw' => by go_simp⟩) sx ?_
              try simp only [Act.put, List.getElem_toArray, List.getElem_cons_succ, List.getElem_cons_zero, List.setIfInBounds_toArray, List.set_cons_zero, List.set_cons_succ, Nat.zero_add, List.nil_append]
              refine wpAnyH_take (i := 13) (v := .pointer (some ⟨b, 9, none⟩)) rfl (by kernel_rfl) (by kernel_rfl) (by kernel_rfl) (fun _ _ _ h => h) (Or.inl ⟨by rfl, fun w' hw' => by go_simp⟩) sx ?_
              try simp only [Act.put, List.getElem_toArray, List.getElem_cons_succ, List.getElem_cons_zero, List.setIfInBounds_toArray, List.set_cons_zero, List.set_cons_succ, Nat.zero_add, List.nil_append]
              refine wpAnyH_ready (rs := [14]) (by kernel_rfl) (by simp) ?_
              refine AllReadyH.cons rfl (fun K hK => ?_) AllReadyH.nil
              rw [if_pos (by rfl)]
              go_simp
              have s5 := sx.set ⟨b, 9, none⟩ (.slice (some ⟨ga, 0, none⟩) (c2.vs.length + 1) ca) (by intro p hp; simp only [List.mem_cons, List.not_mem_nil, or_false] at hp; subst hp; intro e; simp only [Addr.mk.injEq] at e; exact hbi1 (by first | exact e.1 | exact e.1.symm))
              refine hK.out _ _ s5 (fun _ => ?_)
              clear hK K
              try simp only [Act.put, List.getElem_toArray, List.getElem_cons_succ, List.getElem_cons_zero, List.setIfInBounds_toArray, List.set_cons_zero, List.set_cons_succ, Nat.zero_add, List.nil_append]
              refine wpAnyH_done (by kernel_rfl) ?_ _
              clear s0 sx s5 z0 z1 y0
              generalize w4.setCell ⟨b, 9, none⟩ (.slice (some ⟨ga, 0, none⟩) (c2.vs.length + 1) ca) = w9 at *
              go_wp2_with fail
              go_ret
              have e := HV2.out.symm.trans HV.out
              rw [HC1.out, HC2.out, show endD ⟨tx, m0, m1, m2, ⟨bk, ver, false, es, i0, i1, i2, i3⟩⟩ c2 = {c2 with vs := c2.vs ++ [⟨tx, 2⟩]} from by unfold endD; rw [if_pos ⟨by show votedP c2.vs tx = 0; rw [HVO.out]; exact HV0.out, by have := HFU.out; omega⟩]] at e
              cases e
              have tr := T7.out.trans (Trn.of_below b s2 BDD.out)
              exact ⟨rfl, _, H0.out.turn PU.out.1 (tr.trans PU.out.2), tr.trans PU.out.2⟩
        · have hv1 : (vo == 0) = false := by simpa using hv0
          have HV0 := Lib.hid hv0
          clear hv0
          go_wp2_with fail
          go_ret
          have e := HV2.out.symm.trans HV.out
          rw [HC1.out, HC2.out, show endD ⟨tx, m0, m1, m2, ⟨bk, ver, false, es, i0, i1, i2, i3⟩⟩ c2 = c2 from by unfold endD; rw [if_neg (fun h => by have h1 : votedP c2.vs tx = 0 := h.1; rw [HVO.out] at h1; exact HV0.out h1)]] at e
          cases e
          exact ⟨rfl, _, H0.out.turn H7.out T7.out, T7.out⟩
      | true =>
        by_cases hnew : c.ver < ver + 1
        · have hn2 : decide (c.ver < ver + 1) = true := by simpa using hnew
          have HNW := Lib.hid hnew
          clear hnew
          go_quiet (fail)
          clear x5 x6 y2
          have bq := below_drewN w1 nq
          have H3 := Lib.hid (H1.out.row.below bq)
          have K3 := Lib.hid (K2.out.below bq)
          have E3 := Lib.hid (E1.out.below bq)
          have B3 := Lib.hid (below_next B1.out bq)
          clear bq K2 H1 B1 E1
          generalize w1.drewN nq = w3 at *
          go_upto_region 5 with (fail)
          go_cut [] from 39 to 54 (fun wx => ∃ s2, RowR wx B b nm.r {c with ver := ver + 1, es := es} s2 ∧ Trn b s s2 w3 wx ∧ LkB wx bi ⟨tx, m0, m1, m2, ⟨bk, ver, true, es, i0, i1, i2, i3⟩⟩ t ∧ bi ∉ s2.mut b)
          case first =>
            as_aux_lemma =>
              refine wp_region_held_drew (S := fun w' => LkB w' bi ⟨tx, m0, m1, m2, ⟨bk, ver, true, es, i0, i1, i2, i3⟩⟩ t) (by kernel_rfl) (K3.out.below (Below.refl _ _).drew) (fun s0 => ?_)
              have bd := (Below.refl w3.heap.size w3).drew
              have HD := Lib.hid (H3.out.below bd)
              have BDD := Lib.hid bd
              have HED := Lib.hid (E3.out.below bd)
              clear bd
              generalize w3.drew = wd at *
              have y2 := HD.out.at_ 2 _ rfl
              have y3 := HD.out.at_ 3 _ rfl
              have hblt := Lib.hid HD.out.blt
              have HCE := Lib.hid (ce_any wd t es HED.out F0.out)
              have wv : IntKind.u32.wrap (ver + 1) = ver + 1 := by rw [IntKind.wrap_u32]; omega
              refine wpAnyH_take (i := 0) (v := .pointer (some ⟨b, 0, none⟩)) rfl (by kernel_rfl) (by kernel_rfl) (by kernel_rfl) (fun _ _ _ h => h) (Or.inl ⟨by rfl, fun w' hw' => by go_simp⟩) s0 ?_
              try simp only [Act.put, List.getElem_toArray, List.getElem_cons_succ, List.getElem_cons_zero, List.setIfInBounds_toArray, List.set_cons_zero, List.set_cons_succ, Nat.zero_add, List.nil_append]
              refine wpAnyH_take (i := 1) (v := .pointer (some ⟨b, 0, none⟩)) rfl (by kernel_rfl) (by kernel_rfl) (by kernel_rfl) (fun _ _ _ h => h) (Or.inl ⟨by rfl, fun w' hw' => by go_simp⟩) s0 ?_
              try simp only [Act.put, List.getElem_toArray, List.getElem_cons_succ, List.getElem_cons_zero, List.setIfInBounds_toArray, List.set_cons_zero, List.set_cons_succ, Nat.zero_add, List.nil_append]
              refine wpAnyH_take (i := 2) (v := .pointer (some ⟨bi, 4, none⟩)) rfl (by kernel_rfl) (by kernel_rfl) (by kernel_rfl) (fun _ _ _ h => h) (Or.inl ⟨by rfl, fun w' hw' => by go_simp⟩) s0 ?_
              try simp only [Act.put, List.getElem_toArray, List.getElem_cons_succ, List.getElem_cons_zero, List.setIfInBounds_toArray, List.set_cons_zero, List.set_cons_succ, Nat.zero_add, List.nil_append]
              refine wpAnyH_take (i := 3) (v := .pointer (some ⟨bi, 5, none⟩)) rfl (by kernel_rfl) (by kernel_rfl) (by kernel_rfl) (fun _ _ _ h => h) (Or.inl ⟨by rfl, fun w' hw' => by go_simp⟩) s0 ?_
              try simp only [Act.put, List.getElem_toArray, List.getElem_cons_succ, List.getElem_cons_zero, List.setIfInBounds_toArray, List.set_cons_zero, List.set_cons_succ, Nat.zero_add, List.nil_append]
              refine wpAnyH_take (i := 4) (v := .int .u32 ver) rfl (by kernel_rfl) (by kernel_rfl) (by kernel_rfl) (fun _ _ _ h => h) (Or.inl ⟨by rfl, fun w' hw' => by have q0 := LkB.c hw' 5 _ rfl; go_simp⟩) s0 ?_
              try simp only [Act.put, List.getElem_toArray, List.getElem_cons_succ, List.getElem_cons_zero, List.setIfInBounds_toArray, List.set_cons_zero, List.set_cons_succ, Nat.zero_add, List.nil_append]
              refine wpAnyH_take (i := 5) (v := .int .u32 (ver + 1)) rfl (by kernel_rfl) (by kernel_rfl) (by kernel_rfl) (fun _ _ _ h => h) (Or.inl ⟨by rfl, fun w' hw' => by go_simp⟩) s0 ?_
              try simp only [Act.put, List.getElem_toArray, List.getElem_cons_succ, List.getElem_cons_zero, List.setIfInBounds_toArray, List.set_cons_zero, List.set_cons_succ, Nat.zero_add, List.nil_append]
              refine wpAnyH_take (i := 6) (v := .pointer (some ⟨bi, 4, none⟩)) rfl (by kernel_rfl) (by kernel_rfl) (by kernel_rfl) (fun _ _ _ h => h) (Or.inl ⟨by rfl, fun w' hw' => by go_simp⟩) s0 ?_
              try simp only [Act.put, List.getElem_toArray, List.getElem_cons_succ, List.getElem_cons_zero, List.setIfInBounds_toArray, List.set_cons_zero, List.set_cons_succ, Nat.zero_add, List.nil_append]
              refine wpAnyH_take (i := 7) (v := .pointer (some ⟨bi, 7, none⟩)) rfl (by kernel_rfl) (by kernel_rfl) (by kernel_rfl) (fun _ _ _ h => h) (Or.inl ⟨by rfl, fun w' hw' => by go_simp⟩) s0 ?_
              try simp only [Act.put, List.getElem_toArray, List.getElem_cons_succ, List.getElem_cons_zero, List.setIfInBounds_toArray, List.set_cons_zero, List.set_cons_succ, Nat.zero_add, List.nil_append]
              refine wpAnyH_take (i := 8) (v := .slice t.ao es.length t.cap) rfl (by kernel_rfl) (by kernel_rfl) (by kernel_rfl) (fun _ _ _ h => h) (Or.inl ⟨by rfl, fun w' hw' => by have q0 := LkB.c hw' 7 _ rfl; go_simp⟩) s0 ?_
              try simp only [Act.put, List.getElem_toArray, List.getElem_cons_succ, List.getElem_cons_zero, List.setIfInBounds_toArray, List.set_cons_zero, List.set_cons_succ, Nat.zero_add, List.nil_append]
              refine wpAnyH_ready (rs := [9]) (by kernel_rfl) (by simp) ?_
              refine AllReadyH.cons rfl (fun K hK => ?_) AllReadyH.nil
              rw [if_pos (by rfl)]
              go_simp
              refine HCE.out.mono ?_; rintro e w4 ⟨t2, rfl, o2, b2⟩
              have s3 := LkB.below s0 b2
              have z2 := (b2.cell (p := ⟨b, 2, none⟩) hblt.out).trans y2
              have z3 := (b2.cell (p := ⟨b, 3, none⟩) hblt.out).trans y3
              have f2 := (HD.out.below b2).fr 2
              have f3 := (HD.out.below b2).fr 3
              have PU := Lib.hid (HD.out.setVD (ver + 1) b2 o2 F0.out)
              clear b2 o2 y2 y3
              obtain ⟨ta, tc⟩ := t2
              try simp only at PU
              go_simp
              refine hK.out _ _ s3 (fun _ => ?_)
              clear hK K
              try simp only [Act.put, List.getElem_toArray, List.getElem_cons_succ, List.getElem_cons_zero, List.setIfInBounds_toArray, List.set_cons_zero, List.set_cons_succ, Nat.zero_add, List.nil_append]
              refine wpAnyH_take (i := 10) (v := .pointer (some ⟨b, 0, none⟩)) rfl (by kernel_rfl) (by kernel_rfl) (by kernel_rfl) (fun _ _ _ h => h) (Or.inl ⟨by rfl, fun w' hw' => by go_simp⟩) s3 ?_
              try simp only [Act.put, List.getElem_toArray, List.getElem_cons_succ, List.getElem_cons_zero, List.setIfInBounds_toArray, List.set_cons_zero, List.set_cons_succ, Nat.zero_add, List.nil_append]
              refine wpAnyH_take (i := 11) (v := .pointer (some ⟨b, 0, none⟩)) rfl (by kernel_rfl) (by kernel_rfl) (by kernel_rfl) (fun _ _ _ h => h) (Or.inl ⟨by rfl, fun w' hw' => by go_simp⟩) s3 ?_
              try simp only [Act.put, List.getElem_toArray, List.getElem_cons_succ, List.getElem_cons_zero, List.setIfInBounds_toArray, List.set_cons_zero, List.set_cons_succ, Nat.zero_add, List.nil_append]
              refine wpAnyH_take (i := 12) (v := .pointer (some ⟨b, 2, none⟩)) rfl (by kernel_rfl) (by kernel_rfl) (by kernel_rfl) (fun _ _ _ h => h) (Or.inl ⟨by rfl, fun w' hw' => by go_simp⟩) s3 ?_
              try simp only [Act.put, List.getElem_toArray, List.getElem_cons_succ, List.getElem_cons_zero, List.setIfInBounds_toArray, List.set_cons_zero, List.set_cons_succ, Nat.zero_add, List.nil_append]
              refine wpAnyH_ready (rs := [13]) (by kernel_rfl) (by simp) ?_
              refine AllReadyH.cons rfl (fun K hK => ?_) AllReadyH.nil
              rw [if_pos (by rfl)]
              go_simp
              have s4 := LkB.keep s3 (Keep.setCell w4 ⟨b, 2, none⟩ (.int .u32 (ver + 1))) (by simpa using HBB.out.1)
              refine hK.out _ _ s4 (fun _ => ?_)
              clear hK K
              try simp only [Act.put, List.getElem_toArray, List.getElem_cons_succ, List.getElem_cons_zero, List.setIfInBounds_toArray, List.set_cons_zero, List.set_cons_succ, Nat.zero_add, List.nil_append]
              refine wpAnyH_take (i := 14) (v := .pointer (some ⟨b, 0, none⟩)) rfl (by kernel_rfl) (by kernel_rfl) (by kernel_rfl) (fun _ _ _ h => h) (Or.inl ⟨by rfl, fun w' hw' => by go_simp⟩) s4 ?_
              try simp only [Act.put, List.getElem_toArray, List.getElem_cons_succ, List.getElem_cons_zero, List.setIfInBounds_toArray, List.set_cons_zero, List.set_cons_succ, Nat.zero_add, List.nil_append]
              refine wpAnyH_take (i := 15) (v := .pointer (some ⟨b, 0, none⟩)) rfl (by kernel_rfl) (by kernel_rfl) (by kernel_rfl) (fun _ _ _ h => h) (Or.inl ⟨by rfl, fun w' hw' => by go_simp⟩) s4 ?_
              try simp only [Act.put, List.getElem_toArray, List.getElem_cons_succ, List.getElem_cons_zero, List.setIfInBounds_toArray, List.set_cons_zero, List.set_cons_succ, Nat.zero_add, List.nil_append]
              refine wpAnyH_take (i := 16) (v := .pointer (some ⟨b, 3, none⟩)) rfl (by kernel_rfl) (by kernel_rfl) (by kernel_rfl) (fun _ _ _ h => h) (Or.inl ⟨by rfl, fun w' hw' => by go_simp⟩) s4 ?_
              try simp only [Act.put, List.getElem_toArray, List.getElem_cons_succ, List.getElem_cons_zero, List.setIfInBounds_toArray, List.set_cons_zero, List.set_cons_succ, Nat.zero_add, List.nil_append]
              refine wpAnyH_ready (rs := [17]) (by kernel_rfl) (by simp) ?_
              refine AllReadyH.cons rfl (fun K hK => ?_) AllReadyH.nil
              rw [if_pos (by rfl)]
              go_simp
              have s5 := LkB.keep s4 (Keep.setCell (w4.setCell ⟨b, 2, none⟩ (.int .u32 (ver + 1))) ⟨b, 3, none⟩ (.slice ta es.length tc)) (by simpa using HBB.out.1)
              refine hK.out _ _ s5 (fun _ => ?_)
              clear hK K
              try simp only [Act.put, List.getElem_toArray, List.getElem_cons_succ, List.getElem_cons_zero, List.setIfInBounds_toArray, List.set_cons_zero, List.set_cons_succ, Nat.zero_add, List.nil_append]
              refine wpAnyH_done (by kernel_rfl) ?_ _
              have S5 := Lib.hid s5
              clear s0 s3 s4 s5 z2 z3 f2 f3
              generalize (w4.setCell ⟨b, 2, none⟩ (.int .u32 (ver + 1))).setCell ⟨b, 3, none⟩ (.slice ta es.length tc) = w9 at *
              go_wp2_with fail
              go_meet
              case rel =>
                have tr := (Trn.of_below b s BDD.out).trans PU.out.2
                refine ⟨_, PU.out.1, tr, S5.out, fun hm => ?_⟩
                rcases tr.m bi hm with q | q
                · simp only [Cs.mut, List.mem_cons, List.mem_append] at q
                  rcases q with q | q | q
                  · exact HBB.out.1 q
                  · exact HBB.out.2 (by simp [q])
                  · exact HBB.out.2 (by simp [q])
                · have := K3.out.lt; omega
          case rest =>
            obtain ⟨s1, h6, t6, k6, hb6⟩ := hcut
            have H6 := Lib.hid h6; have K6 := Lib.hid k6
            have T6 := Lib.hid ((Trn.of_below b s B3.out).trans t6)
            have HBB := Lib.hid (show bi ≠ b ∧ bi ∉ blk s1.v.ao ++ blk s1.l.ao from ⟨fun e => hb6 (by simp [Cs.mut, e]), fun e => hb6 (by rw [List.mem_append] at e; rcases e with e | e <;> simp [Cs.mut, e])⟩)
            clear h6 t6 k6 hb6
            obtain ⟨c1, hc1⟩ : ∃ c1, newD c ⟨tx, m0, m1, m2, ⟨bk, ver, true, es, i0, i1, i2, i3⟩⟩ true = c1 := ⟨_, rfl⟩
            have HC1 := Lib.hid hc1
            have hcc : ({c with ver := ver + 1, es := es} : Cp) = c1 := by rw [← hc1]; unfold newD; rw [if_pos (by simpa using HNW.out)]
            rw [hcc] at H6
            clear hc1 hcc
            have y4 := H6.out.at_ 4 _ rfl
            have CD := Lib.hid (delete_any (l := ⟨tx, m0, m1, m2, ⟨bk, ver, true, es, i0, i1, i2, i3⟩⟩) (t := t) wc H6.out.l H6.out.zlen (by have := H6.out.few; omega) K6.out (fun e => HBB.out.2 (by simp [e])))
            go_wp2_with fail
            refine CD.out.mono ?_; rintro e wd1 ⟨rfl, own1, kd1⟩
            have hbnl : b ∉ blk s1.l.ao := fun e => (List.nodup_cons.1 H6.out.nd).1 (by simp [e])
            have z4 := (kd1.cell (a := ⟨b, 4, none⟩) H6.out.blt hbnl).trans y4
            have zf := (kd1.frozen (a := ⟨b, 4, none⟩) H6.out.blt hbnl).trans (H6.out.fr 4)
            have PD := Lib.hid (H6.out.delL (fun y => !(txP ⟨tx, m0, m1, m2, ⟨bk, ver, true, es, i0, i1, i2, i3⟩⟩ y)) own1 kd1)
            have KD := Lib.hid ((K6.out.keep kd1 (fun e => HBB.out.2 (by simp [e]))).keep (Keep.setCell wd1 ⟨b, 4, none⟩ (.slice s1.l.ao ((c1.ls.zip s1.la).filter (keepP ⟨tx, m0, m1, m2, ⟨bk, ver, true, es, i0, i1, i2, i3⟩⟩)).length s1.l.cap)) (by simpa using HBB.out.1))
            clear CD own1 kd1 y4 hbnl
            go_upto_region 7 with (fail)
            generalize wd1.setCell ⟨b, 4, none⟩ (.slice s1.l.ao ((c1.ls.zip s1.la).filter (keepP ⟨tx, m0, m1, m2, ⟨bk, ver, true, es, i0, i1, i2, i3⟩⟩)).length s1.l.cap) = wd2 at *
            clear z4 zf
            obtain ⟨s2, hs2⟩ : ∃ s2 : Cs, {s1 with la := ((c1.ls.zip s1.la).filter fun x => !(txP ⟨tx, m0, m1, m2, ⟨bk, ver, true, es, i0, i1, i2, i3⟩⟩ x.1)).map (·.2)} = s2 := ⟨_, rfl⟩
            obtain ⟨c2, hc2⟩ : ∃ c2 : Cp, {c1 with ls := c1.ls.filter fun y => !(txP ⟨tx, m0, m1, m2, ⟨bk, ver, true, es, i0, i1, i2, i3⟩⟩ y)} = c2 := ⟨_, rfl⟩
            rw [hs2, hc2] at PD
            have HC2 := Lib.hid (show delD ⟨tx, m0, m1, m2, ⟨bk, ver, true, es, i0, i1, i2, i3⟩⟩ c1 = c2 from hc2)
            have H2 := Lib.hid PD.out.1
            have T2 := Lib.hid (T6.out.trans PD.out.2)
            have HBB := Lib.hid (show bi ≠ b ∧ bi ∉ blk s2.v.ao ++ blk s2.l.ao from by rw [← hs2]; exact HBB.out)
            clear hs2 hc2 PD
            have C7 := Lib.hid (voted_any wd2 H2.out tx)
            have x0 := KD.out.c 0 _ rfl
            go_wp2_with fail
            refine C7.out.mono ?_; rintro e w7 ⟨rfl, b7⟩
            have K7 := Lib.hid (KD.out.below b7)
            have H7 := Lib.hid (H2.out.below b7)
            have T7 := Lib.hid (T2.out.trans (Trn.of_below b s2 b7))
            clear x0 C7 b7 KD H2 T2
            obtain ⟨vo, hvo⟩ : ∃ vo, votedP c2.vs tx = vo := ⟨_, rfl⟩
            rw [hvo]
            have HVO := Lib.hid hvo
            clear hvo
            by_cases hv0 : vo = 0
            · have hv1 : (vo == 0) = true := by simp [hv0]
              have HV0 := Lib.hid hv0
              clear hv0
              have C9 := Lib.hid (full_any w7 H7.out)
              go_wp2_with fail
              refine C9.out.mono ?_; rintro e w8 ⟨rfl, rfl⟩
              clear C9
              by_cases hfu : 64 ≤ c2.vs.length
              · have hfu2 : decide (64 ≤ c2.vs.length) = true := by simpa using hfu
                have HFU := Lib.hid hfu
                rw [hfu2]
                clear hfu hfu2
                go_wp2_with fail
                go_ret
                have e := HV2.out.symm.trans HV.out
                rw [HC1.out, HC2.out, show endD ⟨tx, m0, m1, m2, ⟨bk, ver, true, es, i0, i1, i2, i3⟩⟩ c2 = c2 from by unfold endD; rw [if_neg (fun h => by have := h.2; have := HFU.out; omega)]] at e
                cases e
                exact ⟨rfl, _, H0.out.turn H7.out T7.out, T7.out⟩
              · have hfu2 : decide (64 ≤ c2.vs.length) = false := by simpa using hfu
                have HFU := Lib.hid hfu
                have HFEW := Lib.hid (show c2.vs.length < 1099511627775 by omega)
                rw [hfu2]
                clear hfu hfu2
                go_upto_region 8 with (fail)
                obtain ⟨j0, hj0, hjz0, hjz1, hjz2⟩ := info_parts vd_info
                have HI := Lib.hid hj0; have HZ0 := Lib.hid hjz0; have HZ1 := Lib.hid hjz1; have HZ2 := Lib.hid hjz2
                clear hj0 hjz0 hjz1 hjz2
                have hl0 : Holds w7 [(⟨bi, 0, none⟩, .int .u64 tx)] := .cons (K7.out.c 0 _ rfl) K7.out.lt (.nil _)
                refine wp_region_held_drew (S := fun w' => Holds w' [(⟨bi, 0, none⟩, .int .u64 tx)]) (by kernel_rfl) hl0.drew (fun s0 => ?_)
                have bd := (Below.refl w7.heap.size w7).drew
                have HD := Lib.hid (H7.out.below bd)
                have BDD := Lib.hid bd
                have HXD := Lib.hid (K7.out.below bd)
                clear bd hl0
                generalize w7.drew = wd at *
                have y0 := HD.out.at_ 9 _ rfl
                have hblt := Lib.hid HD.out.blt
                have hfev := Lib.hid HD.out.fev
                refine wpAnyH_take (i := 0) (v := .pointer (some ⟨b, 0, none⟩)) rfl (by kernel_rfl) (by kernel_rfl) (by kernel_rfl) (fun _ _ _ h => h) (Or.inl ⟨by rfl, fun w' hw' => by go_simp⟩) s0 ?_
                try simp only [Act.put, List.getElem_toArray, List.getElem_cons_succ, List.getElem_cons_zero, List.setIfInBounds_toArray, List.set_cons_zero, List.set_cons_succ, Nat.zero_add, List.nil_append]
                refine wpAnyH_take (i := 1) (v := .pointer (some ⟨b, 0, none⟩)) rfl (by kernel_rfl) (by kernel_rfl) (by kernel_rfl) (fun _ _ _ h => h) (Or.inl ⟨by rfl, fun w' hw' => by go_simp⟩) s0 ?_
                try simp only [Act.put, List.getElem_toArray, List.getElem_cons_succ, List.getElem_cons_zero, List.setIfInBounds_toArray, List.set_cons_zero, List.set_cons_succ, Nat.zero_add, List.nil_append]
                refine wpAnyH_take (i := 2) (v := .pointer (some ⟨b, 0, none⟩)) rfl (by kernel_rfl) (by kernel_rfl) (by kernel_rfl) (fun _ _ _ h => h) (Or.inl ⟨by rfl, fun w' hw' => by go_simp⟩) s0 ?_
                try simp only [Act.put, List.getElem_toArray, List.getElem_cons_succ, List.getElem_cons_zero, List.setIfInBounds_toArray, List.set_cons_zero, List.set_cons_succ, Nat.zero_add, List.nil_append]
                refine wpAnyH_take (i := 3) (v := .pointer (some ⟨b, 0, none⟩)) rfl (by kernel_rfl) (by kernel_rfl) (by kernel_rfl) (fun _ _ _ h => h) (Or.inl ⟨by rfl, fun w' hw' => by go_simp⟩) s0 ?_
                try simp only [Act.put, List.getElem_toArray, List.getElem_cons_succ, List.getElem_cons_zero, List.setIfInBounds_toArray, List.set_cons_zero, List.set_cons_succ, Nat.zero_add, List.nil_append]
                refine wpAnyH_take (i := 4) (v := .pointer (some ⟨b, 9, none⟩)) rfl (by kernel_rfl) (by kernel_rfl) (by kernel_rfl) (fun _ _ _ h => h) (Or.inl ⟨by rfl, fun w' hw' => by go_simp⟩) s0 ?_
                try simp only [Act.put, List.getElem_toArray, List.getElem_cons_succ, List.getElem_cons_zero, List.setIfInBounds_toArray, List.set_cons_zero, List.set_cons_succ, Nat.zero_add, List.nil_append]
                refine wpAnyH_take (i := 6) (v := .pointer (some ⟨bi, 0, none⟩)) rfl (by kernel_rfl) (by kernel_rfl) (by kernel_rfl) (fun _ _ _ h => h) (Or.inl ⟨by rfl, fun w' hw' => by go_simp⟩) s0 ?_
                try simp only [Act.put, List.getElem_toArray, List.getElem_cons_succ, List.getElem_cons_zero, List.setIfInBounds_toArray, List.set_cons_zero, List.set_cons_succ, Nat.zero_add, List.nil_append]
                refine wpAnyH_take (i := 7) (v := .int .u64 tx) rfl (by kernel_rfl) (by kernel_rfl) (by kernel_rfl) (fun _ _ _ h => h) (Or.inl ⟨by rfl, fun w' hw' => by have q0 := hw'.head; go_simp⟩) s0 ?_
                try simp only [Act.put, List.getElem_toArray, List.getElem_cons_succ, List.getElem_cons_zero, List.setIfInBounds_toArray, List.set_cons_zero, List.set_cons_succ, Nat.zero_add, List.nil_append]
                refine wpAnyH_take (i := 8) (v := .agg #[.int .u64 tx, .int .i64 2]) rfl (by kernel_rfl) (by kernel_rfl) (by kernel_rfl) (fun _ _ _ h => h) (Or.inl ⟨by rfl, fun w' hw' => by go_simp⟩) s0 ?_
                try simp only [Act.put, List.getElem_toArray, List.getElem_cons_succ, List.getElem_cons_zero, List.setIfInBounds_toArray, List.set_cons_zero, List.set_cons_succ, Nat.zero_add, List.nil_append]
                refine wpAnyH_ready (rs := [5, 9]) (by kernel_rfl) (by simp) ?_
                refine AllReadyH.cons rfl (fun K hK => ?_) (AllReadyH.cons rfl (fun K hK => ?_) AllReadyH.nil)
                · skip
                  rw [if_pos (by rfl)]
                  go_simp
                  refine hK.out _ _ s0 (fun _ => ?_)
                  clear hK K
                  try simp only [Act.put, List.getElem_toArray, List.getElem_cons_succ, List.getElem_cons_zero, List.setIfInBounds_toArray, List.set_cons_zero, List.set_cons_succ, Nat.zero_add, List.nil_append]
                  refine wpAnyH_ready (rs := [9]) (by kernel_rfl) (by simp) ?_
                  refine AllReadyH.cons rfl (fun K hK => ?_) AllReadyH.nil
                  rw [if_pos (by rfl)]
                  go_simp
                  have b3 : Below wd.heap.size wd (wd.alloc (.cells #[.int .u64 tx, .int .i64 2] 51)) := below_alloc (Below.refl _ _) _
                  have r3 := heap_alloc_new wd (.cells #[.int .u64 tx, .int .i64 2] 51)
                  have y1 := (b3.cell (p := ⟨b, 9, none⟩) hblt.out).trans y0
                  have s3 := s0.below b3
                  obtain ⟨pb, hpb⟩ : ∃ q, q = wd.heap.size := ⟨_, rfl⟩
                  rw [← hpb] at r3 ⊢
                  have HPB := Lib.hid hpb
                  generalize wd.alloc (.cells #[.int .u64 tx, .int .i64 2] 51) = w3 at *
                  have B3 := Lib.hid b3
                  have R3 := Lib.hid r3
                  clear b3 r3 hpb
                  refine hK.out _ _ s3 (fun _ => ?_)
                  clear hK K
                  try simp only [Act.put, List.getElem_toArray, List.getElem_cons_succ, List.getElem_cons_zero, List.setIfInBounds_toArray, List.set_cons_zero, List.set_cons_succ, Nat.zero_add, List.nil_append]
                  refine wpAnyH_ready (rs := [10]) (by kernel_rfl) (by simp) ?_
                  refine AllReadyH.cons rfl (fun K hK => ?_) AllReadyH.nil
                  rw [if_pos (by rfl)]
                  have hown : w3.ownsRow B 51 2 (.slice s2.v.ao c2.vs.length s2.v.cap) c2.vs.length (fl Vd.list c2.vs) := owns_keep HD.out.v (Keep.of_below B3.out []) (by simp)
                  have hBv : B ≤ w3.heap.size := by have := HD.out.bs b (by simp [Cs.mut]); have := hblt.out; have := B3.out.size; omega
                  have hnd := HD.out.nd
                  refine wp_append_lies _ (.tmp 81) (.tmp 85) 34 rfl B 51 j0 _ 2 16 Try.underlying34 HI.out HZ0.out HZ1.out HZ2.out rfl (by decide) (.slice s2.v.ao c2.vs.length s2.v.cap) c2.vs.length (fl Vd.list c2.vs) rfl hown ⟨pb, 0, none⟩ 1 1 (Vd.list ⟨tx, 2⟩) rfl rfl (news_row R3.out) (vd_one _) (by decide) (by have := hfev.out; unfold maxLen; omega) (by have := hfev.out; omega) hBv _ rfl ?_
                  intro ga ca w4 own4 gr4 at4 lt4
                  have kg := keep_grown gr4
                  have hbv : b ∉ blk s2.v.ao := fun e => (List.nodup_cons.1 hnd).1 (by simp [e])
                  have z0 := (kg.cell (a := ⟨b, 9, none⟩) (Nat.lt_of_lt_of_le hblt.out B3.out.size) hbv).trans y1
                  have z1 := (kg.frozen (a := ⟨b, 9, none⟩) (Nat.lt_of_lt_of_le hblt.out B3.out.size) hbv).trans ((HD.out.below B3.out).fr 9)
                  have hbi1 : bi ≠ b := HBB.out.1
                  have hbi2 : bi ∉ blk s2.v.ao := fun e => HBB.out.2 (by simp [e])
                  have sx := s3.keep kg (by intro p hp; simp only [List.mem_cons, List.not_mem_nil, or_false] at hp; subst hp; exact hbi2)
                  have PU := Lib.hid (HD.out.pushV ⟨tx, 2⟩ (HFEW.out) B3.out own4 gr4 at4)
                  clear own4 gr4 at4 lt4 kg hown hBv hnd y1 hbv hbi2
                  refine hK.out _ _ sx (fun _ => ?_)
                  clear hK K
                  try simp only [Act.put, List.getElem_toArray, List.getElem_cons_succ, List.getElem_cons_zero, List.setIfInBounds_toArray, List.set_cons_zero, List.set_cons_succ, Nat.zero_add, List.nil_append]
                  refine wpAnyH_take (i := 11) (v := .pointer (some ⟨b, 0, none⟩)) rfl (by kernel_rfl) (by kernel_rfl) (by kernel_rfl) (fun _ _ _ h => h) (Or.inl ⟨by rfl, fun w' hw' => by go_simp⟩) sx ?_
                  try simp only [Act.put, List.getElem_toArray, List.getElem_cons_succ, List.getElem_cons_zero, List.setIfInBounds_toArray, List.set_cons_zero, List.set_cons_succ, Nat.zero_add, List.nil_append]
                  refine wpAnyH_take (i := 12) (v := .pointer (some ⟨b, 0, none⟩)) rfl (by kernel_rfl) (by kernel_rfl) (by kernel_rfl) (fun _ _ _ h => h) (Or.inl ⟨by rfl, fun w' hw' => by go_simp⟩) sx ?_
                  try simp only [Act.put, List.getElem_toArray, List.getElem_cons_succ, List.getElem_cons_zero, List.setIfInBounds_toArray, List.set_cons_zero, List.set_cons_succ, Nat.zero_add, List.nil_append]
                  refine wpAnyH_take (i := 13) (v := .pointer (some ⟨b, 9, none⟩)) rfl (by kernel_rfl) (by kernel_rfl) (by kernel_rfl) (fun _ _ _ h => h) (Or.inl ⟨by rfl, fun w' hw' => by go_simp⟩) sx ?_
                  try simp only [Act.put, List.getElem_toArray, List.getElem_cons_succ, List.getElem_cons_zero, List.setIfInBounds_toArray, List.set_cons_zero, List.set_cons_succ, Nat.zero_add, List.nil_append]
                  refine wpAnyH_ready (rs := [14]) (by kernel_rfl) (by simp) ?_
                  refine AllReadyH.cons rfl (fun K hK => ?_) AllReadyH.nil
                  rw [if_pos (by rfl)]
                  go_simp
                  have s5 := sx.set ⟨b, 9, none⟩ (.slice (some ⟨ga, 0, none⟩) (c2.vs.length + 1) ca) (by intro p hp; simp only [List.mem_cons, List.not_mem_nil, or_false] at hp; subst hp; intro e; simp only [Addr.mk.injEq] at e; exact hbi1 (by first | exact e.1 | exact e.1.symm))
                  refine hK.out _ _ s5 (fun _ => ?_)
                  clear hK K
                  try simp only [Act.put, List.getElem_toArray, List.getElem_cons_succ, List.getElem_cons_zero, List.setIfInBounds_toArray, List.set_cons_zero, List.set_cons_succ, Nat.zero_add, List.nil_append]
                  refine wpAnyH_done (by kernel_rfl) ?_ _
                  clear s0 sx s5 z0 z1 y0
                  generalize w4.setCell ⟨b, 9, none⟩ (.slice (some ⟨ga, 0, none⟩) (c2.vs.length + 1) ca) = w9 at *
                  go_wp2_with fail
                  go_ret
                  have e := HV2.out.symm.trans HV.out
                  rw [HC1.out, HC2.out, show endD ⟨tx, m0, m1, m2, ⟨bk, ver, true, es, i0, i1, i2, i3⟩⟩ c2 = {c2 with vs := c2.vs ++ [⟨tx, 2⟩]} from by unfold endD; rw [if_pos ⟨by show votedP c2.vs tx = 0; rw [HVO.out]; exact HV0.out, by have := HFU.out; omega⟩]] at e
                  cases e
                  have tr := T7.out.trans (Trn.of_below b s2 BDD.out)
                  exact ⟨rfl, _, H0.out.turn PU.out.1 (tr.trans PU.out.2), tr.trans PU.out.2⟩
                · skip
                  rw [if_pos (by rfl)]
                  go_simp
                  have b3 : Below wd.heap.size wd (wd.alloc (.cells #[.int .u64 tx, .int .i64 2] 51)) := below_alloc (Below.refl _ _) _
                  have r3 := heap_alloc_new wd (.cells #[.int .u64 tx, .int .i64 2] 51)
                  have y1 := (b3.cell (p := ⟨b, 9, none⟩) hblt.out).trans y0
                  have s3 := s0.below b3
                  obtain ⟨pb, hpb⟩ : ∃ q, q = wd.heap.size := ⟨_, rfl⟩
                  rw [← hpb] at r3 ⊢
                  have HPB := Lib.hid hpb
                  generalize wd.alloc (.cells #[.int .u64 tx, .int .i64 2] 51) = w3 at *
                  have B3 := Lib.hid b3
                  have R3 := Lib.hid r3
                  clear b3 r3 hpb
                  refine hK.out _ _ s3 (fun _ => ?_)
                  clear hK K
                  try simp only [Act.put, List.getElem_toArray, List.getElem_cons_succ, List.getElem_cons_zero, List.setIfInBounds_toArray, List.set_cons_zero, List.set_cons_succ, Nat.zero_add, List.nil_append]
                  refine wpAnyH_ready (rs := [5]) (by kernel_rfl) (by simp) ?_
                  refine AllReadyH.cons rfl (fun K hK => ?_) AllReadyH.nil
                  rw [if_pos (by rfl)]
                  go_simp
                  refine hK.out _ _ s3 (fun _ => ?_)
                  clear hK K
                  try simp only [Act.put, List.getElem_toArray, List.getElem_cons_succ, List.getElem_cons_zero, List.setIfInBounds_toArray, List.set_cons_zero, List.set_cons_succ, Nat.zero_add, List.nil_append]
                  refine wpAnyH_ready (rs := [10]) (by kernel_rfl) (by simp) ?_
                  refine AllReadyH.cons rfl (fun K hK => ?_) AllReadyH.nil
                  rw [if_pos (by rfl)]
                  have hown : w3.ownsRow B 51 2 (.slice s2.v.ao c2.vs.length s2.v.cap) c2.vs.length (fl Vd.list c2.vs) := owns_keep HD.out.v (Keep.of_below B3.out []) (by simp)
                  have hBv : B ≤ w3.heap.size := by have := HD.out.bs b (by simp [Cs.mut]); have := hblt.out; have := B3.out.size; omega
                  have hnd := HD.out.nd
                  refine wp_append_lies _ (.tmp 81) (.tmp 85) 34 rfl B 51 j0 _ 2 16 Try.underlying34 HI.out HZ0.out HZ1.out HZ2.out rfl (by decide) (.slice s2.v.ao c2.vs.length s2.v.cap) c2.vs.length (fl Vd.list c2.vs) rfl hown ⟨pb, 0, none⟩ 1 1 (Vd.list ⟨tx, 2⟩) rfl rfl (news_row R3.out) (vd_one _) (by decide) (by have := hfev.out; unfold maxLen; omega) (by have := hfev.out; omega) hBv _ rfl ?_
                  intro ga ca w4 own4 gr4 at4 lt4
                  have kg := keep_grown gr4
                  have hbv : b ∉ blk s2.v.ao := fun e => (List.nodup_cons.1 hnd).1 (by simp [e])
                  have z0 := (kg.cell (a := ⟨b, 9, none⟩) (Nat.lt_of_lt_of_le hblt.out B3.out.size) hbv).trans y1
                  have z1 := (kg.frozen (a := ⟨b, 9, none⟩) (Nat.lt_of_lt_of_le hblt.out B3.out.size) hbv).trans ((HD.out.below B3.out).fr 9)
                  have hbi1 : bi ≠ b := HBB.out.1
                  have hbi2 : bi ∉ blk s2.v.ao := fun e => HBB.out.2 (by simp [e])
                  have sx := s3.keep kg (by intro p hp; simp only [List.mem_cons, List.not_mem_nil, or_false] at hp; subst hp; exact hbi2)
                  have PU := Lib.hid (HD.out.pushV ⟨tx, 2⟩ (HFEW.out) B3.out own4 gr4 at4)
                  clear own4 gr4 at4 lt4 kg hown hBv hnd y1 hbv hbi2
                  refine hK.out _ _ sx (fun _ => ?_)
                  clear hK K
                  try simp only [Act.put, List.getElem_toArray, List.getElem_cons_succ, List.getElem_cons_zero, List.setIfInBounds_toArray, List.set_cons_zero, List.set_cons_succ, Nat.zero_add, List.nil_append]
                  refine wpAnyH_take (i := 11) (v := .pointer (some ⟨b, 0, none⟩)) rfl (by kernel_rfl) (by kernel_rfl) (by kernel_rfl) (fun _ _ _ h => h) (Or.inl ⟨by rfl, fun w' hw' => by go_simp⟩) sx ?_
                  try simp only [Act.put, List.getElem_toArray, List.getElem_cons_succ, List.getElem_cons_zero, List.setIfInBounds_toArray, List.set_cons_zero, List.set_cons_succ, Nat.zero_add, List.nil_append]
                  refine wpAnyH_take (i := 12) (v := .pointer (some ⟨b, 0, none⟩)) rfl (by kernel_rfl) (by kernel_rfl) (by kernel_rfl) (fun _ _ _ h => h) (Or.inl ⟨by rfl, fun w' hw' => by go_simp⟩) sx ?_
                  try simp only [Act.put, List.getElem_toArray, List.getElem_cons_succ, List.getElem_cons_zero, List.setIfInBounds_toArray, List.set_cons_zero, List.set_cons_succ, Nat.zero_add, List.nil_append]
                  refine wpAnyH_take (i := 13) (v := .pointer (some ⟨b, 9, none⟩)) rfl (by kernel_rfl) (by kernel_rfl) (by kernel_rfl) (fun _ _ _ h => h) (Or.inl ⟨by rfl, fun w' hw' => by go_simp⟩) sx ?_
                  try simp only [Act.put, List.getElem_toArray, List.getElem_cons_succ, List.getElem_cons_zero, List.setIfInBounds_toArray, List.set_cons_zero, List.set_cons_succ, Nat.zero_add, List.nil_append]
                  refine wpAnyH_ready (rs := [14]) (by kernel_rfl) (by simp) ?_
                  refine AllReadyH.cons rfl (fun K hK => ?_) AllReadyH.nil
                  rw [if_pos (by rfl)]
                  go_simp
                  have s5 := sx.set ⟨b, 9, none⟩ (.slice (some ⟨ga, 0, none⟩) (c2.vs.length + 1) ca) (by intro p hp; simp only [List.mem_cons, List.not_mem_nil, or_false] at hp; subst hp; intro e; simp only [Addr.mk.injEq] at e; exact hbi1 (by first | exact e.1 | exact e.1.symm))
                  refine hK.out _ _ s5 (fun _ => ?_)
                  clear hK K
                  try simp only [Act.put, List.getElem_toArray, List.getElem_cons_succ, List.getElem_cons_zero, List.setIfInBounds_toArray, List.set_cons_zero, List.set_cons_succ, Nat.zero_add, List.nil_append]
                  refine wpAnyH_done (by kernel_rfl) ?_ _
                  clear s0 sx s5 z0 z1 y0
                  generalize w4.setCell ⟨b, 9, none⟩ (.slice (some ⟨ga, 0, none⟩) (c2.vs.length + 1) ca) = w9 at *
                  go_wp2_with fail
                  go_ret
                  have e := HV2.out.symm.trans HV.out
                  rw [HC1.out, HC2.out, show endD ⟨tx, m0, m1, m2, ⟨bk, ver, true, es, i0, i1, i2, i3⟩⟩ c2 = {c2 with vs := c2.vs ++ [⟨tx, 2⟩]} from by unfold endD; rw [if_pos ⟨by show votedP c2.vs tx = 0; rw [HVO.out]; exact HV0.out, by have := HFU.out; omega⟩]] at e
                  cases e
                  have tr := T7.out.trans (Trn.of_below b s2 BDD.out)
                  exact ⟨rfl, _, H0.out.turn PU.out.1 (tr.trans PU.out.2), tr.trans PU.out.2⟩
            · have hv1 : (vo == 0) = false := by simpa using hv0
              have HV0 := Lib.hid hv0
              clear hv0
              go_wp2_with fail
              go_ret
              have e := HV2.out.symm.trans HV.out
              rw [HC1.out, HC2.out, show endD ⟨tx, m0, m1, m2, ⟨bk, ver, true, es, i0, i1, i2, i3⟩⟩ c2 = c2 from by unfold endD; rw [if_neg (fun h => by have h1 : votedP c2.vs tx = 0 := h.1; rw [HVO.out] at h1; exact HV0.out h1)]] at e
              cases e
              exact ⟨rfl, _, H0.out.turn H7.out T7.out, T7.out⟩
        · have hn2 : decide (c.ver < ver + 1) = false := by simpa using hnew
          go_quiet (fail)
          clear x5 x6 y2
          have bq := below_drewN w1 nq
          have H3 := Lib.hid (H1.out.row.below bq)
          have K3 := Lib.hid (K2.out.below bq)
          have T3 := Lib.hid (Trn.of_below b s (below_next B1.out bq))
          obtain ⟨c1, hc1⟩ : ∃ c1, newD c ⟨tx, m0, m1, m2, ⟨bk, ver, true, es, i0, i1, i2, i3⟩⟩ true = c1 := ⟨_, rfl⟩
          have HC1 := Lib.hid hc1
          have hcc : c = c1 := by rw [← hc1]; unfold newD; rw [if_neg (by simpa using hnew)]
          rw [hcc] at H3
          obtain ⟨s1, hs1⟩ : ∃ s1, s = s1 := ⟨_, rfl⟩
          rw [hs1] at H3 HBB
          have T3 : Hid (Trn b s s1 w (w1.drewN nq)) := Lib.hid (by rw [← hs1]; exact T3.out)
          clear bq K2 H1 B1 hc1 hcc hs1
          generalize w1.drewN nq = w3 at *
          have y4 := H3.out.at_ 4 _ rfl
          have CD := Lib.hid (delete_any (l := ⟨tx, m0, m1, m2, ⟨bk, ver, true, es, i0, i1, i2, i3⟩⟩) (t := t) w3 H3.out.l H3.out.zlen (by have := H3.out.few; omega) K3.out (fun e => HBB.out.2 (by simp [e])))
          go_wp2_with fail
          refine CD.out.mono ?_; rintro e wd1 ⟨rfl, own1, kd1⟩
          have hbnl : b ∉ blk s1.l.ao := fun e => (List.nodup_cons.1 H3.out.nd).1 (by simp [e])
          have z4 := (kd1.cell (a := ⟨b, 4, none⟩) H3.out.blt hbnl).trans y4
          have zf := (kd1.frozen (a := ⟨b, 4, none⟩) H3.out.blt hbnl).trans (H3.out.fr 4)
          have PD := Lib.hid (H3.out.delL (fun y => !(txP ⟨tx, m0, m1, m2, ⟨bk, ver, true, es, i0, i1, i2, i3⟩⟩ y)) own1 kd1)
          have KD := Lib.hid ((K3.out.keep kd1 (fun e => HBB.out.2 (by simp [e]))).keep (Keep.setCell wd1 ⟨b, 4, none⟩ (.slice s1.l.ao ((c1.ls.zip s1.la).filter (keepP ⟨tx, m0, m1, m2, ⟨bk, ver, true, es, i0, i1, i2, i3⟩⟩)).length s1.l.cap)) (by simpa using HBB.out.1))
          clear CD own1 kd1 y4 hbnl
          go_upto_region 7 with (fail)
          generalize wd1.setCell ⟨b, 4, none⟩ (.slice s1.l.ao ((c1.ls.zip s1.la).filter (keepP ⟨tx, m0, m1, m2, ⟨bk, ver, true, es, i0, i1, i2, i3⟩⟩)).length s1.l.cap) = wd2 at *
          clear z4 zf
          obtain ⟨s2, hs2⟩ : ∃ s2 : Cs, {s1 with la := ((c1.ls.zip s1.la).filter fun x => !(txP ⟨tx, m0, m1, m2, ⟨bk, ver, true, es, i0, i1, i2, i3⟩⟩ x.1)).map (·.2)} = s2 := ⟨_, rfl⟩
          obtain ⟨c2, hc2⟩ : ∃ c2 : Cp, {c1 with ls := c1.ls.filter fun y => !(txP ⟨tx, m0, m1, m2, ⟨bk, ver, true, es, i0, i1, i2, i3⟩⟩ y)} = c2 := ⟨_, rfl⟩
          rw [hs2, hc2] at PD
          have HC2 := Lib.hid (show delD ⟨tx, m0, m1, m2, ⟨bk, ver, true, es, i0, i1, i2, i3⟩⟩ c1 = c2 from hc2)
          have H2 := Lib.hid PD.out.1
          have T2 := Lib.hid (T3.out.trans PD.out.2)
          have HBB := Lib.hid (show bi ≠ b ∧ bi ∉ blk s2.v.ao ++ blk s2.l.ao from by rw [← hs2]; exact HBB.out)
          clear hs2 hc2 PD
          have C7 := Lib.hid (voted_any wd2 H2.out tx)
          have x0 := KD.out.c 0 _ rfl
          go_wp2_with fail
          refine C7.out.mono ?_; rintro e w7 ⟨rfl, b7⟩
          have K7 := Lib.hid (KD.out.below b7)
          have H7 := Lib.hid (H2.out.below b7)
          have T7 := Lib.hid (T2.out.trans (Trn.of_below b s2 b7))
          clear x0 C7 b7 KD H2 T2
          obtain ⟨vo, hvo⟩ : ∃ vo, votedP c2.vs tx = vo := ⟨_, rfl⟩
          rw [hvo]
          have HVO := Lib.hid hvo
          clear hvo
          by_cases hv0 : vo = 0
          · have hv1 : (vo == 0) = true := by simp [hv0]
            have HV0 := Lib.hid hv0
            clear hv0
            have C9 := Lib.hid (full_any w7 H7.out)
            go_wp2_with fail
            refine C9.out.mono ?_; rintro e w8 ⟨rfl, rfl⟩
            clear C9
            by_cases hfu : 64 ≤ c2.vs.length
            · have hfu2 : decide (64 ≤ c2.vs.length) = true := by simpa using hfu
              have HFU := Lib.hid hfu
              rw [hfu2]
              clear hfu hfu2
              go_wp2_with fail
              go_ret
              have e := HV2.out.symm.trans HV.out
              rw [HC1.out, HC2.out, show endD ⟨tx, m0, m1, m2, ⟨bk, ver, true, es, i0, i1, i2, i3⟩⟩ c2 = c2 from by unfold endD; rw [if_neg (fun h => by have := h.2; have := HFU.out; omega)]] at e
              cases e
              exact ⟨rfl, _, H0.out.turn H7.out T7.out, T7.out⟩
            · have hfu2 : decide (64 ≤ c2.vs.length) = false := by simpa using hfu
              have HFU := Lib.hid hfu
              have HFEW := Lib.hid (show c2.vs.length < 1099511627775 by omega)
              rw [hfu2]
              clear hfu hfu2
              go_upto_region 8 with (fail)
              obtain ⟨j0, hj0, hjz0, hjz1, hjz2⟩ := info_parts vd_info
              have HI := Lib.hid hj0; have HZ0 := Lib.hid hjz0; have HZ1 := Lib.hid hjz1; have HZ2 := Lib.hid hjz2
              clear hj0 hjz0 hjz1 hjz2
              have hl0 : Holds w7 [(⟨bi, 0, none⟩, .int .u64 tx)] := .cons (K7.out.c 0 _ rfl) K7.out.lt (.nil _)
              refine wp_region_held_drew (S := fun w' => Holds w' [(⟨bi, 0, none⟩, .int .u64 tx)]) (by kernel_rfl) hl0.drew (fun s0 => ?_)
              have bd := (Below.refl w7.heap.size w7).drew
              have HD := Lib.hid (H7.out.below bd)
              have BDD := Lib.hid bd
              have HXD := Lib.hid (K7.out.below bd)
              clear bd hl0
              generalize w7.drew = wd at *
              have y0 := HD.out.at_ 9 _ rfl
              have hblt := Lib.hid HD.out.blt
              have hfev := Lib.hid HD.out.fev
              refine wpAnyH_take (i := 0) (v := .pointer (some ⟨b, 0, none⟩)) rfl (by kernel_rfl) (by kernel_rfl) (by kernel_rfl) (fun _ _ _ h => h) (Or.inl ⟨by rfl, fun w' hw' => by go_simp⟩) s0 ?_
              try simp only [Act.put, List.getElem_toArray, List.getElem_cons_succ, List.getElem_cons_zero, List.setIfInBounds_toArray, List.set_cons_zero, List.set_cons_succ, Nat.zero_add, List.nil_append]
              refine wpAnyH_take (i := 1) (v := .pointer (some ⟨b, 0, none⟩)) rfl (by kernel_rfl) (by kernel_rfl) (by kernel_rfl) (fun _ _ _ h => h) (Or.inl ⟨by rfl, fun w' hw' => by go_simp⟩) s0 ?_
              try simp only [Act.put, List.getElem_toArray, List.getElem_cons_succ, List.getElem_cons_zero, List.setIfInBounds_toArray, List.set_cons_zero, List.set_cons_succ, Nat.zero_add, List.nil_append]
              refine wpAnyH_take (i := 2) (v := .pointer (some ⟨b, 0, none⟩)) rfl (by kernel_rfl) (by kernel_rfl) (by kernel_rfl) (fun _ _ _ h => h) (Or.inl ⟨by rfl, fun w' hw' => by go_simp⟩) s0 ?_
              try simp only [Act.put, List.getElem_toArray, List.getElem_cons_succ, List.getElem_cons_zero, List.setIfInBounds_toArray, List.set_cons_zero, List.set_cons_succ, Nat.zero_add, List.nil_append]
              refine wpAnyH_take (i := 3) (v := .pointer (some ⟨b, 0, none⟩)) rfl (by kernel_rfl) (by kernel_rfl) (by kernel_rfl) (fun _ _ _ h => h) (Or.inl ⟨by rfl, fun w' hw' => by go_simp⟩) s0 ?_
              try simp only [Act.put, List.getElem_toArray, List.getElem_cons_succ, List.getElem_cons_zero, List.setIfInBounds_toArray, List.set_cons_zero, List.set_cons_succ, Nat.zero_add, List.nil_append]
              refine wpAnyH_take (i := 4) (v := .pointer (some ⟨b, 9, none⟩)) rfl (by kernel_rfl) (by kernel_rfl) (by kernel_rfl) (fun _ _ _ h => h) (Or.inl ⟨by rfl, fun w' hw' => by go_simp⟩) s0 ?_
              try simp only [Act.put, List.getElem_toArray, List.getElem_cons_succ, List.getElem_cons_zero, List.setIfInBounds_toArray, List.set_cons_zero, List.set_cons_succ, Nat.zero_add, List.nil_append]
              refine wpAnyH_take (i := 6) (v := .pointer (some ⟨bi, 0, none⟩)) rfl (by kernel_rfl) (by kernel_rfl) (by kernel_rfl) (fun _ _ _ h => h) (Or.inl ⟨by rfl, fun w' hw' => by go_simp⟩) s0 ?_
              try simp only [Act.put, List.getElem_toArray, List.getElem_cons_succ, List.getElem_cons_zero, List.setIfInBounds_toArray, List.set_cons_zero, List.set_cons_succ, Nat.zero_add, List.nil_append]
              refine wpAnyH_take (i := 7) (v := .int .u64 tx) rfl (by kernel_rfl) (by kernel_rfl) (by kernel_rfl) (fun _ _ _ h => h) (Or.inl ⟨by rfl, fun w' hw' => by have q0 := hw'.head; go_simp⟩) s0 ?_
              try simp only [Act.put, List.getElem_toArray, List.getElem_cons_succ, List.getElem_cons_zero, List.setIfInBounds_toArray, List.set_cons_zero, List.set_cons_succ, Nat.zero_add, List.nil_append]
              refine wpAnyH_take (i := 8) (v := .agg #[.int .u64 tx, .int .i64 2]) rfl (by kernel_rfl) (by kernel_rfl) (by kernel_rfl) (fun _ _ _ h => h) (Or.inl ⟨by rfl, fun w' hw' => by go_simp⟩) s0 ?_
              try simp only [Act.put, List.getElem_toArray, List.getElem_cons_succ, List.getElem_cons_zero, List.setIfInBounds_toArray, List.set_cons_zero, List.set_cons_succ, Nat.zero_add, List.nil_append]
              refine wpAnyH_ready (rs := [5, 9]) (by kernel_rfl) (by simp) ?_
              refine AllReadyH.cons rfl (fun K hK => ?_) (AllReadyH.cons rfl (fun K hK => ?_) AllReadyH.nil)
              · skip
                rw [if_pos (by rfl)]
                go_simp
                refine hK.out _ _ s0 (fun _ => ?_)
                clear hK K
                try simp only [Act.put, List.getElem_toArray, List.getElem_cons_succ, List.getElem_cons_zero, List.setIfInBounds_toArray, List.set_cons_zero, List.set_cons_succ, Nat.zero_add, List.nil_append]
                refine wpAnyH_ready (rs := [9]) (by kernel_rfl) (by simp) ?_
                refine AllReadyH.cons rfl (fun K hK => ?_) AllReadyH.nil
                rw [if_pos (by rfl)]
                go_simp
                have b3 : Below wd.heap.size wd (wd.alloc (.cells #[.int .u64 tx, .int .i64 2] 51)) := below_alloc (Below.refl _ _) _
                have r3 := heap_alloc_new wd (.cells #[.int .u64 tx, .int .i64 2] 51)
                have y1 := (b3.cell (p := ⟨b, 9, none⟩) hblt.out).trans y0
                have s3 := s0.below b3
                obtain ⟨pb, hpb⟩ : ∃ q, q = wd.heap.size := ⟨_, rfl⟩
                rw [← hpb] at r3 ⊢
                have HPB := Lib.hid hpb
                generalize wd.alloc (.cells #[.int .u64 tx, .int .i64 2] 51) = w3 at *
                have B3 := Lib.hid b3
                have R3 := Lib.hid r3
                clear b3 r3 hpb
                refine hK.out _ _ s3 (fun _ => ?_)
                clear hK K
                try simp only [Act.put, List.getElem_toArray, List.getElem_cons_succ, List.getElem_cons_zero, List.setIfInBounds_toArray, List.set_cons_zero, List.set_cons_succ, Nat.zero_add, List.nil_append]
                refine wpAnyH_ready (rs := [10]) (by kernel_rfl) (by simp) ?_
                refine AllReadyH.cons rfl (fun K hK => ?_) AllReadyH.nil
                rw [if_pos (by rfl)]
                have hown : w3.ownsRow B 51 2 (.slice s2.v.ao c2.vs.length s2.v.cap) c2.vs.length (fl Vd.list c2.vs) := owns_keep HD.out.v (Keep.of_below B3.out []) (by simp)
                have hBv : B ≤ w3.heap.size := by have := HD.out.bs b (by simp [Cs.mut]); have := hblt.out; have := B3.out.size; omega
                have hnd := HD.out.nd
                refine wp_append_lies _ (.tmp 81) (.tmp 85) 34 rfl B 51 j0 _ 2 16 Try.underlying34 HI.out HZ0.out HZ1.out HZ2.out rfl (by decide) (.slice s2.v.ao c2.vs.length s2.v.cap) c2.vs.length (fl Vd.list c2.vs) rfl hown ⟨pb, 0, none⟩ 1 1 (Vd.list ⟨tx, 2⟩) rfl rfl (news_row R3.out) (vd_one _) (by decide) (by have := hfev.out; unfold maxLen; omega) (by have := hfev.out; omega) hBv _ rfl ?_
                intro ga ca w4 own4 gr4 at4 lt4
                have kg := keep_grown gr4
                have hbv : b ∉ blk s2.v.ao := fun e => (List.nodup_cons.1 hnd).1 (by simp [e])
                have z0 := (kg.cell (a := ⟨b, 9, none⟩) (Nat.lt_of_lt_of_le hblt.out B3.out.size) hbv).trans y1
                have z1 := (kg.frozen (a := ⟨b, 9, none⟩) (Nat.lt_of_lt_of_le hblt.out B3.out.size) hbv).trans ((HD.out.below B3.out).fr 9)
                have hbi1 : bi ≠ b := HBB.out.1
                have hbi2 : bi ∉ blk s2.v.ao := fun e => HBB.out.2 (by simp [e])
                have sx := s3.keep kg (by intro p hp; simp only [List.mem_cons, List.not_mem_nil, or_false] at hp; subst hp; exact hbi2)
                have PU := Lib.hid (HD.out.pushV ⟨tx, 2⟩ (HFEW.out) B3.out own4 gr4 at4)
                clear own4 gr4 at4 lt4 kg hown hBv hnd y1 hbv hbi2
                refine hK.out _ _ sx (fun _ => ?_)
                clear hK K
                try simp only [Act.put, List.getElem_toArray, List.getElem_cons_succ, List.getElem_cons_zero, List.setIfInBounds_toArray, List.set_cons_zero, List.set_cons_succ, Nat.zero_add, List.nil_append]
                refine wpAnyH_take (i := 11) (v := .pointer (some ⟨b, 0, none⟩)) rfl (by kernel_rfl) (by kernel_rfl) (by kernel_rfl) (fun _ _ _ h => h) (Or.inl ⟨by rfl, fun w' hw' => by go_simp⟩) sx ?_
                try simp only [Act.put, List.getElem_toArray, List.getElem_cons_succ, List.getElem_cons_zero, List.setIfInBounds_toArray, List.set_cons_zero, List.set_cons_succ, Nat.zero_add, List.nil_append]
                refine wpAnyH_take (i := 12) (v := .pointer (some ⟨b, 0, none⟩)) rfl (by kernel_rfl) (by kernel_rfl) (by kernel_rfl) (fun _ _ _ h => h) (Or.inl ⟨by rfl, fun w' hw' => by go_simp⟩) sx ?_
                try simp only [Act.put, List.getElem_toArray, List.getElem_cons_succ, List.getElem_cons_zero, List.setIfInBounds_toArray, List.set_cons_zero, List.set_cons_succ, Nat.zero_add, List.nil_append]
                refine wpAnyH_take (i := 13) (v := .pointer (some ⟨b, 9, none⟩)) rfl (by kernel_rfl) (by kernel_rfl) (by kernel_rfl) (fun _ _ _ h => h) (Or.inl ⟨by rfl, fun w' hw' => by go_simp⟩) sx ?_
                try simp only [Act.put, List.getElem_toArray, List.getElem_cons_succ, List.getElem_cons_zero, List.setIfInBounds_toArray, List.set_cons_zero, List.set_cons_succ, Nat.zero_add, List.nil_append]
                refine wpAnyH_ready (rs := [14]) (by kernel_rfl) (by simp) ?_
                refine AllReadyH.cons rfl (fun K hK => ?_) AllReadyH.nil
                rw [if_pos (by rfl)]
                go_simp
                have s5 := sx.set ⟨b, 9, none⟩ (.slice (some ⟨ga, 0, none⟩) (c2.vs.length + 1) ca) (by intro p hp; simp only [List.mem_cons, List.not_mem_nil, or_false] at hp; subst hp; intro e; simp only [Addr.mk.injEq] at e; exact hbi1 (by first | exact e.1 | exact e.1.symm))
                refine hK.out _ _ s5 (fun _ => ?_)
                clear hK K
                try simp only [Act.put, List.getElem_toArray, List.getElem_cons_succ, List.getElem_cons_zero, List.setIfInBounds_toArray, List.set_cons_zero, List.set_cons_succ, Nat.zero_add, List.nil_append]
                refine wpAnyH_done (by kernel_rfl) ?_ _
                clear s0 sx s5 z0 z1 y0
                generalize w4.setCell ⟨b, 9, none⟩ (.slice (some ⟨ga, 0, none⟩) (c2.vs.length + 1) ca) = w9 at *
                go_wp2_with fail
                go_ret
                have e := HV2.out.symm.trans HV.out
                rw [HC1.out, HC2.out, show endD ⟨tx, m0, m1, m2, ⟨bk, ver, true, es, i0, i1, i2, i3⟩⟩ c2 = {c2 with vs := c2.vs ++ [⟨tx, 2⟩]} from by unfold endD; rw [if_pos ⟨by show votedP c2.vs tx = 0; rw [HVO.out]; exact HV0.out, by have := HFU.out; omega⟩]] at e
                cases e
                have tr := T7.out.trans (Trn.of_below b s2 BDD.out)
                exact ⟨rfl, _, H0.out.turn PU.out.1 (tr.trans PU.out.2), tr.trans PU.out.2⟩
              · skip
                rw [if_pos (by rfl)]
                go_simp
                have b3 : Below wd.heap.size wd (wd.alloc (.cells #[.int .u64 tx, .int .i64 2] 51)) := below_alloc (Below.refl _ _) _
                have r3 := heap_alloc_new wd (.cells #[.int .u64 tx, .int .i64 2] 51)
                have y1 := (b3.cell (p := ⟨b, 9, none⟩) hblt.out).trans y0
                have s3 := s0.below b3
                obtain ⟨pb, hpb⟩ : ∃ q, q = wd.heap.size := ⟨_, rfl⟩
                rw [← hpb] at r3 ⊢
                have HPB := Lib.hid hpb
                generalize wd.alloc (.cells #[.int .u64 tx, .int .i64 2] 51) = w3 at *
                have B3 := Lib.hid b3
                have R3 := Lib.hid r3
                clear b3 r3 hpb
                refine hK.out _ _ s3 (fun _ => ?_)
                clear hK K
                try simp only [Act.put, List.getElem_toArray, List.getElem_cons_succ, List.getElem_cons_zero, List.setIfInBounds_toArray, List.set_cons_zero, List.set_cons_succ, Nat.zero_add, List.nil_append]
                refine wpAnyH_ready (rs := [5]) (by kernel_rfl) (by simp) ?_
                refine AllReadyH.cons rfl (fun K hK => ?_) AllReadyH.nil
                rw [if_pos (by rfl)]
                go_simp
                refine hK.out _ _ s3 (fun _ => ?_)
                clear hK K
                try simp only [Act.put, List.getElem_toArray, List.getElem_cons_succ, List.getElem_cons_zero, List.setIfInBounds_toArray, List.set_cons_zero, List.set_cons_succ, Nat.zero_add, List.nil_append]
                refine wpAnyH_ready (rs := [10]) (by kernel_rfl) (by simp) ?_
                refine AllReadyH.cons rfl (fun K hK => ?_) AllReadyH.nil
                rw [if_pos (by rfl)]
                have hown : w3.ownsRow B 51 2 (.slice s2.v.ao c2.vs.length s2.v.cap) c2.vs.length (fl Vd.list c2.vs) := owns_keep HD.out.v (Keep.of_below B3.out []) (by simp)
                have hBv : B ≤ w3.heap.size := by have := HD.out.bs b (by simp [Cs.mut]); have := hblt.out; have := B3.out.size; omega
                have hnd := HD.out.nd
                refine wp_append_lies _ (.tmp 81) (.tmp 85) 34 rfl B 51 j0 _ 2 16 Try.underlying34 HI.out HZ0.out HZ1.out HZ2.out rfl (by decide) (.slice s2.v.ao c2.vs.length s2.v.cap) c2.vs.length (fl Vd.list c2.vs) rfl hown ⟨pb, 0, none⟩ 1 1 (Vd.list ⟨tx, 2⟩) rfl rfl (news_row R3.out) (vd_one _) (by decide) (by have := hfev.out; unfold maxLen; omega) (by have := hfev.out; omega) hBv _ rfl ?_
                intro ga ca w4 own4 gr4 at4 lt4
                have kg := keep_grown gr4
                have hbv : b ∉ blk s2.v.ao := fun e => (List.nodup_cons.1 hnd).1 (by simp [e])
                have z0 := (kg.cell (a := ⟨b, 9, none⟩) (Nat.lt_of_lt_of_le hblt.out B3.out.size) hbv).trans y1
                have z1 := (kg.frozen (a := ⟨b, 9, none⟩) (Nat.lt_of_lt_of_le hblt.out B3.out.size) hbv).trans ((HD.out.below B3.out).fr 9)
                have hbi1 : bi ≠ b := HBB.out.1
                have hbi2 : bi ∉ blk s2.v.ao := fun e => HBB.out.2 (by simp [e])
                have sx := s3.keep kg (by intro p hp; simp only [List.mem_cons, List.not_mem_nil, or_false] at hp; subst hp; exact hbi2)
                have PU := Lib.hid (HD.out.pushV ⟨tx, 2⟩ (HFEW.out) B3.out own4 gr4 at4)
                clear own4 gr4 at4 lt4 kg hown hBv hnd y1 hbv hbi2
                refine hK.out _ _ sx (fun _ => ?_)
                clear hK K
                try simp only [Act.put, List.getElem_toArray, List.getElem_cons_succ, List.getElem_cons_zero, List.setIfInBounds_toArray, List.set_cons_zero, List.set_cons_succ, Nat.zero_add, List.nil_append]
                refine wpAnyH_take (i := 11) (v := .pointer (some ⟨b, 0, none⟩)) rfl (by kernel_rfl) (by kernel_rfl) (by kernel_rfl) (fun _ _ _ h => h) (Or.inl ⟨by rfl, fun w' hw' => by go_simp⟩) sx ?_
                try simp only [Act.put, List.getElem_toArray, List.getElem_cons_succ, List.getElem_cons_zero, List.setIfInBounds_toArray, List.set_cons_zero, List.set_cons_succ, Nat.zero_add, List.nil_append]
                refine wpAnyH_take (i := 12) (v := .pointer (some ⟨b, 0, none⟩)) rfl (by kernel_rfl) (by kernel_rfl) (by kernel_rfl) (fun _ _ _ h => h) (Or.inl ⟨by rfl, fun w' hw' => by go_simp⟩) sx ?_
                try simp only [Act.put, List.getElem_toArray, List.getElem_cons_succ, List.getElem_cons_zero, List.setIfInBounds_toArray, List.set_cons_zero, List.set_cons_succ, Nat.zero_add, List.nil_append]
                refine wpAnyH_take (i := 13) (v := .pointer (some ⟨b, 9, none⟩)) rfl (by kernel_rfl) (by kernel_rfl) (by kernel_rfl) (fun _ _ _ h => h) (Or.inl ⟨by rfl, fun w' hw' => by go_simp⟩) sx ?_
                try simp only [Act.put, List.getElem_toArray, List.getElem_cons_succ, List.getElem_cons_zero, List.setIfInBounds_toArray, List.set_cons_zero, List.set_cons_succ, Nat.zero_add, List.nil_append]
                refine wpAnyH_ready (rs := [14]) (by kernel_rfl) (by simp) ?_
                refine AllReadyH.cons rfl (fun K hK => ?_) AllReadyH.nil
                rw [if_pos (by rfl)]
                go_simp
                have s5 := sx.set ⟨b, 9, none⟩ (.slice (some ⟨ga, 0, none⟩) (c2.vs.length + 1) ca) (by intro p hp; simp only [List.mem_cons, List.not_mem_nil, or_false] at hp; subst hp; intro e; simp only [Addr.mk.injEq] at e; exact hbi1 (by first | exact e.1 | exact e.1.symm))
                refine hK.out _ _ s5 (fun _ => ?_)
                clear hK K
                try simp only [Act.put, List.getElem_toArray, List.getElem_cons_succ, List.getElem_cons_zero, List.setIfInBounds_toArray, List.set_cons_zero, List.set_cons_succ, Nat.zero_add, List.nil_append]
                refine wpAnyH_done (by kernel_rfl) ?_ _
                clear s0 sx s5 z0 z1 y0
                generalize w4.setCell ⟨b, 9, none⟩ (.slice (some ⟨ga, 0, none⟩) (c2.vs.length + 1) ca) = w9 at *
                go_wp2_with fail
                go_ret
                have e := HV2.out.symm.trans HV.out
                rw [HC1.out, HC2.out, show endD ⟨tx, m0, m1, m2, ⟨bk, ver, true, es, i0, i1, i2, i3⟩⟩ c2 = {c2 with vs := c2.vs ++ [⟨tx, 2⟩]} from by unfold endD; rw [if_pos ⟨by show votedP c2.vs tx = 0; rw [HVO.out]; exact HV0.out, by have := HFU.out; omega⟩]] at e
                cases e
                have tr := T7.out.trans (Trn.of_below b s2 BDD.out)
                exact ⟨rfl, _, H0.out.turn PU.out.1 (tr.trans PU.out.2), tr.trans PU.out.2⟩
          · have hv1 : (vo == 0) = false := by simpa using hv0
            have HV0 := Lib.hid hv0
            clear hv0
            go_wp2_with fail
            go_ret
            have e := HV2.out.symm.trans HV.out
            rw [HC1.out, HC2.out, show endD ⟨tx, m0, m1, m2, ⟨bk, ver, true, es, i0, i1, i2, i3⟩⟩ c2 = c2 from by unfold endD; rw [if_neg (fun h => by have h1 : votedP c2.vs tx = 0 := h.1; rw [HVO.out] at h1; exact HV0.out h1)]] at e
            cases e
            exact ⟨rfl, _, H0.out.turn H7.out T7.out, T7.out⟩
end
end Go.Proofs.Ytbjcmomicjdepaa
