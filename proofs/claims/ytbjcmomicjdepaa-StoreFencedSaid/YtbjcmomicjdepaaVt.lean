/- Vote. -/
import Derived.Test.YtbjcmomicjdepaaSt
namespace Go.Proofs.Ytbjcmomicjdepaa
open Go.RowKit Go.Sort
set_option linter.unusedVariables false
set_option linter.unusedSimpArgs false
set_option linter.unusedSectionVars false
set_option maxRecDepth 100000
/-- the incarnation of a replica that was read -/
def It.inc (i : It) (r : Int) : Int := if r = 0 then i.i0 else if r = 1 then i.i1 else if r = 2 then i.i2 else i.i3
/-- what Vote answers, and what becomes of the copy -/
def voteR (rep : Int) (c : Cp) (l : Lk) : Int × Int × Cp :=
  if lockB l = false then (0, 155, c) else
  if l.it.inc rep ≠ c.inc then (0, 153, c) else
  if votedP c.vs l.tx ≠ 0 then (votedP c.vs l.tx, 0, c) else
  if 64 ≤ c.vs.length then (0, 154, c) else
  if mayP rep c l = true then (1, 0, {c with ls := c.ls ++ [l], vs := c.vs ++ [⟨l.tx, 1⟩]})
  else (2, 0, {c with vs := c.vs ++ [⟨l.tx, 2⟩]})
/-- what a call of Vote ends in -/
def VtEnd (w : World) (B sb gm b : Nat) (nm : Nm) (s : Cs) (v e : Int) (c1 : Cp) (r : Ending) (w' : World) : Prop :=
  r = .returned (.tuple #[.int .i64 v, .int .i64 e]) ∧ ∃ s1, StR w' B sb gm b nm c1 s1 ∧ Trn b s s1 w w'
section
variable {w : World} {o : Oper} {a : Act} {K : Act → World → Prop} {Q : Exit → Act → World → Prop}
theorem wp_buildL (x : Operand) (ho : o.op = .buildSlice 40 1 #[(0, x)]) {l : Lk} {s : Sd} (hx : a.eval x = l.ag s) (h : ∀ w', w' = w.alloc (.cells (l.cells s) 38) → K (a.put o.dst (.slice (some ⟨w.heap.size, 0, none⟩) 1 1)) w') : o.wp Try.prog a w K Q := by
  have hrun : (execOp a.eval o).run Try.prog w = .ok (.value (.slice (some ⟨w.heap.size, 0, none⟩) 1 1)) (w.alloc (.cells (l.cells s) 38)) := by
    unfold execOp
    simp only [ho, List.map_toArray, List.map_cons, List.map_nil, hx]
    kernel_rfl
  unfold Oper.wp
  simp only [hrun, Oper.upon]
  exact h _ rfl
end
section
variable {B sb gm b : Nat} {nm : Nm} {c : Cp} {s : Cs} {t : Sd} {l : Lk}
theorem it_cell {w : World} {bx : Nat} (h : LkB w bx l t) (q : Nat) (hq : q < 4) : w.cell? ⟨bx, 8 + q, none⟩ = some (.int .u32 (l.it.inc (q : Int))) := by
  have : q = 0 ∨ q = 1 ∨ q = 2 ∨ q = 3 := by omega
  rcases this with rfl | rfl | rfl | rfl
  · exact h.c 8 _ rfl
  · exact h.c 9 _ rfl
  · exact h.c 10 _ rfl
  · exact h.c 11 _ rfl
theorem may_few {rep : Int} (h : mayP rep c l = true) : c.ls.length < 16 := by
  unfold mayP at h
  simp only [Bool.and_eq_true, Bool.not_eq_true', decide_eq_false_iff_not] at h
  omega
theorem bx_apart {w : World} {bi : Nat} {rep : Int} (hb : w.heap.size = bi) (h : RowR w B b rep c s) : bi ≠ b ∧ bi ∉ blk s.v.ao ++ blk s.l.ao := by
  subst hb
  refine ⟨fun e => ?_, fun e => ?_⟩
  · have := h.blt; omega
  · rw [List.mem_append] at e
    rcases e with e | e
    · have := (owns_blk h.v _ e).2; omega
    · have := (owns_blk h.l _ e).2; omega
theorem news_row {w : World} {pb : Nat} {cs : List Value} {ty : TypeId} (h : w.heap[pb]? = some (.cells ⟨cs⟩ ty (0, 0))) : ∀ (j : Nat) (u : Value), cs[j]? = some u → w.cell? ((⟨pb, 0, none⟩ : Addr).add j) = some u := fun j u hu => by
  rw [Addr.add_mid, Nat.zero_add, cell_of_row w pb j _ _ (0, 0) h]
  simpa using hu
theorem Holds.keep {w w' : World} {L : List (Addr × Value)} {U : List Nat} (h : Holds w L) (k : Keep U w w') (hn : ∀ p ∈ L, p.1.block ∉ U) : Holds w' L := fun p hp => by
  obtain ⟨h1, h2⟩ := h p hp
  exact ⟨(k.cell h2 (hn p hp)).trans h1, Nat.lt_of_lt_of_le h2 k.size⟩
theorem Holds.set {w : World} {L : List (Addr × Value)} (h : Holds w L) (a : Addr) (v : Value) (hn : ∀ p ∈ L, p.1 ≠ a) : Holds (w.setCell a v) L := fun p hp => by
  obtain ⟨h1, h2⟩ := h p hp
  exact ⟨(World.cell?_setCell_other _ _ _ _ (Ne.symm (hn p hp))).trans h1, by simpa [World.setCell] using h2⟩
theorem VtEnd.of_below {w w' : World} (h : StR w B sb gm b nm c s) (k : Below w.heap.size w w') (v e : Int) : VtEnd w B sb gm b nm s v e c (.returned (.tuple #[.int .i64 v, .int .i64 e])) w' :=
  ⟨rfl, s, h.below k, Trn.of_below b s k⟩
set_option maxHeartbeats 16000000 in
theorem vote_any (w : World) (h : StR w B sb gm b nm c s) (hs : c.state = 2) (he : EsR w t l.it.es) (hb : l.it.bucket = nm.b) : Calls Try.prog 19 #[.pointer (some ⟨sb, 0, none⟩), .int .i64 nm.r, l.ag t] w
    (VtEnd w B sb gm b nm s (voteR nm.r c l).1 (voteR nm.r c l).2.1 (voteR nm.r c l).2.2) := by
  obtain ⟨W, hW⟩ : ∃ W, W = w.alloc (.cells (l.cells t) 38) := ⟨_, rfl⟩
  have bW : Below w.heap.size w W := by rw [hW]; exact below_alloc (Below.refl _ _) _
  have k1 : LkB W w.heap.size l t := by rw [hW]; exact LkB.new w l t
  have C := Lib.hid (for_any (l := l) W (h.below bW) hs (he.below bW) hb)
  have H0 := Lib.hid h
  have HE := Lib.hid (he.below bW)
  have BW := Lib.hid bW
  have K1 := Lib.hid k1
  have RG := Lib.hid k1.range
  obtain ⟨q, hq, hq4⟩ : ∃ q : Nat, nm.r = (q : Int) ∧ q < 4 := ⟨nm.r.toNat, by have := h.ok; omega, by have := h.ok; omega⟩
  have HQ := Lib.hid hq
  obtain ⟨v0, e0, c0, hv⟩ : ∃ v0 e0 c0, voteR nm.r c l = (v0, e0, c0) := ⟨_, _, _, rfl⟩
  rw [hv]
  rw [hq] at hv C ⊢
  have HV := Lib.hid hv
  have HFIT := Lib.hid (show lockB l = true → Fit l.it.es from fun e => fit_lock e)
  obtain ⟨lb, hlb⟩ : ∃ lb, lockB l = lb := ⟨_, rfl⟩
  have HLB := Lib.hid hlb
  rw [hlb] at C
  clear h hs he hb bW k1 hv hlb hq
  obtain ⟨tx, m0, m1, m2, ⟨bk, ver, wt, es, i0, i1, i2, i3⟩⟩ := l
  simp only [Lk.ag, Lk.cells] at hW C ⊢
  have hq0 : (0 : Int) ≤ (q : Int) := by omega
  have hq4i : (q : Int) < 4 := by omega
  go_enter Try.func19, Try.ntmps19
  go_upto_region 1 with (fail)
  rw [← hW]
  clear hW
  generalize hbi : w.heap.size = bi at K1 RG ⊢
  go_wp2_with (refine wpList_load_mid rfl 38 (.tmp 5) rfl bi 0 rfl (Lk.list ⟨tx, m0, m1, m2, ⟨bk, ver, wt, es, i0, i1, i2, i3⟩⟩ t) _ RG.out Try.underlying38 rfl (lk_size _ _) ?_)
  refine C.out.mono ?_; rintro e w1 ⟨rfl, b1⟩
  have K2 := Lib.hid (K1.out.below b1)
  have B1 := Lib.hid (below_next BW.out b1)
  have E1 := Lib.hid (HE.out.below b1)
  clear b1 K1 RG BW HE C
  cases lb with
  | false =>
    go_wp2_with fail
    go_ret2
    have e := HV.out
    unfold voteR at e
    rw [if_pos HLB.out] at e
    cases e
    exact VtEnd.of_below H0.out (by first | exact B1.out | (rw [hbi]; exact B1.out) | (rw [← hbi]; exact B1.out)) _ _
  | true =>
    have F0 := Lib.hid (HFIT.out HLB.out)
    have H1 := Lib.hid (H0.out.below (w' := w1) (by first | exact B1.out | (rw [hbi]; exact B1.out) | (rw [← hbi]; exact B1.out)))
    have xi := it_cell K2.out q hq4
    have y1 := H1.out.row.at_ 1 _ rfl
    obtain ⟨ic, hic⟩ : ∃ ic, (⟨bk, ver, wt, es, i0, i1, i2, i3⟩ : It).inc (q : Int) = ic := ⟨_, rfl⟩
    rw [hic] at xi
    have HIC := Lib.hid hic
    clear hic
    obtain ⟨ci, hci⟩ : ∃ ci, c.inc = ci := ⟨_, rfl⟩
    rw [hci] at y1
    have HCI := Lib.hid hci
    clear hci
    go_upto_region 4 with (fail)
    by_cases hne : ic = ci
    · have hne2 : (ic != ci) = false := by simp [hne]
      have HNE := Lib.hid hne
      clear hne
      go_quiet (fail)
      clear xi y1 hne2
      have bq := below_drewN w1 nq
      have K3 := Lib.hid (K2.out.below bq)
      have H3 := Lib.hid (H1.out.below bq)
      have E3 := Lib.hid (E1.out.below bq)
      have B3 := Lib.hid (below_next (show Below w.heap.size w w1 from (by first | exact B1.out | (rw [hbi]; exact B1.out) | (rw [← hbi]; exact B1.out))) bq)
      clear bq K2 H1 E1 B1
      generalize w1.drewN nq = w2 at *
      have C6 := Lib.hid (voted_any w2 H3.out.row tx)
      have x0 := K3.out.c 0 _ rfl
      go_wp2_with fail
      refine C6.out.mono ?_; rintro e w3 ⟨rfl, b4⟩
      clear x0 C6
      have K4 := Lib.hid (K3.out.below b4)
      have H4 := Lib.hid (H3.out.below b4)
      have E4 := Lib.hid (E3.out.below b4)
      have B4 := Lib.hid (below_next B3.out b4)
      clear b4 K3 H3 E3 B3
      obtain ⟨vo, hvo⟩ : ∃ vo, votedP c.vs tx = vo := ⟨_, rfl⟩
      rw [hvo]
      have HVO := Lib.hid hvo
      clear hvo
      by_cases hv0 : vo = 0
      · have hv1 : (vo != 0) = false := by simp [hv0]
        have HV0 := Lib.hid hv0
        clear hv0
        have C9 := Lib.hid (full_any w3 H4.out.row)
        go_wp2_with fail
        refine C9.out.mono ?_; rintro e w4 ⟨rfl, rfl⟩
        clear C9
        by_cases hfu : 64 ≤ c.vs.length
        · have hfu2 : decide (64 ≤ c.vs.length) = true := by simpa using hfu
          have HFU := Lib.hid hfu
          rw [hfu2]
          clear hfu hfu2
          go_wp2_with fail
          go_ret2
          have e := HV.out
          unfold voteR at e
          rw [if_neg (by rw [HLB.out]; decide), if_neg (by rw [HCI.out]; exact fun h => h (HIC.out.trans HNE.out)), if_neg (by simp only; rw [HVO.out]; exact fun h => h HV0.out), if_pos HFU.out] at e
          cases e
          exact VtEnd.of_below H0.out B4.out _ _
        · have hfu2 : decide (64 ≤ c.vs.length) = false := by simpa using hfu
          have HFU := Lib.hid hfu
          rw [hfu2]
          clear hfu hfu2
          have C12 := Lib.hid (may_any (l := ⟨tx, m0, m1, m2, ⟨bk, ver, wt, es, i0, i1, i2, i3⟩⟩) (t := t) w3 H4.out.row)
          have RG4 := Lib.hid K4.out.range
          rw [show nm.r = (q : Int) from HQ.out] at C12
          obtain ⟨mp, hmp⟩ : ∃ mp, mayP (q : Int) c ⟨tx, m0, m1, m2, ⟨bk, ver, wt, es, i0, i1, i2, i3⟩⟩ = mp := ⟨_, rfl⟩
          rw [hmp] at C12
          have HMP := Lib.hid hmp
          clear hmp
          simp only [Lk.ag] at C12
          cases mp with
          | false =>
            go_wp2_with (refine wpList_load_mid rfl 38 (.tmp 5) rfl bi 0 rfl (Lk.list ⟨tx, m0, m1, m2, ⟨bk, ver, wt, es, i0, i1, i2, i3⟩⟩ t) _ RG4.out Try.underlying38 rfl (lk_size _ _) ?_)
            refine C12.out.mono ?_; rintro e w5 ⟨rfl, b5⟩
            have H5 := Lib.hid (H4.out.row.below b5)
            have K5 := Lib.hid (K4.out.below b5)
            have B5 := Lib.hid (below_next B4.out b5)
            clear b5 C12 RG4
            obtain ⟨c1, hc1⟩ : ∃ c1, c = c1 := ⟨_, rfl⟩
            obtain ⟨s1, hs1⟩ : ∃ s1, s = s1 := ⟨_, rfl⟩
            have HC1 := Lib.hid hc1; have HS1 := Lib.hid hs1
            have HBB := Lib.hid (bx_apart hbi H0.out.row)
            have HFEW := Lib.hid (show c.vs.length < 1099511627775 by have := HFU.out; omega)
            rw [hc1, hs1] at H5; rw [hs1] at HBB; rw [hc1] at HFEW
            clear hc1 hs1
            go_upto_region 15 with (fail)
            obtain ⟨j0, hj0, hjz0, hjz1, hjz2⟩ := info_parts vd_info
            have HI := Lib.hid hj0; have HZ0 := Lib.hid hjz0; have HZ1 := Lib.hid hjz1; have HZ2 := Lib.hid hjz2
            clear hj0 hjz0 hjz1 hjz2
            have hl0 : Holds w5 [(⟨bi, 0, none⟩, .int .u64 tx)] := .cons (K5.out.c 0 _ rfl) K5.out.lt (.nil _)
            refine wp_region_held_drew (S := fun w' => Holds w' [(⟨bi, 0, none⟩, .int .u64 tx)]) (by kernel_rfl) hl0.drew (fun s0 => ?_)
            have bd := (Below.refl w5.heap.size w5).drew
            have HD := Lib.hid (H5.out.below bd)
            have BDD := Lib.hid bd
            have HXD := Lib.hid (K5.out.below bd)
            clear bd hl0
            generalize w5.drew = wd at *
            have y0 := HD.out.at_ 9 _ rfl
            have hblt := Lib.hid HD.out.blt
            have hfev := Lib.hid HD.out.fev
            refine wpAnyH_take (i := 0) (v := .pointer (some ⟨b, 0, none⟩)) rfl (by kernel_rfl) (by kernel_rfl) (by kernel_rfl) (fun _ _ _ h => h) (Or.inl ⟨by rfl, fun w' hw' => by go_simp⟩) s0 ?_
            try simp only [Act.put, List.getElem_toArray, List.getElem_cons_succ, List.getElem_cons_zero, List.setIfInBounds_toArray, List.set_cons_zero, List.set_cons_succ, Nat.zero_add, List.nil_append]
            refine wpAnyH_take (i := 1) (v := .pointer (some ⟨b, 0, none⟩)) rfl (by kernel_rfl) (by kernel_rfl) (by kernel_rfl) (fun _ _ _ h => h) (Or.inl ⟨by rfl, fun w' hw' => by go_simp⟩) s0 ?_
            try simp only [Act.put, List.getElem_toArray, List.getElem_cons_succ, List.getElem_cons_zero, List.setIfInBounds_toArray, List.set_cons_zero, List.set_cons_succ, Nat.zero_add, List.nil_append]
            refine wpAnyH_take (i := 2) (v := .pointer (some ⟨b, 0, none⟩)) rfl (by kernel_rfl) (by kernel_rfl) (by kernel_rfl) (fun _ _ _ h => h) (Or.inl ⟨by rfl, fun w' hw' => by go_simp⟩) s0 ?_
            try simp only [Act.put, List.getElem_toArray, List.getElem_cons_succ, List.getElem_cons_zero, List.setIfInBounds_toArray, List.set_cons_zero, List.set_cons_succ, Nat.zero_add, List.nil_append]
            refine wpAnyH_take (i := 3) (v := .pointer (some ⟨b, 0, none⟩)) rfl (by kernel_rfl) (by kernel_rfl) (by kernel_rfl) (fun _ _ _ h => h) (Or.inl ⟨by rfl, fun w' hw' => by go_simp⟩) s0 ?_
            try simp only [Act.put, List.getElem_toArray, List.getElem_cons_succ, List.getElem_cons_zero, List.setIfInBounds_toArray, List.set_cons_zero, List.set_cons_succ, Nat.zero_add, List.nil_append]
            refine wpAnyH_take (i := 4) (v := .pointer (some ⟨b, 9, none⟩)) rfl (by kernel_rfl) (by kernel_rfl) (by kernel_rfl) (fun _ _ _ h => h) (Or.inl ⟨by rfl, fun w' hw' => by go_simp⟩) s0 ?_
            try simp only [Act.put, List.getElem_toArray, List.getElem_cons_succ, List.getElem_cons_zero, List.setIfInBounds_toArray, List.set_cons_zero, List.set_cons_succ, Nat.zero_add, List.nil_append]
            refine wpAnyH_take (i := 6) (v := .pointer (some ⟨bi, 0, none⟩)) rfl (by kernel_rfl) (by kernel_rfl) (by kernel_rfl) (fun _ _ _ h => h) (Or.inl ⟨by rfl, fun w' hw' => by go_simp⟩) s0 ?_
            try simp only [Act.put, List.getElem_toArray, List.getElem_cons_succ, List.getElem_cons_zero, List.setIfInBounds_toArray, List.set_cons_zero, List.set_cons_succ, Nat.zero_add, List.nil_append]
            refine wpAnyH_take (i := 7) (v := .int .u64 tx) rfl (by kernel_rfl) (by kernel_rfl) (by kernel_rfl) (fun _ _ _ h => h) (Or.inl ⟨by rfl, fun w' hw' => by have q0 := hw'.head; go_simp⟩) s0 ?_
            try simp only [Act.put, List.getElem_toArray, List.getElem_cons_succ, List.getElem_cons_zero, List.setIfInBounds_toArray, List.set_cons_zero, List.set_cons_succ, Nat.zero_add, List.nil_append]
            refine wpAnyH_take (i := 8) (v := .int .i64 2) rfl (by kernel_rfl) (by kernel_rfl) (by kernel_rfl) (fun _ _ _ h => h) (Or.inl ⟨by rfl, fun w' hw' => by go_simp⟩) s0 ?_
            try simp only [Act.put, List.getElem_toArray, List.getElem_cons_succ, List.getElem_cons_zero, List.setIfInBounds_toArray, List.set_cons_zero, List.set_cons_succ, Nat.zero_add, List.nil_append]
            refine wpAnyH_take (i := 9) (v := .agg #[.int .u64 tx, .int .i64 2]) rfl (by kernel_rfl) (by kernel_rfl) (by kernel_rfl) (fun _ _ _ h => h) (Or.inl ⟨by rfl, fun w' hw' => by go_simp⟩) s0 ?_
            try simp only [Act.put, List.getElem_toArray, List.getElem_cons_succ, List.getElem_cons_zero, List.setIfInBounds_toArray, List.set_cons_zero, List.set_cons_succ, Nat.zero_add, List.nil_append]
            refine wpAnyH_ready (rs := [5, 10]) (by kernel_rfl) (by simp) ?_
            refine AllReadyH.cons rfl (fun K hK => ?_) (AllReadyH.cons rfl (fun K hK => ?_) AllReadyH.nil)
            · skip
              rw [if_pos (by rfl)]
              go_simp
              refine hK.out _ _ s0 (fun _ => ?_)
              clear hK K
              try simp only [Act.put, List.getElem_toArray, List.getElem_cons_succ, List.getElem_cons_zero, List.setIfInBounds_toArray, List.set_cons_zero, List.set_cons_succ, Nat.zero_add, List.nil_append]
              refine wpAnyH_ready (rs := [10]) (by kernel_rfl) (by simp) ?_
              refine AllReadyH.cons rfl (fun K hK => ?_) AllReadyH.nil
              rw [if_pos (by rfl)]
              go_simp
              have b3 : Below wd.heap.size wd (wd.alloc (.cells #[.int .u64 tx, .int .i64 2] 51)) := below_alloc (Below.refl _ _) _
              have r3 := heap_alloc_new wd (.cells #[.int .u64 tx, .int .i64 2] 51)
              have y1 := (b3.cell (p := ⟨b, 9, none⟩) hblt.out).trans y0
              have s3 := s0.below b3
              obtain ⟨pb, hpb⟩ : ∃ q, q = wd.heap.size := ⟨_, rfl⟩
              rw [← hpb] at r3 ⊢
              have HPB := Lib.hid hpb
              generalize wd.alloc (.cells #[.int .u64 tx, .int .i64 2] 51) = w3 at *
              have B3 := Lib.hid b3
              have R3 := Lib.hid r3
              clear b3 r3 hpb
              refine hK.out _ _ s3 (fun _ => ?_)
              clear hK K
              try simp only [Act.put, List.getElem_toArray, List.getElem_cons_succ, List.getElem_cons_zero, List.setIfInBounds_toArray, List.set_cons_zero, List.set_cons_succ, Nat.zero_add, List.nil_append]
              refine wpAnyH_ready (rs := [11]) (by kernel_rfl) (by simp) ?_
              refine AllReadyH.cons rfl (fun K hK => ?_) AllReadyH.nil
              rw [if_pos (by rfl)]
              have hown : w3.ownsRow B 51 2 (.slice s1.v.ao c1.vs.length s1.v.cap) c1.vs.length (fl Vd.list c1.vs) := owns_keep HD.out.v (Keep.of_below B3.out []) (by simp)
              have hBv : B ≤ w3.heap.size := by have := HD.out.bs b (by simp [Cs.mut]); have := hblt.out; have := B3.out.size; omega
              have hnd := HD.out.nd
              refine wp_append_lies _ (.tmp 63) (.tmp 68) 34 rfl B 51 j0 _ 2 16 Try.underlying34 HI.out HZ0.out HZ1.out HZ2.out rfl (by decide) (.slice s1.v.ao c1.vs.length s1.v.cap) c1.vs.length (fl Vd.list c1.vs) rfl hown ⟨pb, 0, none⟩ 1 1 (Vd.list ⟨tx, 2⟩) rfl rfl (news_row R3.out) (vd_one _) (by decide) (by have := hfev.out; unfold maxLen; omega) (by have := hfev.out; omega) hBv _ rfl ?_
              intro ga ca w4 own4 gr4 at4 lt4
              have kg := keep_grown gr4
              have hbv : b ∉ blk s1.v.ao := fun e => (List.nodup_cons.1 hnd).1 (by simp [e])
              have z0 := (kg.cell (a := ⟨b, 9, none⟩) (Nat.lt_of_lt_of_le hblt.out B3.out.size) hbv).trans y1
              have z1 := (kg.frozen (a := ⟨b, 9, none⟩) (Nat.lt_of_lt_of_le hblt.out B3.out.size) hbv).trans ((HD.out.below B3.out).fr 9)
              have hbi1 : bi ≠ b := HBB.out.1
              have hbi2 : bi ∉ blk s1.v.ao := fun e => HBB.out.2 (by simp [e])
              have sx := s3.keep kg (by intro p hp; simp only [List.mem_cons, List.not_mem_nil, or_false] at hp; subst hp; exact hbi2)
              have PU := Lib.hid (HD.out.pushV ⟨tx, 2⟩ (HFEW.out) B3.out own4 gr4 at4)
              clear own4 gr4 at4 lt4 kg hown hBv hnd y1 hbv hbi2
              refine hK.out _ _ sx (fun _ => ?_)
              clear hK K
              try simp only [Act.put, List.getElem_toArray, List.getElem_cons_succ, List.getElem_cons_zero, List.setIfInBounds_toArray, List.set_cons_zero, List.set_cons_succ, Nat.zero_add, List.nil_append]
              refine wpAnyH_take (i := 12) (v := .pointer (some ⟨b, 0, none⟩)) rfl (by kernel_rfl) (by kernel_rfl) (by kernel_rfl) (fun _ _ _ h => h) (Or.inl ⟨by rfl, fun w' hw' => by go_simp⟩) sx ?_
              try simp only [Act.put, List.getElem_toArray, List.getElem_cons_succ, List.getElem_cons_zero, List.setIfInBounds_toArray, List.set_cons_zero, List.set_cons_succ, Nat.zero_add, List.nil_append]
              refine wpAnyH_take (i := 13) (v := .pointer (some ⟨b, 0, none⟩)) rfl (by kernel_rfl) (by kernel_rfl) (by kernel_rfl) (fun _ _ _ h => h) (Or.inl ⟨by rfl, fun w' hw' => by go_simp⟩) sx ?_
              try simp only [Act.put, List.getElem_toArray, List.getElem_cons_succ, List.getElem_cons_zero, List.setIfInBounds_toArray, List.set_cons_zero, List.set_cons_succ, Nat.zero_add, List.nil_append]
              refine wpAnyH_take (i := 14) (v := .pointer (some ⟨b, 9, none⟩)) rfl (by kernel_rfl) (by kernel_rfl) (by kernel_rfl) (fun _ _ _ h => h) (Or.inl ⟨by rfl, fun w' hw' => by go_simp⟩) sx ?_
              try simp only [Act.put, List.getElem_toArray, List.getElem_cons_succ, List.getElem_cons_zero, List.setIfInBounds_toArray, List.set_cons_zero, List.set_cons_succ, Nat.zero_add, List.nil_append]
              refine wpAnyH_ready (rs := [15]) (by kernel_rfl) (by simp) ?_
              refine AllReadyH.cons rfl (fun K hK => ?_) AllReadyH.nil
              rw [if_pos (by rfl)]
              go_simp
              have s5 := sx.set ⟨b, 9, none⟩ (.slice (some ⟨ga, 0, none⟩) (c1.vs.length + 1) ca) (by intro p hp; simp only [List.mem_cons, List.not_mem_nil, or_false] at hp; subst hp; intro e; simp only [Addr.mk.injEq] at e; exact hbi1 (by first | exact e.1 | exact e.1.symm))
              refine hK.out _ _ s5 (fun _ => ?_)
              clear hK K
              try simp only [Act.put, List.getElem_toArray, List.getElem_cons_succ, List.getElem_cons_zero, List.setIfInBounds_toArray, List.set_cons_zero, List.set_cons_succ, Nat.zero_add, List.nil_append]
              refine wpAnyH_done (by kernel_rfl) ?_ _
              clear s0 sx s5 z0 z1 y0
              generalize w4.setCell ⟨b, 9, none⟩ (.slice (some ⟨ga, 0, none⟩) (c1.vs.length + 1) ca) = w9 at *
              go_wp2_with fail
              go_ret2
              have e := HV.out
              unfold voteR at e
              rw [if_neg (by rw [HLB.out]; decide), if_neg (by rw [HCI.out]; exact fun h => h (HIC.out.trans HNE.out)), if_neg (by simp only; rw [HVO.out]; exact fun h => h HV0.out), if_neg HFU.out, if_neg (by rw [HMP.out]; decide)] at e
              cases e
              have e1 := HC1.out; have e2 := HS1.out
              subst e1; subst e2
              have tr : Trn b s s w wd := Trn.of_below b s (below_next B5.out BDD.out)
              exact ⟨rfl, _, H0.out.turn PU.out.1 (tr.trans PU.out.2), tr.trans PU.out.2⟩
            · skip
              rw [if_pos (by rfl)]
              go_simp
              have b3 : Below wd.heap.size wd (wd.alloc (.cells #[.int .u64 tx, .int .i64 2] 51)) := below_alloc (Below.refl _ _) _
              have r3 := heap_alloc_new wd (.cells #[.int .u64 tx, .int .i64 2] 51)
              have y1 := (b3.cell (p := ⟨b, 9, none⟩) hblt.out).trans y0
              have s3 := s0.below b3
              obtain ⟨pb, hpb⟩ : ∃ q, q = wd.heap.size := ⟨_, rfl⟩
              rw [← hpb] at r3 ⊢
              have HPB := Lib.hid hpb
              generalize wd.alloc (.cells #[.int .u64 tx, .int .i64 2] 51) = w3 at *
              have B3 := Lib.hid b3
              have R3 := Lib.hid r3
              clear b3 r3 hpb
              refine hK.out _ _ s3 (fun _ => ?_)
              clear hK K
              try simp only [Act.put, List.getElem_toArray, List.getElem_cons_succ, List.getElem_cons_zero, List.setIfInBounds_toArray, List.set_cons_zero, List.set_cons_succ, Nat.zero_add, List.nil_append]
              refine wpAnyH_ready (rs := [5]) (by kernel_rfl) (by simp) ?_
              refine AllReadyH.cons rfl (fun K hK => ?_) AllReadyH.nil
              rw [if_pos (by rfl)]
              go_simp
              refine hK.out _ _ s3 (fun _ => ?_)
              clear hK K
              try simp only [Act.put, List.getElem_toArray, List.getElem_cons_succ, List.getElem_cons_zero, List.setIfInBounds_toArray, List.set_cons_zero, List.set_cons_succ, Nat.zero_add, List.nil_append]
              refine wpAnyH_ready (rs := [11]) (by kernel_rfl) (by simp) ?_
              refine AllReadyH.cons rfl (fun K hK => ?_) AllReadyH.nil
              rw [if_pos (by rfl)]
              have hown : w3.ownsRow B 51 2 (.slice s1.v.ao c1.vs.length s1.v.cap) c1.vs.length (fl Vd.list c1.vs) := owns_keep HD.out.v (Keep.of_below B3.out []) (by simp)
              have hBv : B ≤ w3.heap.size := by have := HD.out.bs b (by simp [Cs.mut]); have := hblt.out; have := B3.out.size; omega
              have hnd := HD.out.nd
              refine wp_append_lies _ (.tmp 63) (.tmp 68) 34 rfl B 51 j0 _ 2 16 Try.underlying34 HI.out HZ0.out HZ1.out HZ2.out rfl (by decide) (.slice s1.v.ao c1.vs.length s1.v.cap) c1.vs.length (fl Vd.list c1.vs) rfl hown ⟨pb, 0, none⟩ 1 1 (Vd.list ⟨tx, 2⟩) rfl rfl (news_row R3.out) (vd_one _) (by decide) (by have := hfev.out; unfold maxLen; omega) (by have := hfev.out; omega) hBv _ rfl ?_
              intro ga ca w4 own4 gr4 at4 lt4
              have kg := keep_grown gr4
              have hbv : b ∉ blk s1.v.ao := fun e => (List.nodup_cons.1 hnd).1 (by simp [e])
              have z0 := (kg.cell (a := ⟨b, 9, none⟩) (Nat.lt_of_lt_of_le hblt.out B3.out.size) hbv).trans y1
              have z1 := (kg.frozen (a := ⟨b, 9, none⟩) (Nat.lt_of_lt_of_le hblt.out B3.out.size) hbv).trans ((HD.out.below B3.out).fr 9)
              have hbi1 : bi ≠ b := HBB.out.1
              have hbi2 : bi ∉ blk s1.v.ao := fun e => HBB.out.2 (by simp [e])
              have sx := s3.keep kg (by intro p hp; simp only [List.mem_cons, List.not_mem_nil, or_false] at hp; subst hp; exact hbi2)
              have PU := Lib.hid (HD.out.pushV ⟨tx, 2⟩ (HFEW.out) B3.out own4 gr4 at4)
              clear own4 gr4 at4 lt4 kg hown hBv hnd y1 hbv hbi2
              refine hK.out _ _ sx (fun _ => ?_)
              clear hK K
              try simp only [Act.put, List.getElem_toArray, List.getElem_cons_succ, List.getElem_cons_zero, List.setIfInBounds_toArray, List.set_cons_zero, List.set_cons_succ, Nat.zero_add, List.nil_append]
              refine wpAnyH_take (i := 12) (v := .pointer (some ⟨b, 0, none⟩)) rfl (by kernel_rfl) (by kernel_rfl) (by kernel_rfl) (fun _ _ _ h => h) (Or.inl ⟨by rfl, fun w' hw' => by go_simp⟩) sx ?_
              try simp only [Act.put, List.getElem_toArray, List.getElem_cons_succ, List.getElem_cons_zero, List.setIfInBounds_toArray, List.set_cons_zero, List.set_cons_succ, Nat.zero_add, List.nil_append]
              refine wpAnyH_take (i := 13) (v := .pointer (some ⟨b, 0, none⟩)) rfl (by kernel_rfl) (by kernel_rfl) (by kernel_rfl) (fun _ _ _ h => h) (Or.inl ⟨by rfl, fun w' hw' => by go_simp⟩) sx ?_
              try simp only [Act.put, List.getElem_toArray, List.getElem_cons_succ, List.getElem_cons_zero, List.setIfInBounds_toArray, List.set_cons_zero, List.set_cons_succ, Nat.zero_add, List.nil_append]
              refine wpAnyH_take (i := 14) (v := .pointer (some ⟨b, 9, none⟩)) rfl (by kernel_rfl) (by kernel_rfl) (by kernel_rfl) (fun _ _ _ h => h) (Or.inl ⟨by rfl, fun w' hw' => by go_simp⟩) sx ?_
              try simp only [Act.put, List.getElem_toArray, List.getElem_cons_succ, List.getElem_cons_zero, List.setIfInBounds_toArray, List.set_cons_zero, List.set_cons_succ, Nat.zero_add, List.nil_append]
              refine wpAnyH_ready (rs := [15]) (by kernel_rfl) (by simp) ?_
              refine AllReadyH.cons rfl (fun K hK => ?_) AllReadyH.nil
              rw [if_pos (by rfl)]
              go_simp
              have s5 := sx.set ⟨b, 9, none⟩ (.slice (some ⟨ga, 0, none⟩) (c1.vs.length + 1) ca) (by intro p hp; simp only [List.mem_cons, List.not_mem_nil, or_false] at hp; subst hp; intro e; simp only [Addr.mk.injEq] at e; exact hbi1 (by first | exact e.1 | exact e.1.symm))
              refine hK.out _ _ s5 (fun _ => ?_)
              clear hK K
              try simp only [Act.put, List.getElem_toArray, List.getElem_cons_succ, List.getElem_cons_zero, List.setIfInBounds_toArray, List.set_cons_zero, List.set_cons_succ, Nat.zero_add, List.nil_append]
              refine wpAnyH_done (by kernel_rfl) ?_ _
              clear s0 sx s5 z0 z1 y0
              generalize w4.setCell ⟨b, 9, none⟩ (.slice (some ⟨ga, 0, none⟩) (c1.vs.length + 1) ca) = w9 at *
              go_wp2_with fail
              go_ret2
              have e := HV.out
              unfold voteR at e
              rw [if_neg (by rw [HLB.out]; decide), if_neg (by rw [HCI.out]; exact fun h => h (HIC.out.trans HNE.out)), if_neg (by simp only; rw [HVO.out]; exact fun h => h HV0.out), if_neg HFU.out, if_neg (by rw [HMP.out]; decide)] at e
              cases e
              have e1 := HC1.out; have e2 := HS1.out
              subst e1; subst e2
              have tr : Trn b s s w wd := Trn.of_below b s (below_next B5.out BDD.out)
              exact ⟨rfl, _, H0.out.turn PU.out.1 (tr.trans PU.out.2), tr.trans PU.out.2⟩
          | true =>
            go_wp2_with (refine wpList_load_mid rfl 38 (.tmp 5) rfl bi 0 rfl (Lk.list ⟨tx, m0, m1, m2, ⟨bk, ver, wt, es, i0, i1, i2, i3⟩⟩ t) _ RG4.out Try.underlying38 rfl (lk_size _ _) ?_)
            refine C12.out.mono ?_; rintro e w5 ⟨rfl, b5⟩
            have H5 := Lib.hid (H4.out.row.below b5)
            have K5 := Lib.hid (K4.out.below b5)
            have E5 := Lib.hid (E4.out.below b5)
            have B5 := Lib.hid (below_next B4.out b5)
            clear b5 C12 RG4
            have HBB := Lib.hid (bx_apart hbi H0.out.row)
            have HFEL := Lib.hid (show c.ls.length < 1099511627775 by have := may_few HMP.out; omega)
            go_upto_region 14 with (fail)
            go_cut [] from 45 to 57 (fun wx => ∃ s2, RowR wx B b nm.r {c with ls := c.ls ++ [⟨tx, m0, m1, m2, ⟨bk, ver, wt, es, i0, i1, i2, i3⟩⟩]} s2 ∧ Trn b s s2 w5 wx ∧ LkB wx bi ⟨tx, m0, m1, m2, ⟨bk, ver, wt, es, i0, i1, i2, i3⟩⟩ t ∧ bi ∉ s2.mut b)
            case first =>
              as_aux_lemma =>
                obtain ⟨j0, hj0, hjz0, hjz1, hjz2⟩ := info_parts lk_info
                have HI := Lib.hid hj0; have HZ0 := Lib.hid hjz0; have HZ1 := Lib.hid hjz1; have HZ2 := Lib.hid hjz2
                clear hj0 hjz0 hjz1 hjz2
                refine wp_region_held_drew (S := fun w' => LkB w' bi ⟨tx, m0, m1, m2, ⟨bk, ver, wt, es, i0, i1, i2, i3⟩⟩ t) (by kernel_rfl) (K5.out.below (Below.refl _ _).drew) (fun s0 => ?_)
                have bd := (Below.refl w5.heap.size w5).drew
                have HD := Lib.hid (H5.out.below bd)
                have BDD := Lib.hid bd
                have HED := Lib.hid (E5.out.below bd)
                clear bd
                generalize w5.drew = wd at *
                have y0 := HD.out.at_ 4 _ rfl
                have hblt := Lib.hid HD.out.blt
                have hfel := Lib.hid HD.out.few
                have HCL := Lib.hid (fun (w' : World) (k : Below wd.heap.size wd w') => clonelock_any (l := ⟨tx, m0, m1, m2, ⟨bk, ver, wt, es, i0, i1, i2, i3⟩⟩) (s := t) w' (HED.out.below k) F0.out)
                simp only [Lk.ag] at HCL
                refine wpAnyH_take (i := 0) (v := .pointer (some ⟨b, 0, none⟩)) rfl (by kernel_rfl) (by kernel_rfl) (by kernel_rfl) (fun _ _ _ h => h) (Or.inl ⟨by rfl, fun w' hw' => by go_simp⟩) s0 ?_
                try simp only [Act.put, List.getElem_toArray, List.getElem_cons_succ, List.getElem_cons_zero, List.setIfInBounds_toArray, List.set_cons_zero, List.set_cons_succ, Nat.zero_add, List.nil_append]
                refine wpAnyH_take (i := 1) (v := .pointer (some ⟨b, 0, none⟩)) rfl (by kernel_rfl) (by kernel_rfl) (by kernel_rfl) (fun _ _ _ h => h) (Or.inl ⟨by rfl, fun w' hw' => by go_simp⟩) s0 ?_
                try simp only [Act.put, List.getElem_toArray, List.getElem_cons_succ, List.getElem_cons_zero, List.setIfInBounds_toArray, List.set_cons_zero, List.set_cons_succ, Nat.zero_add, List.nil_append]
                refine wpAnyH_take (i := 2) (v := .pointer (some ⟨b, 0, none⟩)) rfl (by kernel_rfl) (by kernel_rfl) (by kernel_rfl) (fun _ _ _ h => h) (Or.inl ⟨by rfl, fun w' hw' => by go_simp⟩) s0 ?_
                try simp only [Act.put, List.getElem_toArray, List.getElem_cons_succ, List.getElem_cons_zero, List.setIfInBounds_toArray, List.set_cons_zero, List.set_cons_succ, Nat.zero_add, List.nil_append]
                refine wpAnyH_take (i := 3) (v := .pointer (some ⟨b, 0, none⟩)) rfl (by kernel_rfl) (by kernel_rfl) (by kernel_rfl) (fun _ _ _ h => h) (Or.inl ⟨by rfl, fun w' hw' => by go_simp⟩) s0 ?_
                try simp only [Act.put, List.getElem_toArray, List.getElem_cons_succ, List.getElem_cons_zero, List.setIfInBounds_toArray, List.set_cons_zero, List.set_cons_succ, Nat.zero_add, List.nil_append]
                refine wpAnyH_take (i := 4) (v := .pointer (some ⟨b, 4, none⟩)) rfl (by kernel_rfl) (by kernel_rfl) (by kernel_rfl) (fun _ _ _ h => h) (Or.inl ⟨by rfl, fun w' hw' => by go_simp⟩) s0 ?_
                try simp only [Act.put, List.getElem_toArray, List.getElem_cons_succ, List.getElem_cons_zero, List.setIfInBounds_toArray, List.set_cons_zero, List.set_cons_succ, Nat.zero_add, List.nil_append]
                refine wpAnyH_take (i := 6) (v := .agg (Lk.list ⟨tx, m0, m1, m2, ⟨bk, ver, wt, es, i0, i1, i2, i3⟩⟩ t).toArray) rfl (by kernel_rfl) (by kernel_rfl) (by kernel_rfl) (fun _ _ _ h => h) (yieldsIf_load_mid (by rfl) 38 (.tmp 5) rfl bi 0 rfl (Lk.list ⟨tx, m0, m1, m2, ⟨bk, ver, wt, es, i0, i1, i2, i3⟩⟩ t) _ (fun w hw => LkB.range hw) Try.underlying38 rfl (lk_size _ _)) s0 ?_
                try simp only [Act.put, List.getElem_toArray, List.getElem_cons_succ, List.getElem_cons_zero, List.setIfInBounds_toArray, List.set_cons_zero, List.set_cons_succ, Nat.zero_add, List.nil_append]
                refine wpAnyH_ready (rs := [5, 7]) (by kernel_rfl) (by simp) ?_
                refine AllReadyH.cons rfl (fun K hK => ?_) (AllReadyH.cons rfl (fun K hK => ?_) AllReadyH.nil)
                · skip
                  rw [if_pos (by rfl)]
                  go_simp
                  refine hK.out _ _ s0 (fun _ => ?_)
                  clear hK K
                  try simp only [Act.put, List.getElem_toArray, List.getElem_cons_succ, List.getElem_cons_zero, List.setIfInBounds_toArray, List.set_cons_zero, List.set_cons_succ, Nat.zero_add, List.nil_append]
                  refine wpAnyH_ready (rs := [7]) (by kernel_rfl) (by simp) ?_
                  refine AllReadyH.cons rfl (fun K hK => ?_) AllReadyH.nil
                  rw [if_pos (by rfl)]
                  go_simp
                  refine (HCL.out wd (by first | exact Below.refl _ _ | exact BL.out)).mono ?_; rintro e w3 ⟨t2, rfl, o2, b2⟩
                  have s3 := LkB.below s0 b2
                  have y1 := (b2.cell (p := ⟨b, 4, none⟩) hblt.out).trans y0
                  have O2 := Lib.hid o2
                  have B2 := Lib.hid b2
                  clear b2 o2
                  obtain ⟨ta, tc⟩ := t2
                  try simp only at O2
                  go_simp
                  refine hK.out _ _ s3 (fun _ => ?_)
                  clear hK K
                  try simp only [Act.put, List.getElem_toArray, List.getElem_cons_succ, List.getElem_cons_zero, List.setIfInBounds_toArray, List.set_cons_zero, List.set_cons_succ, Nat.zero_add, List.nil_append]
                  refine wpAnyH_ready (rs := [8]) (by kernel_rfl) (by simp) ?_
                  refine AllReadyH.cons rfl (fun K hK => ?_) AllReadyH.nil
                  rw [if_pos (by rfl)]
                  refine wp_buildL (.tmp 52) rfl (l := ⟨tx, m0, m1, m2, ⟨bk, ver, wt, es, i0, i1, i2, i3⟩⟩) (s := ⟨ta, tc⟩) rfl ?_
                  intro w4 hw4
                  have b3 : Below w3.heap.size w3 w4 := by rw [hw4]; exact below_alloc (Below.refl _ _) _
                  have r3 : LkB w4 w3.heap.size ⟨tx, m0, m1, m2, ⟨bk, ver, wt, es, i0, i1, i2, i3⟩⟩ ⟨ta, tc⟩ := by rw [hw4]; exact LkB.new w3 ⟨tx, m0, m1, m2, ⟨bk, ver, wt, es, i0, i1, i2, i3⟩⟩ ⟨ta, tc⟩
                  clear hw4
                  have s4 := LkB.below s3 b3
                  have y2 := (b3.cell (p := ⟨b, 4, none⟩) (Nat.lt_of_lt_of_le hblt.out B2.out.size)).trans y1
                  obtain ⟨pb, hpb⟩ : ∃ q, q = w3.heap.size := ⟨_, rfl⟩
                  rw [← hpb] at r3 ⊢
                  have O3 := Lib.hid (own_below O2.out b3)
                  have B3 := Lib.hid (below_next B2.out b3)
                  have R3 := Lib.hid r3
                  clear b3 r3 hpb
                  refine hK.out _ _ s4 (fun _ => ?_)
                  clear hK K
                  try simp only [Act.put, List.getElem_toArray, List.getElem_cons_succ, List.getElem_cons_zero, List.setIfInBounds_toArray, List.set_cons_zero, List.set_cons_succ, Nat.zero_add, List.nil_append]
                  refine wpAnyH_ready (rs := [9]) (by kernel_rfl) (by simp) ?_
                  refine AllReadyH.cons rfl (fun K hK => ?_) AllReadyH.nil
                  rw [if_pos (by rfl)]
                  have hown : w4.ownsRow B 38 12 (.slice s.l.ao c.ls.length s.l.cap) c.ls.length (fl lkc (c.ls.zip s.la)) := owns_keep HD.out.l (Keep.of_below B3.out []) (by simp)
                  have hBv : B ≤ w4.heap.size := by have := HD.out.bs b (by simp [Cs.mut]); have := hblt.out; have := B3.out.size; omega
                  have hnd := HD.out.nd
                  refine wp_append_lies _ (.tmp 50) (.tmp 53) 40 rfl B 38 j0 _ 12 88 Try.underlying40 HI.out HZ0.out HZ1.out HZ2.out rfl (by decide) (.slice s.l.ao c.ls.length s.l.cap) c.ls.length (fl lkc (c.ls.zip s.la)) rfl hown ⟨pb, 0, none⟩ 1 1 (lkc (⟨tx, m0, m1, m2, ⟨bk, ver, wt, es, i0, i1, i2, i3⟩⟩, ⟨ta, tc⟩)) rfl rfl (news_row R3.out) (lk_one _) (by decide) (by have := hfel.out; unfold maxLen; omega) (by have := hfel.out; omega) hBv _ rfl ?_
                  intro ga ca w6 own4 gr4 at4 lt4
                  have kg := keep_grown gr4
                  have hbv : b ∉ blk s.l.ao := fun e => (List.nodup_cons.1 hnd).1 (by simp [e])
                  have z0 := (kg.cell (a := ⟨b, 4, none⟩) (Nat.lt_of_lt_of_le hblt.out B3.out.size) hbv).trans y2
                  have z1 := (kg.frozen (a := ⟨b, 4, none⟩) (Nat.lt_of_lt_of_le hblt.out B3.out.size) hbv).trans ((HD.out.below B3.out).fr 4)
                  have hbi1 : bi ≠ b := HBB.out.1
                  have hbi2 : bi ∉ blk s.l.ao := fun e => HBB.out.2 (by simp [e])
                  have sx := LkB.keep s4 kg hbi2
                  have PU := Lib.hid (HD.out.pushL ⟨tx, m0, m1, m2, ⟨bk, ver, wt, es, i0, i1, i2, i3⟩⟩ ⟨ta, tc⟩ HFEL.out B3.out O3.out F0.out own4 gr4 at4)
                  clear own4 gr4 at4 lt4 kg hown hBv hnd hbv hbi2
                  refine hK.out _ _ sx (fun _ => ?_)
                  clear hK K
                  try simp only [Act.put, List.getElem_toArray, List.getElem_cons_succ, List.getElem_cons_zero, List.setIfInBounds_toArray, List.set_cons_zero, List.set_cons_succ, Nat.zero_add, List.nil_append]
                  refine wpAnyH_take (i := 10) (v := .pointer (some ⟨b, 0, none⟩)) rfl (by kernel_rfl) (by kernel_rfl) (by kernel_rfl) (fun _ _ _ h => h) (Or.inl ⟨by rfl, fun w' hw' => by go_simp⟩) sx ?_
                  try simp only [Act.put, List.getElem_toArray, List.getElem_cons_succ, List.getElem_cons_zero, List.setIfInBounds_toArray, List.set_cons_zero, List.set_cons_succ, Nat.zero_add, List.nil_append]
                  refine wpAnyH_take (i := 11) (v := .pointer (some ⟨b, 0, none⟩)) rfl (by kernel_rfl) (by kernel_rfl) (by kernel_rfl) (fun _ _ _ h => h) (Or.inl ⟨by rfl, fun w' hw' => by go_simp⟩) sx ?_
                  try simp only [Act.put, List.getElem_toArray, List.getElem_cons_succ, List.getElem_cons_zero, List.setIfInBounds_toArray, List.set_cons_zero, List.set_cons_succ, Nat.zero_add, List.nil_append]
                  refine wpAnyH_take (i := 12) (v := .pointer (some ⟨b, 4, none⟩)) rfl (by kernel_rfl) (by kernel_rfl) (by kernel_rfl) (fun _ _ _ h => h) (Or.inl ⟨by rfl, fun w' hw' => by go_simp⟩) sx ?_
                  try simp only [Act.put, List.getElem_toArray, List.getElem_cons_succ, List.getElem_cons_zero, List.setIfInBounds_toArray, List.set_cons_zero, List.set_cons_succ, Nat.zero_add, List.nil_append]
                  refine wpAnyH_ready (rs := [13]) (by kernel_rfl) (by simp) ?_
                  refine AllReadyH.cons rfl (fun K hK => ?_) AllReadyH.nil
                  rw [if_pos (by rfl)]
                  go_simp
                  have s5 := LkB.keep sx (Keep.setCell w6 ⟨b, 4, none⟩ (.slice (some ⟨ga, 0, none⟩) (c.ls.length + 1) ca)) (by simpa using hbi1)
                  refine hK.out _ _ s5 (fun _ => ?_)
                  clear hK K
                  try simp only [Act.put, List.getElem_toArray, List.getElem_cons_succ, List.getElem_cons_zero, List.setIfInBounds_toArray, List.set_cons_zero, List.set_cons_succ, Nat.zero_add, List.nil_append]
                  refine wpAnyH_done (by kernel_rfl) ?_ _
                  have S5 := Lib.hid s5
                  clear s0 sx s5 z0 z1 y0
                  generalize w6.setCell ⟨b, 4, none⟩ (.slice (some ⟨ga, 0, none⟩) (c.ls.length + 1) ca) = w9 at *
                  go_wp2_with fail
                  go_meet
                  case rel =>
                    have tr := (Trn.of_below b s BDD.out).trans PU.out.2
                    refine ⟨_, PU.out.1, tr, S5.out, fun hm => ?_⟩
                    rcases tr.m bi hm with q | q
                    · simp only [Cs.mut, List.mem_cons, List.mem_append] at q
                      rcases q with q | q | q
                      · exact HBB.out.1 q
                      · exact HBB.out.2 (by simp [q])
                      · exact HBB.out.2 (by simp [q])
                    · have := K5.out.lt; omega
                · skip
                  rw [if_pos (by rfl)]
                  go_simp
                  refine (HCL.out wd (by first | exact Below.refl _ _ | exact BL.out)).mono ?_; rintro e w3 ⟨t2, rfl, o2, b2⟩
                  have s3 := LkB.below s0 b2
                  have y1 := (b2.cell (p := ⟨b, 4, none⟩) hblt.out).trans y0
                  have O2 := Lib.hid o2
                  have B2 := Lib.hid b2
                  clear b2 o2
                  obtain ⟨ta, tc⟩ := t2
                  try simp only at O2
                  go_simp
                  refine hK.out _ _ s3 (fun _ => ?_)
                  clear hK K
                  try simp only [Act.put, List.getElem_toArray, List.getElem_cons_succ, List.getElem_cons_zero, List.setIfInBounds_toArray, List.set_cons_zero, List.set_cons_succ, Nat.zero_add, List.nil_append]
                  refine wpAnyH_ready (rs := [5, 8]) (by kernel_rfl) (by simp) ?_
                  refine AllReadyH.cons rfl (fun K hK => ?_) (AllReadyH.cons rfl (fun K hK => ?_) AllReadyH.nil)
                  · skip
                    rw [if_pos (by rfl)]
                    go_simp
                    refine hK.out _ _ s3 (fun _ => ?_)
                    clear hK K
                    try simp only [Act.put, List.getElem_toArray, List.getElem_cons_succ, List.getElem_cons_zero, List.setIfInBounds_toArray, List.set_cons_zero, List.set_cons_succ, Nat.zero_add, List.nil_append]
                    refine wpAnyH_ready (rs := [8]) (by kernel_rfl) (by simp) ?_
                    refine AllReadyH.cons rfl (fun K hK => ?_) AllReadyH.nil
                    rw [if_pos (by rfl)]
                    refine wp_buildL (.tmp 52) rfl (l := ⟨tx, m0, m1, m2, ⟨bk, ver, wt, es, i0, i1, i2, i3⟩⟩) (s := ⟨ta, tc⟩) rfl ?_
                    intro w4 hw4
                    have b3 : Below w3.heap.size w3 w4 := by rw [hw4]; exact below_alloc (Below.refl _ _) _
                    have r3 : LkB w4 w3.heap.size ⟨tx, m0, m1, m2, ⟨bk, ver, wt, es, i0, i1, i2, i3⟩⟩ ⟨ta, tc⟩ := by rw [hw4]; exact LkB.new w3 ⟨tx, m0, m1, m2, ⟨bk, ver, wt, es, i0, i1, i2, i3⟩⟩ ⟨ta, tc⟩
                    clear hw4
                    have s4 := LkB.below s3 b3
                    have y2 := (b3.cell (p := ⟨b, 4, none⟩) (Nat.lt_of_lt_of_le hblt.out B2.out.size)).trans y1
                    obtain ⟨pb, hpb⟩ : ∃ q, q = w3.heap.size := ⟨_, rfl⟩
                    rw [← hpb] at r3 ⊢
                    have O3 := Lib.hid (own_below O2.out b3)
                    have B3 := Lib.hid (below_next B2.out b3)
                    have R3 := Lib.hid r3
                    clear b3 r3 hpb
                    refine hK.out _ _ s4 (fun _ => ?_)
                    clear hK K
                    try simp only [Act.put, List.getElem_toArray, List.getElem_cons_succ, List.getElem_cons_zero, List.setIfInBounds_toArray, List.set_cons_zero, List.set_cons_succ, Nat.zero_add, List.nil_append]
                    refine wpAnyH_ready (rs := [9]) (by kernel_rfl) (by simp) ?_
                    refine AllReadyH.cons rfl (fun K hK => ?_) AllReadyH.nil
                    rw [if_pos (by rfl)]
                    have hown : w4.ownsRow B 38 12 (.slice s.l.ao c.ls.length s.l.cap) c.ls.length (fl lkc (c.ls.zip s.la)) := owns_keep HD.out.l (Keep.of_below B3.out []) (by simp)
                    have hBv : B ≤ w4.heap.size := by have := HD.out.bs b (by simp [Cs.mut]); have := hblt.out; have := B3.out.size; omega
                    have hnd := HD.out.nd
                    refine wp_append_lies _ (.tmp 50) (.tmp 53) 40 rfl B 38 j0 _ 12 88 Try.underlying40 HI.out HZ0.out HZ1.out HZ2.out rfl (by decide) (.slice s.l.ao c.ls.length s.l.cap) c.ls.length (fl lkc (c.ls.zip s.la)) rfl hown ⟨pb, 0, none⟩ 1 1 (lkc (⟨tx, m0, m1, m2, ⟨bk, ver, wt, es, i0, i1, i2, i3⟩⟩, ⟨ta, tc⟩)) rfl rfl (news_row R3.out) (lk_one _) (by decide) (by have := hfel.out; unfold maxLen; omega) (by have := hfel.out; omega) hBv _ rfl ?_
                    intro ga ca w6 own4 gr4 at4 lt4
                    have kg := keep_grown gr4
                    have hbv : b ∉ blk s.l.ao := fun e => (List.nodup_cons.1 hnd).1 (by simp [e])
                    have z0 := (kg.cell (a := ⟨b, 4, none⟩) (Nat.lt_of_lt_of_le hblt.out B3.out.size) hbv).trans y2
                    have z1 := (kg.frozen (a := ⟨b, 4, none⟩) (Nat.lt_of_lt_of_le hblt.out B3.out.size) hbv).trans ((HD.out.below B3.out).fr 4)
                    have hbi1 : bi ≠ b := HBB.out.1
                    have hbi2 : bi ∉ blk s.l.ao := fun e => HBB.out.2 (by simp [e])
                    have sx := LkB.keep s4 kg hbi2
                    have PU := Lib.hid (HD.out.pushL ⟨tx, m0, m1, m2, ⟨bk, ver, wt, es, i0, i1, i2, i3⟩⟩ ⟨ta, tc⟩ HFEL.out B3.out O3.out F0.out own4 gr4 at4)
                    clear own4 gr4 at4 lt4 kg hown hBv hnd hbv hbi2
                    refine hK.out _ _ sx (fun _ => ?_)
                    clear hK K
                    try simp only [Act.put, List.getElem_toArray, List.getElem_cons_succ, List.getElem_cons_zero, List.setIfInBounds_toArray, List.set_cons_zero, List.set_cons_succ, Nat.zero_add, List.nil_append]
                    refine wpAnyH_take (i := 10) (v := .pointer (some ⟨b, 0, none⟩)) rfl (by kernel_rfl) (by kernel_rfl) (by kernel_rfl) (fun _ _ _ h => h) (Or.inl ⟨by rfl, fun w' hw' => by go_simp⟩) sx ?_
                    try simp only [Act.put, List.getElem_toArray, List.getElem_cons_succ, List.getElem_cons_zero, List.setIfInBounds_toArray, List.set_cons_zero, List.set_cons_succ, Nat.zero_add, List.nil_append]
                    refine wpAnyH_take (i := 11) (v := .pointer (some ⟨b, 0, none⟩)) rfl (by kernel_rfl) (by kernel_rfl) (by kernel_rfl) (fun _ _ _ h => h) (Or.inl ⟨by rfl, fun w' hw' => by go_simp⟩) sx ?_
                    try simp only [Act.put, List.getElem_toArray, List.getElem_cons_succ, List.getElem_cons_zero, List.setIfInBounds_toArray, List.set_cons_zero, List.set_cons_succ, Nat.zero_add, List.nil_append]
                    refine wpAnyH_take (i := 12) (v := .pointer (some ⟨b, 4, none⟩)) rfl (by kernel_rfl) (by kernel_rfl) (by kernel_rfl) (fun _ _ _ h => h) (Or.inl ⟨by rfl, fun w' hw' => by go_simp⟩) sx ?_
                    try simp only [Act.put, List.getElem_toArray, List.getElem_cons_succ, List.getElem_cons_zero, List.setIfInBounds_toArray, List.set_cons_zero, List.set_cons_succ, Nat.zero_add, List.nil_append]
                    refine wpAnyH_ready (rs := [13]) (by kernel_rfl) (by simp) ?_
                    refine AllReadyH.cons rfl (fun K hK => ?_) AllReadyH.nil
                    rw [if_pos (by rfl)]
                    go_simp
                    have s5 := LkB.keep sx (Keep.setCell w6 ⟨b, 4, none⟩ (.slice (some ⟨ga, 0, none⟩) (c.ls.length + 1) ca)) (by simpa using hbi1)
                    refine hK.out _ _ s5 (fun _ => ?_)
                    clear hK K
                    try simp only [Act.put, List.getElem_toArray, List.getElem_cons_succ, List.getElem_cons_zero, List.setIfInBounds_toArray, List.set_cons_zero, List.set_cons_succ, Nat.zero_add, List.nil_append]
                    refine wpAnyH_done (by kernel_rfl) ?_ _
                    have S5 := Lib.hid s5
                    clear s0 sx s5 z0 z1 y0
                    generalize w6.setCell ⟨b, 4, none⟩ (.slice (some ⟨ga, 0, none⟩) (c.ls.length + 1) ca) = w9 at *
                    go_wp2_with fail
                    go_meet
                    case rel =>
                      have tr := (Trn.of_below b s BDD.out).trans PU.out.2
                      refine ⟨_, PU.out.1, tr, S5.out, fun hm => ?_⟩
                      rcases tr.m bi hm with q | q
                      · simp only [Cs.mut, List.mem_cons, List.mem_append] at q
                        rcases q with q | q | q
                        · exact HBB.out.1 q
                        · exact HBB.out.2 (by simp [q])
                        · exact HBB.out.2 (by simp [q])
                      · have := K5.out.lt; omega
                  · skip
                    rw [if_pos (by rfl)]
                    refine wp_buildL (.tmp 52) rfl (l := ⟨tx, m0, m1, m2, ⟨bk, ver, wt, es, i0, i1, i2, i3⟩⟩) (s := ⟨ta, tc⟩) rfl ?_
                    intro w4 hw4
                    have b3 : Below w3.heap.size w3 w4 := by rw [hw4]; exact below_alloc (Below.refl _ _) _
                    have r3 : LkB w4 w3.heap.size ⟨tx, m0, m1, m2, ⟨bk, ver, wt, es, i0, i1, i2, i3⟩⟩ ⟨ta, tc⟩ := by rw [hw4]; exact LkB.new w3 ⟨tx, m0, m1, m2, ⟨bk, ver, wt, es, i0, i1, i2, i3⟩⟩ ⟨ta, tc⟩
                    clear hw4
                    have s4 := LkB.below s3 b3
                    have y2 := (b3.cell (p := ⟨b, 4, none⟩) (Nat.lt_of_lt_of_le hblt.out B2.out.size)).trans y1
                    obtain ⟨pb, hpb⟩ : ∃ q, q = w3.heap.size := ⟨_, rfl⟩
                    rw [← hpb] at r3 ⊢
                    have O3 := Lib.hid (own_below O2.out b3)
                    have B3 := Lib.hid (below_next B2.out b3)
                    have R3 := Lib.hid r3
                    clear b3 r3 hpb
                    refine hK.out _ _ s4 (fun _ => ?_)
                    clear hK K
                    try simp only [Act.put, List.getElem_toArray, List.getElem_cons_succ, List.getElem_cons_zero, List.setIfInBounds_toArray, List.set_cons_zero, List.set_cons_succ, Nat.zero_add, List.nil_append]
                    refine wpAnyH_ready (rs := [5]) (by kernel_rfl) (by simp) ?_
                    refine AllReadyH.cons rfl (fun K hK => ?_) AllReadyH.nil
                    rw [if_pos (by rfl)]
                    go_simp
                    refine hK.out _ _ s4 (fun _ => ?_)
                    clear hK K
                    try simp only [Act.put, List.getElem_toArray, List.getElem_cons_succ, List.getElem_cons_zero, List.setIfInBounds_toArray, List.set_cons_zero, List.set_cons_succ, Nat.zero_add, List.nil_append]
                    refine wpAnyH_ready (rs := [9]) (by kernel_rfl) (by simp) ?_
                    refine AllReadyH.cons rfl (fun K hK => ?_) AllReadyH.nil
                    rw [if_pos (by rfl)]
                    have hown : w4.ownsRow B 38 12 (.slice s.l.ao c.ls.length s.l.cap) c.ls.length (fl lkc (c.ls.zip s.la)) := owns_keep HD.out.l (Keep.of_below B3.out []) (by simp)
                    have hBv : B ≤ w4.heap.size := by have := HD.out.bs b (by simp [Cs.mut]); have := hblt.out; have := B3.out.size; omega
                    have hnd := HD.out.nd
                    refine wp_append_lies _ (.tmp 50) (.tmp 53) 40 rfl B 38 j0 _ 12 88 Try.underlying40 HI.out HZ0.out HZ1.out HZ2.out rfl (by decide) (.slice s.l.ao c.ls.length s.l.cap) c.ls.length (fl lkc (c.ls.zip s.la)) rfl hown ⟨pb, 0, none⟩ 1 1 (lkc (⟨tx, m0, m1, m2, ⟨bk, ver, wt, es, i0, i1, i2, i3⟩⟩, ⟨ta, tc⟩)) rfl rfl (news_row R3.out) (lk_one _) (by decide) (by have := hfel.out; unfold maxLen; omega) (by have := hfel.out; omega) hBv _ rfl ?_
                    intro ga ca w6 own4 gr4 at4 lt4
                    have kg := keep_grown gr4
                    have hbv : b ∉ blk s.l.ao := fun e => (List.nodup_cons.1 hnd).1 (by simp [e])
                    have z0 := (kg.cell (a := ⟨b, 4, none⟩) (Nat.lt_of_lt_of_le hblt.out B3.out.size) hbv).trans y2
                    have z1 := (kg.frozen (a := ⟨b, 4, none⟩) (Nat.lt_of_lt_of_le hblt.out B3.out.size) hbv).trans ((HD.out.below B3.out).fr 4)
                    have hbi1 : bi ≠ b := HBB.out.1
                    have hbi2 : bi ∉ blk s.l.ao := fun e => HBB.out.2 (by simp [e])
                    have sx := LkB.keep s4 kg hbi2
                    have PU := Lib.hid (HD.out.pushL ⟨tx, m0, m1, m2, ⟨bk, ver, wt, es, i0, i1, i2, i3⟩⟩ ⟨ta, tc⟩ HFEL.out B3.out O3.out F0.out own4 gr4 at4)
                    clear own4 gr4 at4 lt4 kg hown hBv hnd hbv hbi2
                    refine hK.out _ _ sx (fun _ => ?_)
                    clear hK K
                    try simp only [Act.put, List.getElem_toArray, List.getElem_cons_succ, List.getElem_cons_zero, List.setIfInBounds_toArray, List.set_cons_zero, List.set_cons_succ, Nat.zero_add, List.nil_append]
                    refine wpAnyH_take (i := 10) (v := .pointer (some ⟨b, 0, none⟩)) rfl (by kernel_rfl) (by kernel_rfl) (by kernel_rfl) (fun _ _ _ h => h) (Or.inl ⟨by rfl, fun w' hw' => by go_simp⟩) sx ?_
                    try simp only [Act.put, List.getElem_toArray, List.getElem_cons_succ, List.getElem_cons_zero, List.setIfInBounds_toArray, List.set_cons_zero, List.set_cons_succ, Nat.zero_add, List.nil_append]
                    refine wpAnyH_take (i := 11) (v := .pointer (some ⟨b, 0, none⟩)) rfl (by kernel_rfl) (by kernel_rfl) (by kernel_rfl) (fun _ _ _ h => h) (Or.inl ⟨by rfl, fun w' hw' => by go_simp⟩) sx ?_
                    try simp only [Act.put, List.getElem_toArray, List.getElem_cons_succ, List.getElem_cons_zero, List.setIfInBounds_toArray, List.set_cons_zero, List.set_cons_succ, Nat.zero_add, List.nil_append]
                    refine wpAnyH_take (i := 12) (v := .pointer (some ⟨b, 4, none⟩)) rfl (by kernel_rfl) (by kernel_rfl) (by kernel_rfl) (fun _ _ _ h => h) (Or.inl ⟨by rfl, fun w' hw' => by go_simp⟩) sx ?_
                    try simp only [Act.put, List.getElem_toArray, List.getElem_cons_succ, List.getElem_cons_zero, List.setIfInBounds_toArray, List.set_cons_zero, List.set_cons_succ, Nat.zero_add, List.nil_append]
                    refine wpAnyH_ready (rs := [13]) (by kernel_rfl) (by simp) ?_
                    refine AllReadyH.cons rfl (fun K hK => ?_) AllReadyH.nil
                    rw [if_pos (by rfl)]
                    go_simp
                    have s5 := LkB.keep sx (Keep.setCell w6 ⟨b, 4, none⟩ (.slice (some ⟨ga, 0, none⟩) (c.ls.length + 1) ca)) (by simpa using hbi1)
                    refine hK.out _ _ s5 (fun _ => ?_)
                    clear hK K
                    try simp only [Act.put, List.getElem_toArray, List.getElem_cons_succ, List.getElem_cons_zero, List.setIfInBounds_toArray, List.set_cons_zero, List.set_cons_succ, Nat.zero_add, List.nil_append]
                    refine wpAnyH_done (by kernel_rfl) ?_ _
                    have S5 := Lib.hid s5
                    clear s0 sx s5 z0 z1 y0
                    generalize w6.setCell ⟨b, 4, none⟩ (.slice (some ⟨ga, 0, none⟩) (c.ls.length + 1) ca) = w9 at *
                    go_wp2_with fail
                    go_meet
                    case rel =>
                      have tr := (Trn.of_below b s BDD.out).trans PU.out.2
                      refine ⟨_, PU.out.1, tr, S5.out, fun hm => ?_⟩
                      rcases tr.m bi hm with q | q
                      · simp only [Cs.mut, List.mem_cons, List.mem_append] at q
                        rcases q with q | q | q
                        · exact HBB.out.1 q
                        · exact HBB.out.2 (by simp [q])
                        · exact HBB.out.2 (by simp [q])
                      · have := K5.out.lt; omega
            case rest =>
              obtain ⟨s1, h6, t6, k6, hb6⟩ := hcut
              have H6 := Lib.hid h6; have T6 := Lib.hid t6; have K6 := Lib.hid k6
              have HBB := Lib.hid (show bi ≠ b ∧ bi ∉ blk s1.v.ao ++ blk s1.l.ao from ⟨fun e => hb6 (by simp [Cs.mut, e]), fun e => hb6 (by rw [List.mem_append] at e; rcases e with e | e <;> simp [Cs.mut, e])⟩)
              have HFEW := Lib.hid (show c.vs.length < 1099511627775 by have := HFU.out; omega)
              clear h6 t6 k6 hb6
              obtain ⟨c1, hc1⟩ : ∃ c1 : Cp, {c with ls := c.ls ++ [⟨tx, m0, m1, m2, ⟨bk, ver, wt, es, i0, i1, i2, i3⟩⟩]} = c1 := ⟨_, rfl⟩
              have HC1 := Lib.hid hc1
              rw [show c.vs = c1.vs from by rw [← hc1]] at HFEW
              rw [hc1] at H6
              clear hc1
              go_upto_region 15 with (fail)
              obtain ⟨j0, hj0, hjz0, hjz1, hjz2⟩ := info_parts vd_info
              have HI := Lib.hid hj0; have HZ0 := Lib.hid hjz0; have HZ1 := Lib.hid hjz1; have HZ2 := Lib.hid hjz2
              clear hj0 hjz0 hjz1 hjz2
              have hl0 : Holds wc [(⟨bi, 0, none⟩, .int .u64 tx)] := .cons (K6.out.c 0 _ rfl) K6.out.lt (.nil _)
              refine wp_region_held_drew (S := fun w' => Holds w' [(⟨bi, 0, none⟩, .int .u64 tx)]) (by kernel_rfl) hl0.drew (fun s0 => ?_)
              have bd := (Below.refl wc.heap.size wc).drew
              have HD := Lib.hid (H6.out.below bd)
              have BDD := Lib.hid bd
              have HXD := Lib.hid (K6.out.below bd)
              clear bd hl0
              generalize wc.drew = wd at *
              have y0 := HD.out.at_ 9 _ rfl
              have hblt := Lib.hid HD.out.blt
              have hfev := Lib.hid HD.out.fev
              refine wpAnyH_take (i := 0) (v := .pointer (some ⟨b, 0, none⟩)) rfl (by kernel_rfl) (by kernel_rfl) (by kernel_rfl) (fun _ _ _ h => h) (Or.inl ⟨by rfl, fun w' hw' => by go_simp⟩) s0 ?_
              try simp only [Act.put, List.getElem_toArray, List.getElem_cons_succ, List.getElem_cons_zero, List.setIfInBounds_toArray, List.set_cons_zero, List.set_cons_succ, Nat.zero_add, List.nil_append]
              refine wpAnyH_take (i := 1) (v := .pointer (some ⟨b, 0, none⟩)) rfl (by kernel_rfl) (by kernel_rfl) (by kernel_rfl) (fun _ _ _ h => h) (Or.inl ⟨by rfl, fun w' hw' => by go_simp⟩) s0 ?_
              try simp only [Act.put, List.getElem_toArray, List.getElem_cons_succ, List.getElem_cons_zero, List.setIfInBounds_toArray, List.set_cons_zero, List.set_cons_succ, Nat.zero_add, List.nil_append]
              refine wpAnyH_take (i := 2) (v := .pointer (some ⟨b, 0, none⟩)) rfl (by kernel_rfl) (by kernel_rfl) (by kernel_rfl) (fun _ _ _ h => h) (Or.inl ⟨by rfl, fun w' hw' => by go_simp⟩) s0 ?_
              try simp only [Act.put, List.getElem_toArray, List.getElem_cons_succ, List.getElem_cons_zero, List.setIfInBounds_toArray, List.set_cons_zero, List.set_cons_succ, Nat.zero_add, List.nil_append]
              refine wpAnyH_take (i := 3) (v := .pointer (some ⟨b, 0, none⟩)) rfl (by kernel_rfl) (by kernel_rfl) (by kernel_rfl) (fun _ _ _ h => h) (Or.inl ⟨by rfl, fun w' hw' => by go_simp⟩) s0 ?_
              try simp only [Act.put, List.getElem_toArray, List.getElem_cons_succ, List.getElem_cons_zero, List.setIfInBounds_toArray, List.set_cons_zero, List.set_cons_succ, Nat.zero_add, List.nil_append]
              refine wpAnyH_take (i := 4) (v := .pointer (some ⟨b, 9, none⟩)) rfl (by kernel_rfl) (by kernel_rfl) (by kernel_rfl) (fun _ _ _ h => h) (Or.inl ⟨by rfl, fun w' hw' => by go_simp⟩) s0 ?_
              try simp only [Act.put, List.getElem_toArray, List.getElem_cons_succ, List.getElem_cons_zero, List.setIfInBounds_toArray, List.set_cons_zero, List.set_cons_succ, Nat.zero_add, List.nil_append]
              refine wpAnyH_take (i := 6) (v := .pointer (some ⟨bi, 0, none⟩)) rfl (by kernel_rfl) (by kernel_rfl) (by kernel_rfl) (fun _ _ _ h => h) (Or.inl ⟨by rfl, fun w' hw' => by go_simp⟩) s0 ?_
              try simp only [Act.put, List.getElem_toArray, List.getElem_cons_succ, List.getElem_cons_zero, List.setIfInBounds_toArray, List.set_cons_zero, List.set_cons_succ, Nat.zero_add, List.nil_append]
              refine wpAnyH_take (i := 7) (v := .int .u64 tx) rfl (by kernel_rfl) (by kernel_rfl) (by kernel_rfl) (fun _ _ _ h => h) (Or.inl ⟨by rfl, fun w' hw' => by have q0 := hw'.head; go_simp⟩) s0 ?_
              try simp only [Act.put, List.getElem_toArray, List.getElem_cons_succ, List.getElem_cons_zero, List.setIfInBounds_toArray, List.set_cons_zero, List.set_cons_succ, Nat.zero_add, List.nil_append]
              refine wpAnyH_take (i := 8) (v := .int .i64 1) rfl (by kernel_rfl) (by kernel_rfl) (by kernel_rfl) (fun _ _ _ h => h) (Or.inl ⟨by rfl, fun w' hw' => by go_simp⟩) s0 ?_
              try simp only [Act.put, List.getElem_toArray, List.getElem_cons_succ, List.getElem_cons_zero, List.setIfInBounds_toArray, List.set_cons_zero, List.set_cons_succ, Nat.zero_add, List.nil_append]
              refine wpAnyH_take (i := 9) (v := .agg #[.int .u64 tx, .int .i64 1]) rfl (by kernel_rfl) (by kernel_rfl) (by kernel_rfl) (fun _ _ _ h => h) (Or.inl ⟨by rfl, fun w' hw' => by go_simp⟩) s0 ?_
              try simp only [Act.put, List.getElem_toArray, List.getElem_cons_succ, List.getElem_cons_zero, List.setIfInBounds_toArray, List.set_cons_zero, List.set_cons_succ, Nat.zero_add, List.nil_append]
              refine wpAnyH_ready (rs := [5, 10]) (by kernel_rfl) (by simp) ?_
              refine AllReadyH.cons rfl (fun K hK => ?_) (AllReadyH.cons rfl (fun K hK => ?_) AllReadyH.nil)
              · skip
                rw [if_pos (by rfl)]
                go_simp
                refine hK.out _ _ s0 (fun _ => ?_)
                clear hK K
                try simp only [Act.put, List.getElem_toArray, List.getElem_cons_succ, List.getElem_cons_zero, List.setIfInBounds_toArray, List.set_cons_zero, List.set_cons_succ, Nat.zero_add, List.nil_append]
                refine wpAnyH_ready (rs := [10]) (by kernel_rfl) (by simp) ?_
                refine AllReadyH.cons rfl (fun K hK => ?_) AllReadyH.nil
                rw [if_pos (by rfl)]
                go_simp
                have b3 : Below wd.heap.size wd (wd.alloc (.cells #[.int .u64 tx, .int .i64 1] 51)) := below_alloc (Below.refl _ _) _
                have r3 := heap_alloc_new wd (.cells #[.int .u64 tx, .int .i64 1] 51)
                have y1 := (b3.cell (p := ⟨b, 9, none⟩) hblt.out).trans y0
                have s3 := s0.below b3
                obtain ⟨pb, hpb⟩ : ∃ q, q = wd.heap.size := ⟨_, rfl⟩
                rw [← hpb] at r3 ⊢
                have HPB := Lib.hid hpb
                generalize wd.alloc (.cells #[.int .u64 tx, .int .i64 1] 51) = w3 at *
                have B3 := Lib.hid b3
                have R3 := Lib.hid r3
                clear b3 r3 hpb
                refine hK.out _ _ s3 (fun _ => ?_)
                clear hK K
                try simp only [Act.put, List.getElem_toArray, List.getElem_cons_succ, List.getElem_cons_zero, List.setIfInBounds_toArray, List.set_cons_zero, List.set_cons_succ, Nat.zero_add, List.nil_append]
                refine wpAnyH_ready (rs := [11]) (by kernel_rfl) (by simp) ?_
                refine AllReadyH.cons rfl (fun K hK => ?_) AllReadyH.nil
                rw [if_pos (by rfl)]
                have hown : w3.ownsRow B 51 2 (.slice s1.v.ao c1.vs.length s1.v.cap) c1.vs.length (fl Vd.list c1.vs) := owns_keep HD.out.v (Keep.of_below B3.out []) (by simp)
                have hBv : B ≤ w3.heap.size := by have := HD.out.bs b (by simp [Cs.mut]); have := hblt.out; have := B3.out.size; omega
                have hnd := HD.out.nd
                refine wp_append_lies _ (.tmp 63) (.tmp 68) 34 rfl B 51 j0 _ 2 16 Try.underlying34 HI.out HZ0.out HZ1.out HZ2.out rfl (by decide) (.slice s1.v.ao c1.vs.length s1.v.cap) c1.vs.length (fl Vd.list c1.vs) rfl hown ⟨pb, 0, none⟩ 1 1 (Vd.list ⟨tx, 1⟩) rfl rfl (news_row R3.out) (vd_one _) (by decide) (by have := hfev.out; unfold maxLen; omega) (by have := hfev.out; omega) hBv _ rfl ?_
                intro ga ca w4 own4 gr4 at4 lt4
                have kg := keep_grown gr4
                have hbv : b ∉ blk s1.v.ao := fun e => (List.nodup_cons.1 hnd).1 (by simp [e])
                have z0 := (kg.cell (a := ⟨b, 9, none⟩) (Nat.lt_of_lt_of_le hblt.out B3.out.size) hbv).trans y1
                have z1 := (kg.frozen (a := ⟨b, 9, none⟩) (Nat.lt_of_lt_of_le hblt.out B3.out.size) hbv).trans ((HD.out.below B3.out).fr 9)
                have hbi1 : bi ≠ b := HBB.out.1
                have hbi2 : bi ∉ blk s1.v.ao := fun e => HBB.out.2 (by simp [e])
                have sx := s3.keep kg (by intro p hp; simp only [List.mem_cons, List.not_mem_nil, or_false] at hp; subst hp; exact hbi2)
                have PU := Lib.hid (HD.out.pushV ⟨tx, 1⟩ (HFEW.out) B3.out own4 gr4 at4)
                clear own4 gr4 at4 lt4 kg hown hBv hnd y1 hbv hbi2
                refine hK.out _ _ sx (fun _ => ?_)
                clear hK K
                try simp only [Act.put, List.getElem_toArray, List.getElem_cons_succ, List.getElem_cons_zero, List.setIfInBounds_toArray, List.set_cons_zero, List.set_cons_succ, Nat.zero_add, List.nil_append]
                refine wpAnyH_take (i := 12) (v := .pointer (some ⟨b, 0, none⟩)) rfl (by kernel_rfl) (by kernel_rfl) (by kernel_rfl) (fun _ _ _ h => h) (Or.inl ⟨by rfl, fun w' hw' => by go_simp⟩) sx ?_
                try simp only [Act.put, List.getElem_toArray, List.getElem_cons_succ, List.getElem_cons_zero, List.setIfInBounds_toArray, List.set_cons_zero, List.set_cons_succ, Nat.zero_add, List.nil_append]
                refine wpAnyH_take (i := 13) (v := .pointer (some ⟨b, 0, none⟩)) rfl (by kernel_rfl) (by kernel_rfl) (by kernel_rfl) (fun _ _ _ h => h) (Or.inl ⟨by rfl, fun w' hw' => by go_simp⟩) sx ?_
                try simp only [Act.put, List.getElem_toArray, List.getElem_cons_succ, List.getElem_cons_zero, List.setIfInBounds_toArray, List.set_cons_zero, List.set_cons_succ, Nat.zero_add, List.nil_append]
                refine wpAnyH_take (i := 14) (v := .pointer (some ⟨b, 9, none⟩)) rfl (by kernel_rfl) (by kernel_rfl) (by kernel_rfl) (fun _ _ _ h => h) (Or.inl ⟨by rfl, fun w' hw' => by go_simp⟩) sx ?_
                try simp only [Act.put, List.getElem_toArray, List.getElem_cons_succ, List.getElem_cons_zero, List.setIfInBounds_toArray, List.set_cons_zero, List.set_cons_succ, Nat.zero_add, List.nil_append]
                refine wpAnyH_ready (rs := [15]) (by kernel_rfl) (by simp) ?_
                refine AllReadyH.cons rfl (fun K hK => ?_) AllReadyH.nil
                rw [if_pos (by rfl)]
                go_simp
                have s5 := sx.set ⟨b, 9, none⟩ (.slice (some ⟨ga, 0, none⟩) (c1.vs.length + 1) ca) (by intro p hp; simp only [List.mem_cons, List.not_mem_nil, or_false] at hp; subst hp; intro e; simp only [Addr.mk.injEq] at e; exact hbi1 (by first | exact e.1 | exact e.1.symm))
                refine hK.out _ _ s5 (fun _ => ?_)
                clear hK K
                try simp only [Act.put, List.getElem_toArray, List.getElem_cons_succ, List.getElem_cons_zero, List.setIfInBounds_toArray, List.set_cons_zero, List.set_cons_succ, Nat.zero_add, List.nil_append]
                refine wpAnyH_done (by kernel_rfl) ?_ _
                clear s0 sx s5 z0 z1 y0
                generalize w4.setCell ⟨b, 9, none⟩ (.slice (some ⟨ga, 0, none⟩) (c1.vs.length + 1) ca) = w9 at *
                go_wp2_with fail
                go_ret2
                have e := HV.out
                unfold voteR at e
                rw [if_neg (by rw [HLB.out]; decide), if_neg (by rw [HCI.out]; exact fun h => h (HIC.out.trans HNE.out)), if_neg (by simp only; rw [HVO.out]; exact fun h => h HV0.out), if_neg HFU.out, if_pos HMP.out] at e
                cases e
                have e1 := HC1.out
                subst e1
                have tr := (Trn.of_below b s B5.out).trans (T6.out.trans (Trn.of_below b s1 BDD.out))
                exact ⟨rfl, _, H0.out.turn PU.out.1 (tr.trans PU.out.2), tr.trans PU.out.2⟩
              · skip
                rw [if_pos (by rfl)]
                go_simp
                have b3 : Below wd.heap.size wd (wd.alloc (.cells #[.int .u64 tx, .int .i64 1] 51)) := below_alloc (Below.refl _ _) _
                have r3 := heap_alloc_new wd (.cells #[.int .u64 tx, .int .i64 1] 51)
                have y1 := (b3.cell (p := ⟨b, 9, none⟩) hblt.out).trans y0
                have s3 := s0.below b3
                obtain ⟨pb, hpb⟩ : ∃ q, q = wd.heap.size := ⟨_, rfl⟩
                rw [← hpb] at r3 ⊢
                have HPB := Lib.hid hpb
                generalize wd.alloc (.cells #[.int .u64 tx, .int .i64 1] 51) = w3 at *
                have B3 := Lib.hid b3
                have R3 := Lib.hid r3
                clear b3 r3 hpb
                refine hK.out _ _ s3 (fun _ => ?_)
                clear hK K
                try simp only [Act.put, List.getElem_toArray, List.getElem_cons_succ, List.getElem_cons_zero, List.setIfInBounds_toArray, List.set_cons_zero, List.set_cons_succ, Nat.zero_add, List.nil_append]
                refine wpAnyH_ready (rs := [5]) (by kernel_rfl) (by simp) ?_
                refine AllReadyH.cons rfl (fun K hK => ?_) AllReadyH.nil
                rw [if_pos (by rfl)]
                go_simp
                refine hK.out _ _ s3 (fun _ => ?_)
                clear hK K
                try simp only [Act.put, List.getElem_toArray, List.getElem_cons_succ, List.getElem_cons_zero, List.setIfInBounds_toArray, List.set_cons_zero, List.set_cons_succ, Nat.zero_add, List.nil_append]
                refine wpAnyH_ready (rs := [11]) (by kernel_rfl) (by simp) ?_
                refine AllReadyH.cons rfl (fun K hK => ?_) AllReadyH.nil
                rw [if_pos (by rfl)]
                have hown : w3.ownsRow B 51 2 (.slice s1.v.ao c1.vs.length s1.v.cap) c1.vs.length (fl Vd.list c1.vs) := owns_keep HD.out.v (Keep.of_below B3.out []) (by simp)
                have hBv : B ≤ w3.heap.size := by have := HD.out.bs b (by simp [Cs.mut]); have := hblt.out; have := B3.out.size; omega
                have hnd := HD.out.nd
                refine wp_append_lies _ (.tmp 63) (.tmp 68) 34 rfl B 51 j0 _ 2 16 Try.underlying34 HI.out HZ0.out HZ1.out HZ2.out rfl (by decide) (.slice s1.v.ao c1.vs.length s1.v.cap) c1.vs.length (fl Vd.list c1.vs) rfl hown ⟨pb, 0, none⟩ 1 1 (Vd.list ⟨tx, 1⟩) rfl rfl (news_row R3.out) (vd_one _) (by decide) (by have := hfev.out; unfold maxLen; omega) (by have := hfev.out; omega) hBv _ rfl ?_
                intro ga ca w4 own4 gr4 at4 lt4
                have kg := keep_grown gr4
                have hbv : b ∉ blk s1.v.ao := fun e => (List.nodup_cons.1 hnd).1 (by simp [e])
                have z0 := (kg.cell (a := ⟨b, 9, none⟩) (Nat.lt_of_lt_of_le hblt.out B3.out.size) hbv).trans y1
                have z1 := (kg.frozen (a := ⟨b, 9, none⟩) (Nat.lt_of_lt_of_le hblt.out B3.out.size) hbv).trans ((HD.out.below B3.out).fr 9)
                have hbi1 : bi ≠ b := HBB.out.1
                have hbi2 : bi ∉ blk s1.v.ao := fun e => HBB.out.2 (by simp [e])
                have sx := s3.keep kg (by intro p hp; simp only [List.mem_cons, List.not_mem_nil, or_false] at hp; subst hp; exact hbi2)
                have PU := Lib.hid (HD.out.pushV ⟨tx, 1⟩ (HFEW.out) B3.out own4 gr4 at4)
                clear own4 gr4 at4 lt4 kg hown hBv hnd y1 hbv hbi2
                refine hK.out _ _ sx (fun _ => ?_)
                clear hK K
                try simp only [Act.put, List.getElem_toArray, List.getElem_cons_succ, List.getElem_cons_zero, List.setIfInBounds_toArray, List.set_cons_zero, List.set_cons_succ, Nat.zero_add, List.nil_append]
                refine wpAnyH_take (i := 12) (v := .pointer (some ⟨b, 0, none⟩)) rfl (by kernel_rfl) (by kernel_rfl) (by kernel_rfl) (fun _ _ _ h => h) (Or.inl ⟨by rfl, fun w' hw' => by go_simp⟩) sx ?_
                try simp only [Act.put, List.getElem_toArray, List.getElem_cons_succ, List.getElem_cons_zero, List.setIfInBounds_toArray, List.set_cons_zero, List.set_cons_succ, Nat.zero_add, List.nil_append]
                refine wpAnyH_take (i := 13) (v := .pointer (some ⟨b, 0, none⟩)) rfl (by kernel_rfl) (by kernel_rfl) (by kernel_rfl) (fun _ _ _ h => h) (Or.inl ⟨by rfl, fun w' hw' => by go_simp⟩) sx ?_
                try simp only [Act.put, List.getElem_toArray, List.getElem_cons_succ, List.getElem_cons_zero, List.setIfInBounds_toArray, List.set_cons_zero, List.set_cons_succ, Nat.zero_add, List.nil_append]
                refine wpAnyH_take (i := 14) (v := .pointer (some ⟨b, 9, none⟩)) rfl (by kernel_rfl) (by kernel_rfl) (by kernel_rfl) (fun _ _ _ h => h) (Or.inl ⟨by rfl, fun w' hw' => by go_simp⟩) sx ?_
                try simp only [Act.put, List.getElem_toArray, List.getElem_cons_succ, List.getElem_cons_zero, List.setIfInBounds_toArray, List.set_cons_zero, List.set_cons_succ, Nat.zero_add, List.nil_append]
                refine wpAnyH_ready (rs := [15]) (by kernel_rfl) (by simp) ?_
                refine AllReadyH.cons rfl (fun K hK => ?_) AllReadyH.nil
                rw [if_pos (by rfl)]
                go_simp
                have s5 := sx.set ⟨b, 9, none⟩ (.slice (some ⟨ga, 0, none⟩) (c1.vs.length + 1) ca) (by intro p hp; simp only [List.mem_cons, List.not_mem_nil, or_false] at hp; subst hp; intro e; simp only [Addr.mk.injEq] at e; exact hbi1 (by first | exact e.1 | exact e.1.symm))
                refine hK.out _ _ s5 (fun _ => ?_)
                clear hK K
                try simp only [Act.put, List.getElem_toArray, List.getElem_cons_succ, List.getElem_cons_zero, List.setIfInBounds_toArray, List.set_cons_zero, List.set_cons_succ, Nat.zero_add, List.nil_append]
                refine wpAnyH_done (by kernel_rfl) ?_ _
                clear s0 sx s5 z0 z1 y0
                generalize w4.setCell ⟨b, 9, none⟩ (.slice (some ⟨ga, 0, none⟩) (c1.vs.length + 1) ca) = w9 at *
                go_wp2_with fail
                go_ret2
                have e := HV.out
                unfold voteR at e
                rw [if_neg (by rw [HLB.out]; decide), if_neg (by rw [HCI.out]; exact fun h => h (HIC.out.trans HNE.out)), if_neg (by simp only; rw [HVO.out]; exact fun h => h HV0.out), if_neg HFU.out, if_pos HMP.out] at e
                cases e
                have e1 := HC1.out
                subst e1
                have tr := (Trn.of_below b s B5.out).trans (T6.out.trans (Trn.of_below b s1 BDD.out))
                exact ⟨rfl, _, H0.out.turn PU.out.1 (tr.trans PU.out.2), tr.trans PU.out.2⟩
      · have hv1 : (vo != 0) = true := by simpa using hv0
        have HV0 := Lib.hid hv0
        clear hv0
        go_wp2_with fail
        go_ret2
        have e := HV.out
        unfold voteR at e
        rw [if_neg (by rw [HLB.out]; decide), if_neg (by rw [HCI.out]; exact fun h => h (HIC.out.trans HNE.out)), if_pos (by simp only; rw [HVO.out]; exact HV0.out)] at e
        simp only [HVO.out] at e
        cases e
        exact VtEnd.of_below H0.out B4.out _ _
    · have hne2 : (ic != ci) = true := by simpa using hne
      have HNE := Lib.hid hne
      clear hne
      go_quiet (fail)
      clear xi y1 hne2
      go_wp2_with fail
      go_ret2
      have e := HV.out
      unfold voteR at e
      rw [if_neg (by rw [HLB.out]; decide), if_pos (by rw [HCI.out]; exact fun h => HNE.out (HIC.out.symm.trans h))] at e
      cases e
      exact VtEnd.of_below H0.out (below_next (by first | exact B1.out | (rw [hbi]; exact B1.out) | (rw [← hbi]; exact B1.out)) (below_drewN _ _)) _ _
end
end Go.Proofs.Ytbjcmomicjdepaa
