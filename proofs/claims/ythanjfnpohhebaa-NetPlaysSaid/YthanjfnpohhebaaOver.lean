/- NetPlays: what came out is written over, and the nets are looked at. -/
import Derived.Test.YthanjfnpohhebaaOv
import Derived.Test.YthanjfnpohhebaaTst
namespace Go.Proofs.Ythanjfnpohhebaa
open Go.RowKit Go.Sort
set_option linter.unusedVariables false
set_option linter.unusedSectionVars false
set_option linter.unusedSimpArgs false
set_option maxRecDepth 100000
/-- below L nothing of a has turned -/
structure Bel (L : Nat) (a w : World) : Prop where
  b : Below L a w
  l : L ≤ a.heap.size
theorem Bel.refl {L : Nat} {a : World} (h : L ≤ a.heap.size) : Bel L a a := ⟨Below.refl _ _, h⟩
theorem Bel.alloc {L : Nat} {a w : World} (h : Bel L a w) (o : Obj) : Bel L a (w.alloc o) := ⟨h.b.alloc (Nat.le_trans h.l h.b.size) o, h.l⟩
theorem Bel.drew {L : Nat} {a w : World} (h : Bel L a w) : Bel L a w.drew := ⟨h.b.drew, h.l⟩
theorem Bel.set {L : Nat} {a w : World} (h : Bel L a w) (x : Addr) (v : Value) (hx : L ≤ x.block) : Bel L a (w.setCell x v) := ⟨h.b.trans ((Keep.setCell w x v).below (Nat.le_trans h.l h.b.size) (by simpa using hx)), h.l⟩
theorem Keep.put {U : List Nat} {a w : World} (h : Keep U a w) (x : Addr) (v : Value) (hx : x.block ∈ U) : Keep U a (w.setCell x v) := h.trans ((Keep.setCell w x v).mono (fun q hq => .inl (by simp only [List.mem_singleton] at hq; exact hq ▸ hx)))
theorem Keep.allo {U : List Nat} {a w : World} (h : Keep U a w) (o : Obj) : Keep U a (w.alloc o) := h.trans (Keep.of_below (below_alloc (Below.refl _ _) o) U)
theorem Keep.drew' {U : List Nat} {a w : World} (h : Keep U a w) : Keep U a w.drew := h.trans (Keep.of_below (Below.refl _ _).drew U)
theorem look_of_mem {S : List Pkt} (hi : Inc S) {p : Pkt} (hp : p ∈ S) : look S p.id = some p := by
  cases h : look S p.id with
  | none => exact absurd rfl (look_none h p hp)
  | some q =>
    obtain ⟨hq, e⟩ := look_some h
    obtain ⟨i, hi1, ei⟩ := List.getElem_of_mem hp
    obtain ⟨j, hj1, ej⟩ := List.getElem_of_mem hq
    have hh := List.pairwise_iff_getElem.1 hi
    rcases Nat.lt_trichotomy i j with h1 | h1 | h1
    · have := hh i j hi1 hj1 h1; rw [ei, ej] at this; omega
    · subst h1; rw [← ei, ← ej]
    · have := hh j i hj1 hi1 h1; rw [ei, ej] at this; omega
theorem rd77 {w : World} {pb : Nat} (h : w.heap[pb]? = some (.cells #[.int .u8 7, .int .u8 7] 5 (0, 0))) : Rd w (some ⟨pb, 0, none⟩) [7, 7] := by
  refine ⟨by decide, fun j hj => ⟨pb, 0, rfl, (Array.getElem?_eq_some_iff.1 h).1, ?_⟩⟩
  rw [cell_of_row w pb (0 + j) _ _ (0, 0) h]
  match j, hj with
  | 0, _ => rfl
  | 1, _ => rfl
section
variable {w w' : World} {B tb hn nb room made last : Nat} {tg : Nat → Nat} {S D L V : List Pkt} {T T2 : Tr}
/-- between two rounds of the first loop: the packets from j on are as they were -/
def OvI (B tb hn nb room : Nat) (S : List Pkt) (made : Nat) (T : Tr) (D V : List Pkt) (w : World) (j : Nat) (wr : World) : Prop :=
  ∃ tg L', TwW wr B tb tg hn nb room S made T D made T L' V ∧ L'.length = V.length ∧ (∀ k, j ≤ k → (L'[k]?).map told = (V[k]?).map told) ∧ (∀ k p, j ≤ k → L'[k]? = some p → p.data.length ≤ 65546) ∧ Below B w wr
set_option maxHeartbeats 12800000 in
theorem tover_any (w : World) (h : TwW w B tb tg hn nb room S made T D made T L V) (hal : Alike S D) (hlv : Alike L V) (hfew : Few L 1000) (hmade : made < 18446744073709551616) :
    Calls Try.prog 11 #[.pointer (some ⟨tb, 0, none⟩)] w fun e w' => e = .returned (.bool true) ∧ Below B w w' := by
  have START : Hid (OvI B tb hn nb room S made T D V w 0 w) := Lib.hid ⟨tg, L, h, hlv.len, fun k _ => by rw [← List.getElem?_map, ← List.getElem?_map]; exact congrArg (·[k]?) hlv, fun k p _ hp => hfew.2 p (List.mem_of_getElem? hp), Below.refl _ _⟩
  obtain ⟨sn, hsn⟩ : ∃ x, V.length = x := ⟨_, rfl⟩
  have hs1 : sn ≤ 1000 := by rw [← hsn, ← hlv.len]; exact hfew.1
  have hsi : (sn : Int) ≤ 1000 := by omega
  have HAL := Lib.hid hal; have HSN := Lib.hid hsn; have HMD := Lib.hid hmade
  have HLO := Lib.hid h.lo
  clear h hal hlv hfew hsn hmade
  go_enter Try.func11, Try.ntmps11
  go_wp2_with fail
  go_loopw [3] (fun v3 wr => ∃ j : Nat, v3 = .int .i64 (j : Int) ∧ j ≤ sn ∧ Hid (OvI B tb hn nb room S made T D V w j wr)) (fun v3 _ => sn - (intOf v3).toNat)
  case atStart => exact ⟨0, rfl, Nat.zero_le _, START⟩
  case round =>
    obtain ⟨j, rfl, hj, hI⟩ := hrel
    obtain ⟨tg1, L1, hw1, hl1, hk1, hd1, b1⟩ := hI.out
    obtain ⟨la, lc, wa, wc, h5, h6, h7, h8, h9, h10, h11⟩ := hw1.out
    rw [hl1, HSN.out] at h5
    have c2 := cell_of_row wr tb 2 _ _ (0, 0) h5
    have c3 := cell_of_row wr tb 3 _ _ (0, 0) h5
    simp only [List.getElem?_toArray, List.getElem?_cons_zero, List.getElem?_cons_succ] at c2 c3
    have hlt := hw1.lt
    have hj0 : (0 : Int) ≤ (j : Int) := by omega
    have H1 := Lib.hid hw1; have HL1 := Lib.hid hl1; have HK1 := Lib.hid hk1; have HD1 := Lib.hid hd1; have B1 := Lib.hid b1
    have H6 := Lib.hid h6; have H7 := Lib.hid h7; have H5 := Lib.hid h5
    clear hI hw1 hl1 hk1 hd1 b1 h5 h6 h7 h8 h9 h10 h11
    by_cases hjn : j < sn
    · obtain ⟨q, hq⟩ : ∃ q, V[j]? = some q := ⟨_, List.getElem?_eq_getElem (by rw [HSN.out]; exact hjn)⟩
      obtain ⟨p, hp, htq⟩ : ∃ p, L1[j]? = some p ∧ told p = told q := by
        have e := HK1.out j (Nat.le_refl _)
        rw [hq] at e
        cases hp : L1[j]? with
        | none => rw [hp] at e; cases e
        | some p => rw [hp] at e; exact ⟨p, rfl, by simpa using e⟩
      have hp6 := HD1.out j p (Nat.le_refl _) hp
      obtain ⟨gl, rfl, hgl, hcl, hfl⟩ := H6.out.pkt hp
      obtain ⟨gv, rfl, hgv, hcv, _⟩ := H7.out.pkt hq
      have hpo := H6.out.pk.own p (List.mem_of_getElem? hp)
      have hqo := H7.out.pk.own q (List.mem_of_getElem? hq)
      obtain ⟨e1, e2, e3, e4⟩ := told_eq htq
      obtain ⟨pi, pf, pt, pao, pcap, pl⟩ := p
      obtain ⟨qi, qf, qt, qao, qcap, ql⟩ := q
      simp only at e1 e2 e3 e4 hpo hqo hp6
      subst e1 e2 e3 e4
      obtain ⟨n, hpl⟩ : ∃ n, pl.length = n := ⟨_, rfl⟩
      have HSP := Lib.hid (show (⟨pi, pf, pt, pao, pcap, pl⟩ : Pkt).sl = .slice pao n pcap by rw [← hpl])
      have HSQ := Lib.hid (show (⟨pi, pf, pt, qao, qcap, pl⟩ : Pkt).sl = .slice qao n qcap by rw [← hpl])
      rw [hpl] at hpo hqo hp6
      have a0 := hcl 0 (by omega); have a1 := hcl 1 (by omega); have a2 := hcl 2 (by omega); have a3 := hcl 3 (by omega)
      have d0 := hcv 0 (by omega); have d1 := hcv 1 (by omega); have d2 := hcv 2 (by omega); have d3 := hcv 3 (by omega)
      simp only [List.getElem?_cons_succ, List.getElem?_cons_zero, Nat.add_zero] at a0 a1 a2 a3 d0 d1 d2 d3
      rw [HSP.out] at a3
      rw [HSQ.out] at d3
      have hjj : (j : Int) < (sn : Int) := by omega
      have HP := Lib.hid hp; have HQ := Lib.hid hq; have HPO := Lib.hid hpo; have HQO := Lib.hid hqo; have HP6 := Lib.hid hp6; have HPL := Lib.hid hpl
      have SAME := Lib.hid (fun (b : Below wr.heap.size wr wr.drew) => psame_yes pi pf pt pl pao qao n pcap qcap hpl (by omega) wr.drew (hpo.rd.below b) (hqo.rd.below b))
      clear hp hq htq hcl hcv hpo hqo hp6 hpl
      go_wp2_with fail
      go_still_tail 14, (by kernel_rfl)
      change wpList _ _ _ _ _ wr.drew
      go_wp2_with fail
      refine (SAME.out (Below.refl _ _).drew).mono ?_; rintro e w2 ⟨rfl, b2⟩
      have bb := ((Below.refl wr.heap.size wr).drew).trans (b2.mono (Below.refl wr.heap.size wr).drew.size)
      have H2 := Lib.hid (H1.out.below bb)
      have BB := Lib.hid bb
      have PO2 := Lib.hid (HPO.out.below bb)
      clear c2 c3 a0 a1 a2 a3 d0 d1 d2 d3 b2 bb SAME
      have HGL := Lib.hid hgl; have HLT := Lib.hid hlt
      clear hfl hgl hlt hgv
      -- what holds of the twin's cells, however the bytes have turned
      have CK : ∀ w'', Keep (blk pao) w2 w'' → w''.cell? ⟨tb, 2, none⟩ = some (.slice (some ⟨gl, 0, none⟩) sn lc) ∧ w''.cell? ⟨gl, j * 4 + 3, none⟩ = some (.slice pao n pcap) ∧ w''.frozen? ⟨gl, j * 4 + 3, none⟩ = false ∧ tb < w''.heap.size ∧ gl < w''.heap.size ∧ w''.heap[tb]? = some (.cells (rowT hn nb (some ⟨gl, 0, none⟩) sn lc (some ⟨gv, 0, none⟩) sn wc) 37 (0, 0)) := fun w'' k => by
        obtain ⟨la', lc', wa', wc', g5, g6, g7, g8, g9, g10, g11⟩ := H1.out.out
        rw [HL1.out, HSN.out] at g5
        have e5 := H5.out
        rw [e5] at g5
        obtain rfl : la' = some ⟨gl, 0, none⟩ := by
          have e1 := congrArg (fun o => match o with | some (Obj.cells r _ _) => r[2]? | _ => none) g5
          simp only [List.getElem?_toArray, List.getElem?_cons_succ, List.getElem?_cons_zero, Option.some.injEq, Value.slice.injEq] at e1
          exact e1.1.symm
        have hU : ∀ g ∈ blk pao, tg1 g = 5 := fun g hg => g10 g (bs_mem.2 ⟨_, List.mem_of_getElem? HP.out, hg⟩)
        have h3 : tg1 gl = 3 := g8 gl (by simp [blk])
        have ht := H1.out.tt
        have k2 := (Keep.of_below BB.out (blk pao)).trans k
        have nt : tb ∉ blk pao := fun hm => by have := hU tb hm; omega
        have ng : gl ∉ blk pao := fun hm => by have := hU gl hm; omega
        obtain ⟨gl', e, _, hc, hf⟩ := H6.out.pkt HP.out
        cases e
        have x2 := cell_of_row wr tb 2 _ _ (0, 0) e5
        simp only [List.getElem?_toArray, List.getElem?_cons_zero, List.getElem?_cons_succ] at x2
        have x3 := hc 3 (by omega)
        simp only [List.getElem?_cons_succ, List.getElem?_cons_zero] at x3
        rw [HSP.out] at x3
        exact ⟨(k2.cell (a := ⟨tb, 2, none⟩) HLT.out nt).trans x2, (k2.cell (a := ⟨gl, j * 4 + 3, none⟩) HGL.out ng).trans x3, (k2.frozen (a := ⟨gl, j * 4 + 3, none⟩) HGL.out ng).trans (hf _), Nat.lt_of_lt_of_le HLT.out k2.size, Nat.lt_of_lt_of_le HGL.out k2.size, row_keep e5 k2 nt⟩
      have HCK := Lib.hid CK
      have HBR := Lib.hid (H1.out.lo); have HBW := Lib.hid (H2.out.lo)
      clear CK
      go_wp2_with fail
      go_loopw [5] (fun v5 w3 => ∃ (i : Nat) (l' : List Nat), v5 = .int .i64 (i : Int) ∧ i ≤ n ∧ Hid (Keep (blk pao) w2 w3) ∧ Hid (Own w3 B pao n pcap l')) (fun v5 _ => n - (intOf v5).toNat)
      case atStart => exact ⟨0, pl, rfl, Nat.zero_le _, Lib.hid (Keep.refl _ _), PO2⟩
      case round =>
        obtain ⟨i, l', rfl, hi, hk, hown⟩ := hrel
        obtain ⟨x2, x3, xf, xt, xg, _⟩ := HCK.out _ hk.out
        have hi0 : (0 : Int) ≤ (i : Int) := by omega
        have hnn : (n : Int) ≤ 65546 := by have := HP6.out; omega
        by_cases hin : i < n
        · obtain ⟨g, og, rfl, hg, hgl, hc, hf⟩ := hown.out.at_ i hin
          have hii : (i : Int) < (n : Int) := by omega
          clear hg
          go_wp2_with fail
          go_roundw
          case rel => exact ⟨i + 1, l'.set i 7, by go_num, by omega, Lib.hid (hk.out.trans (by simpa [blk] using Keep.setCell _ ⟨g, og + i, none⟩ (.int .u8 7))), Lib.hid (hown.out.set i 7 hin (by decide))⟩
          case measure => simp [intOf]; omega
        · obtain rfl : n = i := by omega
          clear hin hi
          go_upto_region 11 with (fail)
          have HHL : Hid (Holds wr [(⟨tb, 2, none⟩, .slice (some ⟨gl, 0, none⟩) sn lc)]) := Lib.hid (.cons x2 xt (.nil _))
          have HTG := Lib.hid (show tb ≠ gl from fun e => by have h1 := H1.out.tt; obtain ⟨la', lc', wa', wc', g5, g6, g7, g8, g9, g10, g11⟩ := H1.out.out; rw [HL1.out, HSN.out, H5.out] at g5; have e1 := congrArg (fun o => match o with | some (Obj.cells r _ _) => r[2]? | _ => none) g5; simp only [List.getElem?_toArray, List.getElem?_cons_succ, List.getElem?_cons_zero, Option.some.injEq, Value.slice.injEq] at e1; have h3 := g8 gl (by rw [← e1.1]; simp [blk]); rw [← e] at h3; omega)
          clear x2 x3 xf xt xg
          refine wp_region_held_drew (S := fun w' => Holds w' [(⟨tb, 2, none⟩, .slice (some ⟨gl, 0, none⟩) sn lc)]) (by kernel_rfl) (HHL.out.drew) (fun s0 => ?_)
          have BD : Hid (Below wr.heap.size wr wr.drew) := Lib.hid (Below.refl _ _).drew
          generalize wr.drew = wd at *
          have KD := Lib.hid (hk.out.trans (Keep.of_below BD.out _))
          have OD := Lib.hid (hown.out.below BD.out)
          obtain ⟨_, y3, _, _, _, _⟩ := HCK.out _ KD.out
          refine wpAnyH_take (i := 0) (v := .pointer (some ⟨tb, 0, none⟩)) rfl (by kernel_rfl) (by kernel_rfl) (by kernel_rfl) (fun _ _ _ h => h) (Or.inl ⟨by rfl, fun w' hw' => by go_simp⟩) s0 ?_
          try simp only [Act.put, List.getElem_toArray, List.getElem_cons_succ, List.getElem_cons_zero, List.setIfInBounds_toArray, List.set_cons_zero, List.set_cons_succ, Nat.zero_add, List.nil_append]
          refine wpAnyH_take (i := 1) (v := .pointer (some ⟨tb, 0, none⟩)) rfl (by kernel_rfl) (by kernel_rfl) (by kernel_rfl) (fun _ _ _ h => h) (Or.inl ⟨by rfl, fun w' hw' => by go_simp⟩) s0 ?_
          try simp only [Act.put, List.getElem_toArray, List.getElem_cons_succ, List.getElem_cons_zero, List.setIfInBounds_toArray, List.set_cons_zero, List.set_cons_succ, Nat.zero_add, List.nil_append]
          refine wpAnyH_take (i := 2) (v := .pointer (some ⟨tb, 2, none⟩)) rfl (by kernel_rfl) (by kernel_rfl) (by kernel_rfl) (fun _ _ _ h => h) (Or.inl ⟨by rfl, fun w' hw' => by go_simp⟩) s0 ?_
          try simp only [Act.put, List.getElem_toArray, List.getElem_cons_succ, List.getElem_cons_zero, List.setIfInBounds_toArray, List.set_cons_zero, List.set_cons_succ, Nat.zero_add, List.nil_append]
          refine wpAnyH_take (i := 3) (v := .slice (some ⟨gl, 0, none⟩) sn lc) rfl (by kernel_rfl) (by kernel_rfl) (by kernel_rfl) (fun _ _ _ h => h) (Or.inl ⟨by rfl, fun w' hw' => by have q0 := hw'.head; go_simp⟩) s0 ?_
          try simp only [Act.put, List.getElem_toArray, List.getElem_cons_succ, List.getElem_cons_zero, List.setIfInBounds_toArray, List.set_cons_zero, List.set_cons_succ, Nat.zero_add, List.nil_append]
          refine wpAnyH_take (i := 4) (v := .int .i64 (j : Int)) rfl (by kernel_rfl) (by kernel_rfl) (by kernel_rfl) (fun _ _ _ h => h) (Or.inl ⟨by rfl, fun w' hw' => by go_simp⟩) s0 ?_
          try simp only [Act.put, List.getElem_toArray, List.getElem_cons_succ, List.getElem_cons_zero, List.setIfInBounds_toArray, List.set_cons_zero, List.set_cons_succ, Nat.zero_add, List.nil_append]
          refine wpAnyH_take (i := 5) (v := .pointer (some ⟨tb, 0, none⟩)) rfl (by kernel_rfl) (by kernel_rfl) (by kernel_rfl) (fun _ _ _ h => h) (Or.inl ⟨by rfl, fun w' hw' => by go_simp⟩) s0 ?_
          try simp only [Act.put, List.getElem_toArray, List.getElem_cons_succ, List.getElem_cons_zero, List.setIfInBounds_toArray, List.set_cons_zero, List.set_cons_succ, Nat.zero_add, List.nil_append]
          refine wpAnyH_take (i := 6) (v := .pointer (some ⟨tb, 0, none⟩)) rfl (by kernel_rfl) (by kernel_rfl) (by kernel_rfl) (fun _ _ _ h => h) (Or.inl ⟨by rfl, fun w' hw' => by go_simp⟩) s0 ?_
          try simp only [Act.put, List.getElem_toArray, List.getElem_cons_succ, List.getElem_cons_zero, List.setIfInBounds_toArray, List.set_cons_zero, List.set_cons_succ, Nat.zero_add, List.nil_append]
          refine wpAnyH_take (i := 7) (v := .pointer (some ⟨tb, 2, none⟩)) rfl (by kernel_rfl) (by kernel_rfl) (by kernel_rfl) (fun _ _ _ h => h) (Or.inl ⟨by rfl, fun w' hw' => by go_simp⟩) s0 ?_
          try simp only [Act.put, List.getElem_toArray, List.getElem_cons_succ, List.getElem_cons_zero, List.setIfInBounds_toArray, List.set_cons_zero, List.set_cons_succ, Nat.zero_add, List.nil_append]
          refine wpAnyH_take (i := 8) (v := .slice (some ⟨gl, 0, none⟩) sn lc) rfl (by kernel_rfl) (by kernel_rfl) (by kernel_rfl) (fun _ _ _ h => h) (Or.inl ⟨by rfl, fun w' hw' => by have q0 := hw'.head; go_simp⟩) s0 ?_
          try simp only [Act.put, List.getElem_toArray, List.getElem_cons_succ, List.getElem_cons_zero, List.setIfInBounds_toArray, List.set_cons_zero, List.set_cons_succ, Nat.zero_add, List.nil_append]
          refine wpAnyH_take (i := 9) (v := .int .i64 (j : Int)) rfl (by kernel_rfl) (by kernel_rfl) (by kernel_rfl) (fun _ _ _ h => h) (Or.inl ⟨by rfl, fun w' hw' => by go_simp⟩) s0 ?_
          try simp only [Act.put, List.getElem_toArray, List.getElem_cons_succ, List.getElem_cons_zero, List.setIfInBounds_toArray, List.set_cons_zero, List.set_cons_succ, Nat.zero_add, List.nil_append]
          refine wpAnyH_take (i := 10) (v := .pointer (some ⟨gl, j * 4, none⟩)) rfl (by kernel_rfl) (by kernel_rfl) (by kernel_rfl) (fun _ _ _ h => h) (Or.inl ⟨by rfl, fun w' hw' => by go_simp⟩) s0 ?_
          try simp only [Act.put, List.getElem_toArray, List.getElem_cons_succ, List.getElem_cons_zero, List.setIfInBounds_toArray, List.set_cons_zero, List.set_cons_succ, Nat.zero_add, List.nil_append]
          refine wpAnyH_take (i := 11) (v := .pointer (some ⟨gl, j * 4 + 3, none⟩)) rfl (by kernel_rfl) (by kernel_rfl) (by kernel_rfl) (fun _ _ _ h => h) (Or.inl ⟨by rfl, fun w' hw' => by go_simp⟩) s0 ?_
          try simp only [Act.put, List.getElem_toArray, List.getElem_cons_succ, List.getElem_cons_zero, List.setIfInBounds_toArray, List.set_cons_zero, List.set_cons_succ, Nat.zero_add, List.nil_append]
          refine wpAnyH_ready (rs := [12, 13]) (by kernel_rfl) (by simp) ?_
          refine AllReadyH.cons rfl (fun K hK => ?_) (AllReadyH.cons rfl (fun K hK => ?_) AllReadyH.nil)
          · skip
            rw [if_pos (by rfl)]
            go_simp
            refine hK.out _ _ s0 (fun _ => ?_)
            clear hK K
            try simp only [Act.put, List.getElem_toArray, List.getElem_cons_succ, List.getElem_cons_zero, List.setIfInBounds_toArray, List.set_cons_zero, List.set_cons_succ, Nat.zero_add, List.nil_append]
            refine wpAnyH_ready (rs := [13]) (by kernel_rfl) (by simp) ?_
            refine AllReadyH.cons rfl (fun K hK => ?_) AllReadyH.nil
            rw [if_pos (by rfl)]
            go_simp
            have b3 : Below wd.heap.size wd (wd.alloc (.cells #[.int .u8 7, .int .u8 7] 5)) := below_alloc (Below.refl _ _) _
            have r3 := heap_alloc_new wd (.cells #[.int .u8 7, .int .u8 7] 5)
            have s1 := s0.below b3
            have KV := Lib.hid (KD.out.trans (Keep.of_below b3 _))
            have OV := Lib.hid (OD.out.below b3)
            have BV := Lib.hid (show w2.heap.size ≤ (wd.alloc (.cells #[.int .u8 7, .int .u8 7] 5)).heap.size from KV.out.size)
            generalize wd.alloc (.cells #[.int .u8 7, .int .u8 7] 5) = v3 at *
            obtain ⟨pb, hpb⟩ : ∃ q, q = wd.heap.size := ⟨_, rfl⟩
            rw [← hpb] at r3 ⊢
            have R3 := Lib.hid r3
            clear b3 r3 hpb
            try obtain ⟨_, y3, _, _, _, _⟩ := HCK.out _ KV.out
            refine hK.out _ _ s1 (fun _ => ?_)
            clear hK K
            try simp only [Act.put, List.getElem_toArray, List.getElem_cons_succ, List.getElem_cons_zero, List.setIfInBounds_toArray, List.set_cons_zero, List.set_cons_succ, Nat.zero_add, List.nil_append]
            refine wpAnyH_ready (rs := [14]) (by kernel_rfl) (by simp) ?_
            refine AllReadyH.cons rfl (fun K hK => ?_) AllReadyH.nil
            rw [if_pos (by rfl)]
            refine wp_app (.tmp 71) (.tmp 72) rfl rfl OV.out (xo := some ⟨pb, 0, none⟩) (m := 2) (c := 2) (ms := [7, 7]) rfl (rd77 R3.out) rfl (Nat.le_trans HBW.out BV.out) (by have := HP6.out; omega) ?_
            intro ao4 cap4 v4 own4 kp4 nw4
            have KA := Lib.hid (KV.out.trans kp4)
            obtain ⟨z2, z3, zf, zt, zg, zr⟩ := HCK.out _ KA.out
            have s4 : Holds v4 [(⟨tb, 2, none⟩, .slice (some ⟨gl, 0, none⟩) sn lc)] := .cons z2 zt (.nil _)
            have END1 := Lib.hid (H2.out.dataL HP.out KA.out own4 (fun g hg => (nw4 g hg).imp (fun h => h) (fun h => Nat.le_trans BV.out h)) ⟨lc, some ⟨gv, 0, none⟩, wc, by rw [HL1.out, HSN.out]; exact (HCK.out w2 (Keep.refl _ _)).2.2.2.2.2⟩)
            have KE := Lib.hid ((KA.out.mono (T := gl :: blk pao) (fun q hq => .inl (List.mem_cons_of_mem _ hq))).trans ((Keep.setCell v4 ⟨gl, j * 4 + 3, none⟩ (.slice ao4 (n + 2) cap4)).mono (by simp)))
            clear own4 kp4 nw4 zr
            refine hK.out _ _ s4 (fun _ => ?_)
            clear hK K
            try simp only [Act.put, List.getElem_toArray, List.getElem_cons_succ, List.getElem_cons_zero, List.setIfInBounds_toArray, List.set_cons_zero, List.set_cons_succ, Nat.zero_add, List.nil_append]
            refine wpAnyH_take (i := 15) (v := .pointer (some ⟨gl, j * 4, none⟩)) rfl (by kernel_rfl) (by kernel_rfl) (by kernel_rfl) (fun _ _ _ h => h) (Or.inl ⟨by rfl, fun w' hw' => by go_simp⟩) s4 ?_
            try simp only [Act.put, List.getElem_toArray, List.getElem_cons_succ, List.getElem_cons_zero, List.setIfInBounds_toArray, List.set_cons_zero, List.set_cons_succ, Nat.zero_add, List.nil_append]
            refine wpAnyH_take (i := 16) (v := .pointer (some ⟨gl, j * 4 + 3, none⟩)) rfl (by kernel_rfl) (by kernel_rfl) (by kernel_rfl) (fun _ _ _ h => h) (Or.inl ⟨by rfl, fun w' hw' => by go_simp⟩) s4 ?_
            try simp only [Act.put, List.getElem_toArray, List.getElem_cons_succ, List.getElem_cons_zero, List.setIfInBounds_toArray, List.set_cons_zero, List.set_cons_succ, Nat.zero_add, List.nil_append]
            refine wpAnyH_ready (rs := [17]) (by kernel_rfl) (by simp) ?_
            refine AllReadyH.cons rfl (fun K hK => ?_) AllReadyH.nil
            rw [if_pos (by rfl)]
            go_simp
            have s5 := s4.set ⟨gl, j * 4 + 3, none⟩ (.slice ao4 (n + 2) cap4) (by intro p hp; simp only [List.mem_cons, List.not_mem_nil, or_false] at hp; subst hp; intro e; simp only [Addr.mk.injEq] at e; exact HTG.out e.1)
            refine hK.out _ _ s5 (fun _ => ?_)
            clear hK K
            try simp only [Act.put, List.getElem_toArray, List.getElem_cons_succ, List.getElem_cons_zero, List.setIfInBounds_toArray, List.set_cons_zero, List.set_cons_succ, Nat.zero_add, List.nil_append]
            refine wpAnyH_done (by kernel_rfl) ?_ _
            clear s0 s1 s4 s5 z2 z3 zf zt zg
            try clear y3
            generalize v4.setCell ⟨gl, j * 4 + 3, none⟩ (.slice ao4 (n + 2) cap4) = v5 at *
            go_wp2_with fail
            go_roundw
            case rel =>
              refine ⟨j + 1, by go_num, by omega, Lib.hid ⟨_, _, END1.out, by rw [List.length_set]; exact HL1.out, fun k hk => ?_, fun k p hk hp => ?_, (B1.out.trans (BB.out.mono HBR.out)).trans (KE.out.below HBW.out (fun g hg => ?_))⟩⟩
              · rw [List.getElem?_set_ne (by omega)]; exact HK1.out k (by omega)
              · rw [List.getElem?_set_ne (by omega)] at hp; exact HD1.out k p (by omega) hp
              · rcases List.mem_cons.1 hg with rfl | hg
                · exact (H6.out.blocks _ (List.mem_append.2 (.inl (by simp [blk])))).1
                · exact (HPO.out.lt_size g hg).1
            case measure => simp [intOf]; omega
          · skip
            rw [if_pos (by rfl)]
            go_simp
            have b3 : Below wd.heap.size wd (wd.alloc (.cells #[.int .u8 7, .int .u8 7] 5)) := below_alloc (Below.refl _ _) _
            have r3 := heap_alloc_new wd (.cells #[.int .u8 7, .int .u8 7] 5)
            have s1 := s0.below b3
            have KV := Lib.hid (KD.out.trans (Keep.of_below b3 _))
            have OV := Lib.hid (OD.out.below b3)
            have BV := Lib.hid (show w2.heap.size ≤ (wd.alloc (.cells #[.int .u8 7, .int .u8 7] 5)).heap.size from KV.out.size)
            generalize wd.alloc (.cells #[.int .u8 7, .int .u8 7] 5) = v3 at *
            obtain ⟨pb, hpb⟩ : ∃ q, q = wd.heap.size := ⟨_, rfl⟩
            rw [← hpb] at r3 ⊢
            have R3 := Lib.hid r3
            clear b3 r3 hpb
            try obtain ⟨_, y3, _, _, _, _⟩ := HCK.out _ KV.out
            refine hK.out _ _ s1 (fun _ => ?_)
            clear hK K
            try simp only [Act.put, List.getElem_toArray, List.getElem_cons_succ, List.getElem_cons_zero, List.setIfInBounds_toArray, List.set_cons_zero, List.set_cons_succ, Nat.zero_add, List.nil_append]
            refine wpAnyH_ready (rs := [12]) (by kernel_rfl) (by simp) ?_
            refine AllReadyH.cons rfl (fun K hK => ?_) AllReadyH.nil
            rw [if_pos (by rfl)]
            go_simp
            refine hK.out _ _ s1 (fun _ => ?_)
            clear hK K
            try simp only [Act.put, List.getElem_toArray, List.getElem_cons_succ, List.getElem_cons_zero, List.setIfInBounds_toArray, List.set_cons_zero, List.set_cons_succ, Nat.zero_add, List.nil_append]
            refine wpAnyH_ready (rs := [14]) (by kernel_rfl) (by simp) ?_
            refine AllReadyH.cons rfl (fun K hK => ?_) AllReadyH.nil
            rw [if_pos (by rfl)]
            refine wp_app (.tmp 71) (.tmp 72) rfl rfl OV.out (xo := some ⟨pb, 0, none⟩) (m := 2) (c := 2) (ms := [7, 7]) rfl (rd77 R3.out) rfl (Nat.le_trans HBW.out BV.out) (by have := HP6.out; omega) ?_
            intro ao4 cap4 v4 own4 kp4 nw4
            have KA := Lib.hid (KV.out.trans kp4)
            obtain ⟨z2, z3, zf, zt, zg, zr⟩ := HCK.out _ KA.out
            have s4 : Holds v4 [(⟨tb, 2, none⟩, .slice (some ⟨gl, 0, none⟩) sn lc)] := .cons z2 zt (.nil _)
            have END1 := Lib.hid (H2.out.dataL HP.out KA.out own4 (fun g hg => (nw4 g hg).imp (fun h => h) (fun h => Nat.le_trans BV.out h)) ⟨lc, some ⟨gv, 0, none⟩, wc, by rw [HL1.out, HSN.out]; exact (HCK.out w2 (Keep.refl _ _)).2.2.2.2.2⟩)
            have KE := Lib.hid ((KA.out.mono (T := gl :: blk pao) (fun q hq => .inl (List.mem_cons_of_mem _ hq))).trans ((Keep.setCell v4 ⟨gl, j * 4 + 3, none⟩ (.slice ao4 (n + 2) cap4)).mono (by simp)))
            clear own4 kp4 nw4 zr
            refine hK.out _ _ s4 (fun _ => ?_)
            clear hK K
            try simp only [Act.put, List.getElem_toArray, List.getElem_cons_succ, List.getElem_cons_zero, List.setIfInBounds_toArray, List.set_cons_zero, List.set_cons_succ, Nat.zero_add, List.nil_append]
            refine wpAnyH_take (i := 15) (v := .pointer (some ⟨gl, j * 4, none⟩)) rfl (by kernel_rfl) (by kernel_rfl) (by kernel_rfl) (fun _ _ _ h => h) (Or.inl ⟨by rfl, fun w' hw' => by go_simp⟩) s4 ?_
            try simp only [Act.put, List.getElem_toArray, List.getElem_cons_succ, List.getElem_cons_zero, List.setIfInBounds_toArray, List.set_cons_zero, List.set_cons_succ, Nat.zero_add, List.nil_append]
            refine wpAnyH_take (i := 16) (v := .pointer (some ⟨gl, j * 4 + 3, none⟩)) rfl (by kernel_rfl) (by kernel_rfl) (by kernel_rfl) (fun _ _ _ h => h) (Or.inl ⟨by rfl, fun w' hw' => by go_simp⟩) s4 ?_
            try simp only [Act.put, List.getElem_toArray, List.getElem_cons_succ, List.getElem_cons_zero, List.setIfInBounds_toArray, List.set_cons_zero, List.set_cons_succ, Nat.zero_add, List.nil_append]
            refine wpAnyH_ready (rs := [17]) (by kernel_rfl) (by simp) ?_
            refine AllReadyH.cons rfl (fun K hK => ?_) AllReadyH.nil
            rw [if_pos (by rfl)]
            go_simp
            have s5 := s4.set ⟨gl, j * 4 + 3, none⟩ (.slice ao4 (n + 2) cap4) (by intro p hp; simp only [List.mem_cons, List.not_mem_nil, or_false] at hp; subst hp; intro e; simp only [Addr.mk.injEq] at e; exact HTG.out e.1)
            refine hK.out _ _ s5 (fun _ => ?_)
            clear hK K
            try simp only [Act.put, List.getElem_toArray, List.getElem_cons_succ, List.getElem_cons_zero, List.setIfInBounds_toArray, List.set_cons_zero, List.set_cons_succ, Nat.zero_add, List.nil_append]
            refine wpAnyH_done (by kernel_rfl) ?_ _
            clear s0 s1 s4 s5 z2 z3 zf zt zg
            try clear y3
            generalize v4.setCell ⟨gl, j * 4 + 3, none⟩ (.slice ao4 (n + 2) cap4) = v5 at *
            go_wp2_with fail
            go_roundw
            case rel =>
              refine ⟨j + 1, by go_num, by omega, Lib.hid ⟨_, _, END1.out, by rw [List.length_set]; exact HL1.out, fun k hk => ?_, fun k p hk hp => ?_, (B1.out.trans (BB.out.mono HBR.out)).trans (KE.out.below HBW.out (fun g hg => ?_))⟩⟩
              · rw [List.getElem?_set_ne (by omega)]; exact HK1.out k (by omega)
              · rw [List.getElem?_set_ne (by omega)] at hp; exact HD1.out k p (by omega) hp
              · rcases List.mem_cons.1 hg with rfl | hg
                · exact (H6.out.blocks _ (List.mem_append.2 (.inl (by simp [blk])))).1
                · exact (HPO.out.lt_size g hg).1
            case measure => simp [intOf]; omega
    · obtain rfl : sn = j := by omega
      have W1 : Hid (∃ tg L', TwW wr B tb tg hn nb room S made T D made T L' V ∧ Below B w wr) := Lib.hid ⟨_, _, H1.out, B1.out⟩
      obtain ⟨m, hm⟩ : ∃ m, D.length = m := ⟨_, rfl⟩
      have HM := Lib.hid hm
      clear hm H6 H7 H5 H1 HL1 HK1 HD1 B1
      go_wp2_with fail
      clear c2 c3 hlt hj0 hjn hj
      go_loopw [6] (fun v6 w3 => ∃ k : Nat, v6 = .int .i64 (k : Int) ∧ k ≤ m ∧ Hid (∃ tg L', TwW w3 B tb tg hn nb room S made T D made T L' V ∧ Below B w w3)) (fun v6 _ => m - (intOf v6).toNat)
      case atStart => exact ⟨0, rfl, Nat.zero_le _, W1⟩
      case round =>
        clear W1
        obtain ⟨k, rfl, hk, hI⟩ := hrel
        obtain ⟨tg1, L1, hw1, b1⟩ := hI.out
        obtain ⟨c0, c1, hlt⟩ := hw1.cells
        obtain ⟨Bs, hnet, hBt⟩ := hw1.net
        obtain ⟨lo, lc, hr, hrt⟩ := hw1.rn
        obtain ⟨hr1, hr2, hSr, hinc, hids, hlens⟩ := hnet.facts
        have hnl := hr.lt
        have r2 := hr.at_ 2
        simp only [rowR, List.getElem?_toArray, List.getElem?_cons_succ, List.getElem?_cons_zero] at r2
        rw [HM.out] at r2
        have hk0 : (0 : Int) ≤ (k : Int) := by omega
        have hmb : (m : Int) ≤ 4096 := by have := hr.few; have := HM.out; omega
        have H1 := Lib.hid hw1; have B1 := Lib.hid b1
        by_cases hkm : k < m
        · obtain ⟨q, hq⟩ : ∃ q, D[k]? = some q := ⟨_, List.getElem?_eq_getElem (by rw [HM.out]; exact hkm)⟩
          obtain ⟨p, hp, htq⟩ := HAL.out.symm.at_ hq
          obtain ⟨g, rfl, hg, hc⟩ := hr.pkt hq
          have d0 := hc 0 (by omega)
          simp only [List.getElem?_cons_succ, List.getElem?_cons_zero, Nat.add_zero] at d0
          have hkk : (k : Int) < (m : Int) := by omega
          obtain ⟨e1, e2, e3, e4⟩ := told_eq htq
          obtain ⟨pi, pf, pt, pao, pcap, pl⟩ := p
          obtain ⟨qi, qf, qt, qao, qcap, ql⟩ := q
          simp only at e1 e2 e3 e4
          subst e1 e2 e3 e4
          have hmem := List.mem_of_getElem? hp
          have hp6 := hlens _ hmem
          have hpid := hids _ hmem
          simp only at hp6 hpid d0
          obtain ⟨n, hpl⟩ : ∃ n, ql.length = n := ⟨_, rfl⟩
          rw [hpl] at hp6
          have HAG := Lib.hid (show ∀ ao cap, agv ⟨qi, qf, qt, ao, cap, ql⟩ = .agg #[.int .u64 (qi : Int), .int .i64 qf, .int .i64 qt, .slice ao n cap] from fun ao cap => by rw [← hpl])
          have LK := Lib.hid (show ∀ w'', Bel wr.heap.size wr w'' → Calls Try.prog 20 #[.pointer (some ⟨hn, 0, none⟩), .int .u64 (qi : Int)] w'' (fun e w3 => ∃ ao cap, e = .returned (.tuple #[.agg #[.int .u64 (qi : Int), .int .i64 qf, .int .i64 qt, .slice ao n cap], .int .i64 0]) ∧ Own w3 w''.heap.size ao n cap ql ∧ Below w''.heap.size w'' w3) from fun w'' hb => by
            have CA := look_any w'' qi (by have := HMD.out; omega) (hnet.below hb.b)
            have hlk : look S qi = some ⟨qi, qf, qt, pao, pcap, ql⟩ := look_of_mem hinc hmem
            rw [show foundP S qi = ⟨qi, qf, qt, pao, pcap, ql⟩ by unfold foundP; rw [hlk]; rfl, show foundE S qi = 0 by unfold foundE; rw [hlk]; rfl] at CA
            dsimp only at CA
            rw [hpl] at CA
            refine CA.mono ?_; rintro e w3 ⟨ao, cap, h1, h2, h3⟩
            rw [HAG.out] at h1
            exact ⟨ao, cap, h1, h2, h3⟩)
          have HPL := Lib.hid hpl; have HP6 := Lib.hid hp6; have HQ := Lib.hid hq
          clear hc hp hpl hp6 hpid hmem hq hnet hBt hr hrt hr1 hr2 hSr hinc hids hlens hI hw1 b1

          go_upto_region 15 with (fail)
          have HSK := Lib.hid (show ∀ w', Bel wr.heap.size wr w' → (w'.cell? ⟨tb, 0, none⟩ = some (.pointer (some ⟨hn, 0, none⟩)) ∧ w'.cell? ⟨tb, 1, none⟩ = some (.pointer (some ⟨nb, 0, none⟩)) ∧ w'.cell? ⟨nb, 2, none⟩ = some (.slice (some ⟨g, 0, none⟩) m lc) ∧ w'.cell? ⟨g, k * 4, none⟩ = some (.int .u64 (qi : Int)) ∧ tb < w'.heap.size ∧ nb < w'.heap.size ∧ g < w'.heap.size) from fun w' h => ⟨(h.b.cell hlt).trans c0, (h.b.cell hlt).trans c1, (h.b.cell hnl).trans r2, (h.b.cell hg).trans d0, Nat.lt_of_lt_of_le hlt h.b.size, Nat.lt_of_lt_of_le hnl h.b.size, Nat.lt_of_lt_of_le hg h.b.size⟩)
          have hSw := HSK.out _ (Bel.refl (Nat.le_refl _))
          clear c0 c1 r2 d0 hlt hnl hg
          go_cut [7, 8] from 89 to 106 (fun s7 s8 wx => ∃ bX ao cap, s7 = .pointer (some ⟨bX, 0, none⟩) ∧ s8 = .int .i64 0 ∧ wx.cell? ⟨bX, 0, none⟩ = some (.int .u64 (qi : Int)) ∧ wx.cell? ⟨bX, 1, none⟩ = some (.int .i64 qf) ∧ wx.cell? ⟨bX, 2, none⟩ = some (.int .i64 qt) ∧ wx.cell? ⟨bX, 3, none⟩ = some (.slice ao n cap) ∧ bX < wx.heap.size ∧ Hid (Rd wx ao ql) ∧ Hid (Bel wr.heap.size wr wx))
          case first =>
            as_aux_lemma =>
              go_region_held3 (fun w' => w'.cell? ⟨tb, 0, none⟩ = some (.pointer (some ⟨hn, 0, none⟩)) ∧ w'.cell? ⟨tb, 1, none⟩ = some (.pointer (some ⟨nb, 0, none⟩)) ∧ w'.cell? ⟨nb, 2, none⟩ = some (.slice (some ⟨g, 0, none⟩) m lc) ∧ w'.cell? ⟨g, k * 4, none⟩ = some (.int .u64 (qi : Int)) ∧ tb < w'.heap.size ∧ nb < w'.heap.size ∧ g < w'.heap.size)
                (first | with_reducible assumption | (refine HSK.out _ ?_; ((repeat (first | with_reducible exact HB3.out | with_reducible exact Bel.refl (Nat.le_refl _) | with_reducible refine Bel.alloc ?_ _ | with_reducible refine Bel.drew ?_ | with_reducible refine Bel.set ?_ _ _ (by simp <;> omega))); done)))
                (first
                  | (go_at_call 20; with_reducible refine (LK.out (wr.drew) ((Bel.refl (Nat.le_refl _)).drew)).mono ?_; rintro e w3 ⟨ao3, cap3, rfl, own3, b3⟩; have HB3 := Lib.hid (show Bel wr.heap.size wr w3 from ⟨((Bel.refl (Nat.le_refl _)).drew).b.trans (b3.mono ((Bel.refl (Nat.le_refl _)).drew).b.size), Nat.le_refl _⟩); have hl3 := HB3.out.b.size; have OW3 := Lib.hid own3; have hsz3 : (wr.drew).heap.size = wr.heap.size := (by simp); have hb3s := b3.size; rw [hsz3] at hb3s; clear own3 b3)
                  | (go_at_call 20; with_reducible refine (LK.out ((wr.alloc (.cells #[.int .u64 0, .int .i64 0, .int .i64 0, .slice none 0 0] 52)).drew) (((Bel.refl (Nat.le_refl _)).alloc _).drew)).mono ?_; rintro e w3 ⟨ao3, cap3, rfl, own3, b3⟩; have HB3 := Lib.hid (show Bel wr.heap.size wr w3 from ⟨(((Bel.refl (Nat.le_refl _)).alloc _).drew).b.trans (b3.mono (((Bel.refl (Nat.le_refl _)).alloc _).drew).b.size), Nat.le_refl _⟩); have hl3 := HB3.out.b.size; have OW3 := Lib.hid own3; have hsz3 : ((wr.alloc (.cells #[.int .u64 0, .int .i64 0, .int .i64 0, .slice none 0 0] 52)).drew).heap.size = wr.heap.size + 1 := (by simp); have hb3s := b3.size; rw [hsz3] at hb3s; have z0 : w3.cell? ⟨wr.heap.size, 0, none⟩ = some (.int .u64 0) := (b3.cell (p := ⟨wr.heap.size, 0, none⟩) (by simp)).trans (by go_simp); have y0 : w3.frozen? ⟨wr.heap.size, 0, none⟩ = false := (b3.frozen (p := ⟨wr.heap.size, 0, none⟩) (by simp)).trans (by go_simp); have z1 : w3.cell? ⟨wr.heap.size, 1, none⟩ = some (.int .i64 0) := (b3.cell (p := ⟨wr.heap.size, 1, none⟩) (by simp)).trans (by go_simp); have y1 : w3.frozen? ⟨wr.heap.size, 1, none⟩ = false := (b3.frozen (p := ⟨wr.heap.size, 1, none⟩) (by simp)).trans (by go_simp); have z2 : w3.cell? ⟨wr.heap.size, 2, none⟩ = some (.int .i64 0) := (b3.cell (p := ⟨wr.heap.size, 2, none⟩) (by simp)).trans (by go_simp); have y2 : w3.frozen? ⟨wr.heap.size, 2, none⟩ = false := (b3.frozen (p := ⟨wr.heap.size, 2, none⟩) (by simp)).trans (by go_simp); have z3 : w3.cell? ⟨wr.heap.size, 3, none⟩ = some (.slice none 0 0) := (b3.cell (p := ⟨wr.heap.size, 3, none⟩) (by simp)).trans (by go_simp); have y3 : w3.frozen? ⟨wr.heap.size, 3, none⟩ = false := (b3.frozen (p := ⟨wr.heap.size, 3, none⟩) (by simp)).trans (by go_simp); have hlx : wr.heap.size < w3.heap.size := (by omega); have OB3 := Lib.hid (show ∀ g ∈ blk ao3, g = wr.heap.size → False from fun g hg e => (by have h1 := (OW3.out.lt_size g hg).1; rw [hsz3] at h1; omega)); clear own3 b3))
              all_goals go_wp2_with fail
              all_goals go_meet
              all_goals
                refine ⟨_, ao3, cap3, rfl, rfl, by go_simp, by go_simp, by go_simp, by go_simp, by first | omega | (simp <;> omega), Lib.hid ?_, Lib.hid (show Bel wr.heap.size wr _ from by ((repeat (first | with_reducible exact HB3.out | with_reducible exact Bel.refl (Nat.le_refl _) | with_reducible refine Bel.alloc ?_ _ | with_reducible refine Bel.drew ?_ | with_reducible refine Bel.set ?_ _ _ (by simp <;> omega))); done))⟩
                first
                  | with_reducible exact OW3.out.rd.below (below_alloc (Below.refl _ _) _)
                  | with_reducible exact OW3.out.rd.keep (((((Keep.refl [wr.heap.size] w3).put _ _ (List.mem_singleton_self _)).put _ _ (List.mem_singleton_self _)).put _ _ (List.mem_singleton_self _)).put _ _ (List.mem_singleton_self _)) (fun g hg hm => OB3.out g hg (List.mem_singleton.1 hm))
          case rest =>
            obtain ⟨bX, ao3, cap3, rfl, rfl, x0, x1, x2, x3, hbx, RDX, BLX⟩ := hcut
            clear HSK hSw LK
            have H3 := Lib.hid (H1.out.below BLX.out.b)
            obtain ⟨_, c1, hlt⟩ := H3.out.cells
            obtain ⟨lo, lc2, hr, _⟩ := H3.out.rn
            have hnl := hr.lt
            have r2 := hr.at_ 2
            simp only [rowR, List.getElem?_toArray, List.getElem?_cons_succ, List.getElem?_cons_zero] at r2
            rw [HM.out] at r2
            obtain ⟨g2, rfl, hg, hc⟩ := hr.pkt HQ.out
            have d0 := hc 0 (by omega); have d1 := hc 1 (by omega); have d2 := hc 2 (by omega); have d3 := hc 3 (by omega)
            simp only [List.getElem?_cons_succ, List.getElem?_cons_zero, Nat.add_zero] at d0 d1 d2 d3
            rw [show (⟨qi, qf, qt, qao, qcap, ql⟩ : Pkt).sl = .slice qao n qcap by rw [← HPL.out]] at d3
            have hqo := hr.pk.own _ (List.mem_of_getElem? HQ.out)
            have SAME := Lib.hid (fun (b : Below wc.heap.size wc wc.drew) => psame_yes qi qf qt ql ao3 qao n cap3 qcap HPL.out (by have := HP6.out; omega) wc.drew (RDX.out.below b) (hqo.rd.below b))
            clear hr hc hqo
            go_wp2_with fail
            go_still_tail 11, (by kernel_rfl)
            change wpList _ _ _ _ _ wc.drew
            go_wp2_with fail
            refine (SAME.out (Below.refl _ _).drew).mono ?_; rintro e w4 ⟨rfl, b4⟩
            have b5 := ((Below.refl wc.heap.size wc).drew).trans (b4.mono (Below.refl wc.heap.size wc).drew.size)
            have H5 := Lib.hid (H3.out.below b5)
            have B5 := Lib.hid (B1.out.trans (BLX.out.b.trans (b5.mono BLX.out.b.size) |>.mono H1.out.lo))
            clear b4 b5 SAME c1 r2 d0 d1 d2 d3 x0 x1 x2 x3
            go_wp2_with fail
            go_roundw
            case rel => exact ⟨k + 1, by go_num, by omega, Lib.hid ⟨_, _, H5.out, B5.out⟩⟩
            case measure => simp [intOf]; omega
        · obtain rfl : m = k := by omega
          clear hkm
          go_wp2_with fail
          go_ret
          exact ⟨rfl, B1.out⟩
end
end Go.Proofs.Ythanjfnpohhebaa
