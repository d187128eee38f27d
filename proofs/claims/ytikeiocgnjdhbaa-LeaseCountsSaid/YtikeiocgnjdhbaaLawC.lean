/- LeaseCounts: the walk (gen_lawc.py writes it). -/
import Derived.Test.YtikeiocgnjdhbaaAy
import Derived.Test.YtikeiocgnjdhbaaArg
namespace Go.Proofs.Ytikeiocgnjdhbaa
open Go.RowKit Go.Sort
set_option linter.unusedVariables false
set_option linter.unusedSimpArgs false
set_option maxRecDepth 100000

theorem TbR.regrown {w w' : World} {b : Nat} {T : Tb} (h : TbR w b T) (hw : ∃ p : Regrown, w' = grow (redrawn w p.d) p.os) : TbR w' b T := by
  obtain ⟨p, rfl⟩ := hw
  exact h.keep (below_regrown w p.d p.os)
/-- the table behind k renewals that were asked for -/
structure CT (k : Nat) (T : Tb) : Prop where
  ok : T.Ok
  v : T.ver ≤ 1 + k
  o : T.o 32 = 2
  m1 : T.m 1 = true
  m2 : T.m 2 = true
theorem CT.zero : CT 0 (newT 4) := ⟨newT_ok 4 (by omega) (by omega), by show (1 : Int) ≤ 1 + (0 : Nat); omega, by decide +kernel, by decide +kernel, by decide +kernel⟩
theorem CT.more {k : Nat} {T : Tb} (h : CT k T) : CT (k + 1) T := ⟨h.ok, by have := h.v; omega, h.o, h.m1, h.m2⟩
theorem CT.refuse {k : Nat} {T : Tb} (h : CT k T) (hk : k ≤ 100) (c : Int) : refuse T ⟨1, 2, 0, 0, 0, c, 0⟩ = if c = T.r 2 + 1 then 0 else 144 := by
  have hv := h.v
  unfold Go.Proofs.Ytikeiocgnjdhbaa.refuse
  simp only
  rw [if_neg (by rintro (h1 | h1 | h1 | h1); omega; omega; cases h1; omega), show (2 : Int).toNat = 2 from rfl, h.m2, if_neg (by simp), if_pos trivial]
theorem CT.step {k : Nat} {T : Tb} (h : CT k T) (hk : k < 100) {c : Int} (c0 : 0 ≤ c) (c1 : c ≤ 4294967295) (hc : c = T.r 2 + 1) : CT (k + 1) (behindT T ⟨1, 2, 0, 0, 0, c, 0⟩) ∧ (behindT T ⟨1, 2, 0, 0, 0, c, 0⟩).own = T.own ∧ (behindT T ⟨1, 2, 0, 0, 0, c, 0⟩).inc = T.inc ∧ (behindT T ⟨1, 2, 0, 0, 0, c, 0⟩).mem = T.mem := by
  have h0 : Go.Proofs.Ytikeiocgnjdhbaa.refuse T ⟨1, 2, 0, 0, 0, c, 0⟩ = 0 := by rw [h.refuse (by omega), if_pos hc]
  have hok := ok_behind h.ok (D := ⟨1, 2, 0, 0, 0, c, 0⟩) c0 c1 h0
  have e : behindT T ⟨1, 2, 0, 0, 0, c, 0⟩ = (T.setVer (T.ver + 1)).setRen 2 c := by unfold behindT; rw [if_pos rfl]; rfl
  refine ⟨⟨hok, ?_, ?_, ?_, ?_⟩, ?_, ?_, ?_⟩ <;> rw [e]
  · have := h.v; show T.ver + 1 ≤ 1 + ((k + 1 : Nat) : Int); omega
  · exact h.o
  · exact h.m1
  · exact h.m2
theorem CT.take {k : Nat} {T : Tb} (h : CT k T) (hk : k ≤ 100) (s : Int) : Go.Proofs.Ytikeiocgnjdhbaa.refuse T ⟨3, 1, 2, 32, 1, 0, s⟩ = if T.r 2 = s then 0 else 142 := by
  have hv := h.v
  rw [refuse_eq (.inr rfl) (q := 1) rfl (by omega) (by omega) h.m1]
  unfold arcNo
  have hall : allB T 2 32 (np 32 1) = true := by
    have e : np 32 1 = 1 := by decide
    rw [e]
    show (List.range 1).all _ = true
    simp [List.range_succ, ownB, h.o, isN]
  simp only [hall]
  rw [if_neg (by rintro (h | h); revert h; decide; cases h), if_neg (by rintro (h | h); cases h; cases h), show (2 : Int).toNat = 2 from rfl]
  by_cases e : T.r 2 = s
  · rw [if_neg (fun h => h.2 e), if_pos e]
  · rw [if_pos ⟨trivial, e⟩, if_neg e]

set_option maxHeartbeats 8000000 in
theorem leaseCounts_law (ao : Option Addr) (n cap : Nat) (l : List Int) (hl : l.length = n) (hc : n ≤ cap) (hm : cap ≤ maxLen) (hzn : n ≤ 35184372088832) (seen : Int) (ws : (Lit.int .u32 seen).wf = true) (w : World) (hr : IntsRd w ao l) :
    Calls Try.prog 8 #[.slice ao n cap, .int .u32 seen] w (LawOk w) := by
  have hseen := bounds_u32 ws
  have HR := Lib.hid hr
  have HLn := Lib.hid hl
  have hni : (n : Int) ≤ 35184372088832 := by omega
  have HM := Lib.hid hm
  clear ws hr hl hm hc hzn
  have hz := zero_run
  have NW := Lib.hid (fun w => new_yes 4 (by omega) (by omega) w)
  go_enter Try.func8, Try.ntmps8
  go_wp2_with fail
  refine (NW.out _).mono ?_
  rintro e w1 ⟨rfl, l1⟩
  obtain ⟨h2, l2, hlt2⟩ := laid_tb (w := w1) (T := newT 4) (U := Tb.zero)
  have H1 := Lib.hid (TbR.new w1 Tb.zero)
  have HT := Lib.hid h2
  have sT := newT_sz 4
  have HCT := Lib.hid CT.zero
  have HW := Lib.hid (below_next l1 l2)
  have HbT := Lib.hid (l1.size)
  clear h2 l2 l1 NW
  generalize newT 4 = T0 at *
  go_upto_region 2 with (first
    | (refine store_tb (U := T0) rfl rfl rfl rfl H1.out Tb.zero_sz sT ?_))
  clear H1
  generalize (w1.alloc (.cells ⟨Tb.zero.list⟩ 29)).setRow w1.heap.size ⟨T0.list⟩ = W2 at *
  generalize w1.heap.size = bT at *
  go_wp2_with fail
  refine (alive_any _).mono ?_
  rintro e w3 ⟨rfl, l3⟩
  replace HT := Lib.hid (HT.out.keep l3)
  replace HW := Lib.hid (below_next HW.out l3)
  have hbT : bT < w3.heap.size := Nat.lt_of_lt_of_le hlt2 l3.size
  clear l3 hlt2
  go_wp2_with fail
  go_loopw [7, 8, 9] (fun i _ _ wr => ∃ (k : Nat) (T : Tb), k ≤ 100 ∧ i = .int .i64 (k : Int) ∧ CT k T ∧ TbR wr bT T ∧ Keep [bT] w3 wr) (fun i _ _ _ => 100 - (intOf i).toNat)
  case atStart => exact ⟨0, _, Nat.zero_le _, rfl, HCT.out, HT.out, Keep.refl _ _⟩
  case round =>
    obtain ⟨k, T, hk, rfl, hct, hT, hK⟩ := hrel
    clear HT HCT sT
    have HT := Lib.hid hT
    have HK := Lib.hid hK
    have HCT := Lib.hid hct
    have HWr := Lib.hid (HW.out.trans (hK.below (B := w.heap.size) (by have := HW.out.size; omega) (by simp; exact HbT.out)))
    have HRr := Lib.hid (HR.out.below HWr.out)
    have hbr : bT < wr.heap.size := hT.lt
    have sT := hct.ok.sz
    clear hT hK hct
    obtain ⟨cb, hcb⟩ : ∃ cb : Bool, cb = (decide ((k : Int) < (n : Int)) && decide ((k : Int) < 100)) := ⟨_, rfl⟩
    have HCB := Lib.hid hcb
    clear hcb
    go_upto_region 5 with (fail)
    go_cut [29] from 22 to 28 (fun s wx => s = .bool cb ∧ wr = wx)
    case first =>
      as_aux_lemma =>
        have h := HCB.out
        by_cases h1 : k < n
        · have e1 : decide ((k : Int) < (n : Int)) = true := by simpa using h1
          by_cases h2 : k < 100
          · have e2 : decide ((k : Int) < 100) = true := by simp; omega
            rw [e1, e2] at h
            obtain rfl : cb = true := by simpa using h
            clear h HCB
            go_wp2_with fail
            go_meet
            case rel => exact ⟨rfl, rfl⟩
          · have e2 : decide ((k : Int) < 100) = false := by simp; omega
            rw [e1, e2] at h
            obtain rfl : cb = false := by simpa using h
            clear h HCB
            go_wp2_with fail
            go_meet
            case rel => exact ⟨rfl, rfl⟩
        · have e1 : decide ((k : Int) < (n : Int)) = false := by simp; omega
          rw [e1] at h
          obtain rfl : cb = false := by simpa using h
          clear h HCB
          go_wp2_with fail
          go_meet
          case rel => exact ⟨rfl, rfl⟩
    case rest =>
      obtain ⟨rfl, rfl⟩ := hcut
      cases cb
      · skip
        have hct := HCT.out
        have hck := hct.take hk seen
        clear HCB
        by_cases hs : T.r 2 = seen
        · skip
          rw [if_pos hs] at hck
          have AP := Lib.hid (ap_yes hct.ok ⟨3, 1, 2, 32, 1, 0, seen⟩ zle zle32 hck)
          have sV := behindT_sz sT ⟨3, 1, 2, 32, 1, 0, seen⟩
          generalize behindT T ⟨3, 1, 2, 32, 1, 0, seen⟩ = V at *
          have cS := Lib.hid hs
          clear hs hck hct
          go_wp2_with (first
            | (refine load_tb (T := T) rfl rfl rfl HT.out sT ?_))
          refine (AP.out _).mono ?_
          rintro e w5 ⟨rfl, l5⟩
          replace HT := Lib.hid (HT.out.keep l5)
          obtain ⟨h2, l2, hlt2⟩ := laid_tb (w := w5) (T := V) (U := Tb.zero)
          have H1 := Lib.hid (TbR.new w5 Tb.zero)
          replace HT := Lib.hid (HT.out.keep l2)
          replace HWr := Lib.hid (below_next (below_next HWr.out l5) l2)
          clear h2 l2 l5 hlt2 AP
          have cr := HT.out.ren sT (p := 2) (by omega)
          have hsr : (seen == T.r 2) = true := by have := cS.out; simp; omega
          clear cS
          generalize T.r 2 = rr at *
          go_wp2_with (first
            | (refine store_tb (U := V) rfl rfl rfl rfl H1.out Tb.zero_sz sV ?_))
          go_ret
          exact ⟨rfl, HWr.out⟩
        · skip
          rw [if_neg hs] at hck
          have AP := Lib.hid (ap_no hct.ok ⟨3, 1, 2, 32, 1, 0, seen⟩ zle zle32 142 hck (by omega))
          have sV := sT
          obtain ⟨V, hV⟩ : ∃ V, V = T := ⟨_, rfl⟩
          rw [← hV] at sV
          have AP : Hid (Ret 13 #[T.v, Dc.v ⟨3, 1, 2, 32, 1, 0, seen⟩] (.returned (.tuple #[.agg ⟨V.list⟩, .int .i64 142]))) := Lib.hid (by rw [hV]; exact AP.out)
          clear hV
          have cS := Lib.hid hs
          clear hs hck hct
          go_wp2_with (first
            | (refine load_tb (T := T) rfl rfl rfl HT.out sT ?_))
          refine (AP.out _).mono ?_
          rintro e w5 ⟨rfl, l5⟩
          replace HT := Lib.hid (HT.out.keep l5)
          obtain ⟨h2, l2, hlt2⟩ := laid_tb (w := w5) (T := V) (U := Tb.zero)
          have H1 := Lib.hid (TbR.new w5 Tb.zero)
          replace HT := Lib.hid (HT.out.keep l2)
          replace HWr := Lib.hid (below_next (below_next HWr.out l5) l2)
          clear h2 l2 l5 hlt2 AP
          have cr := HT.out.ren sT (p := 2) (by omega)
          have hsr : (seen == T.r 2) = false := by have := cS.out; simp; omega
          clear cS
          generalize T.r 2 = rr at *
          go_wp2_with (first
            | (refine store_tb (U := V) rfl rfl rfl rfl H1.out Tb.zero_sz sV ?_))
          go_ret
          exact ⟨rfl, HWr.out⟩
      · skip
        have hcb := HCB.out
        obtain ⟨hkn, hk1⟩ : k < n ∧ k < 100 := by simp at hcb; omega
        clear hcb HCB
        obtain ⟨c, hlc⟩ : ∃ c, l[k]? = some c := ⟨_, List.getElem?_eq_getElem (by rw [HLn.out]; exact hkn)⟩
        obtain ⟨g, o, rfl, hg, hc⟩ := HRr.out.2 k c hlc
        have hcw := HRr.out.1 c (List.mem_of_getElem? hlc)
        have hct := HCT.out
        have hrf := hct.refuse (by omega) c
        have hr2 := hct.ok.r 2 (by omega)
        have wa : IntKind.u64.wrap c = c := by rw [IntWalk.u64_in _ (by omega)]
        have wb : IntKind.u64.wrap (T.r 2) = T.r 2 := by rw [IntWalk.u64_in _ (by omega)]
        have wd : IntKind.u64.wrap (T.r 2 + 1) = T.r 2 + 1 := by rw [IntWalk.u64_in _ (by omega)]
        have hg2 : g < wr.heap.size := hg
        clear hlc
        by_cases hcc : c = T.r 2 + 1
        · skip
          rw [if_pos hcc] at hrf
          have AP := Lib.hid (ap_yes hct.ok ⟨1, 2, 0, 0, 0, c, 0⟩ hcw.1 hcw.2 hrf)
          obtain ⟨z1, z2, z3, z4⟩ := hct.step hk1 hcw.1 hcw.2 hcc
          have sV := behindT_sz sT ⟨1, 2, 0, 0, 0, c, 0⟩
          have hcne : (c == T.r 2 + 1) = true := by simpa using hcc
          have HC9 := Lib.hid z1
          have HO9 := Lib.hid z2; have HI9 := Lib.hid z3; have HM9 := Lib.hid z4
          generalize behindT T ⟨1, 2, 0, 0, 0, c, 0⟩ = V at *
          clear z1 z2 z3 z4
          clear hcc hrf hct hr2 hcw
          go_upto_region 7 with (fail)
          go_cut [8, 9] from 32 to 41 (fun sT sE wx => ∃ bV, sT = .pointer (some ⟨bV, 0, none⟩) ∧ sE = .int .i64 0 ∧ wr.heap.size ≤ bV ∧ TbR wx bV V ∧ Below wr.heap.size wr wx)
          case first =>
            as_aux_lemma =>
              refine wp_region_held_drew (S := fun w' => Below wr.heap.size wr w') (by kernel_rfl) ((Below.refl _ _).drew) (fun s0 => ?_)
              generalize wr.drew = wd at *
              refine wpAnyH_take (i := 0) (v := .agg ⟨T.list⟩) rfl (by kernel_rfl) (by kernel_rfl) (by kernel_rfl) (fun _ _ _ h => h) (Or.inl ⟨by rfl, fun w' hw' => by exact exec_load 29 (.tmp 5) rfl rfl ((HT.out.keep hw').load sT)⟩) s0 ?_
              try simp only [Act.put, List.getElem_toArray, List.getElem_cons_succ, List.getElem_cons_zero, List.setIfInBounds_toArray, List.set_cons_zero, List.set_cons_succ, Nat.zero_add, List.nil_append]
              refine wpAnyH_take (i := 1) (v := .slice (some ⟨g, o, none⟩) n cap) rfl (by kernel_rfl) (by kernel_rfl) (by kernel_rfl) (fun _ _ _ h => h) (Or.inl ⟨by rfl, fun w' hw' => by go_simp⟩) s0 ?_
              try simp only [Act.put, List.getElem_toArray, List.getElem_cons_succ, List.getElem_cons_zero, List.setIfInBounds_toArray, List.set_cons_zero, List.set_cons_succ, Nat.zero_add, List.nil_append]
              refine wpAnyH_take (i := 2) (v := .int .i64 (k : Int)) rfl (by kernel_rfl) (by kernel_rfl) (by kernel_rfl) (fun _ _ _ h => h) (Or.inl ⟨by rfl, fun w' hw' => by go_simp⟩) s0 ?_
              try simp only [Act.put, List.getElem_toArray, List.getElem_cons_succ, List.getElem_cons_zero, List.setIfInBounds_toArray, List.set_cons_zero, List.set_cons_succ, Nat.zero_add, List.nil_append]
              refine wpAnyH_take (i := 3) (v := .pointer (some ⟨g, o + k, none⟩)) rfl (by kernel_rfl) (by kernel_rfl) (by kernel_rfl) (fun _ _ _ h => h) (Or.inl ⟨by rfl, fun w' hw' => by go_simp⟩) s0 ?_
              try simp only [Act.put, List.getElem_toArray, List.getElem_cons_succ, List.getElem_cons_zero, List.setIfInBounds_toArray, List.set_cons_zero, List.set_cons_succ, Nat.zero_add, List.nil_append]
              refine wpAnyH_take (i := 4) (v := .int .u32 c) rfl (by kernel_rfl) (by kernel_rfl) (by kernel_rfl) (fun _ _ _ h => h) (Or.inl ⟨by rfl, fun w' hw' => by have z0 := (hw'.cell (p := ⟨g, o + k, none⟩) hg2).trans hc; go_simp⟩) s0 ?_
              try simp only [Act.put, List.getElem_toArray, List.getElem_cons_succ, List.getElem_cons_zero, List.setIfInBounds_toArray, List.set_cons_zero, List.set_cons_succ, Nat.zero_add, List.nil_append]
              refine wpAnyH_take (i := 5) (v := .agg #[.int .i64 1, .int .i64 2, .int .i64 0, .int .i64 0, .int .i64 0, .int .u32 c, .int .u32 0]) rfl (by kernel_rfl) (by kernel_rfl) (by kernel_rfl) (fun _ _ _ h => h) (Or.inl ⟨by rfl, fun w' hw' => by go_simp⟩) s0 ?_
              try simp only [Act.put, List.getElem_toArray, List.getElem_cons_succ, List.getElem_cons_zero, List.setIfInBounds_toArray, List.set_cons_zero, List.set_cons_succ, Nat.zero_add, List.nil_append]
              refine wpAnyH_ready (rs := [6, 10]) (by kernel_rfl) (by simp) ?_
              refine AllReadyH.cons rfl (fun K hK => ?_) (AllReadyH.cons rfl (fun K hK => ?_) AllReadyH.nil)
              · skip
                rw [if_pos (by rfl)]
                go_simp
                refine (AP.out wd).mono ?_; rintro e w2 ⟨rfl, b2⟩
                have s1 := below_next s0 b2
                
                clear b2
                go_simp
                refine hK.out _ _ s1 (fun _ => ?_)
                clear hK K
                try simp only [Act.put, List.getElem_toArray, List.getElem_cons_succ, List.getElem_cons_zero, List.setIfInBounds_toArray, List.set_cons_zero, List.set_cons_succ, Nat.zero_add, List.nil_append]
                refine wpAnyH_take (i := 7) (v := .tuple #[.agg ⟨(V).list⟩, .int .i64 0]) rfl (by kernel_rfl) (by kernel_rfl) (by kernel_rfl) (fun _ _ _ h => h) (Or.inl ⟨by rfl, fun w' hw' => by go_simp⟩) s1 ?_
                try simp only [Act.put, List.getElem_toArray, List.getElem_cons_succ, List.getElem_cons_zero, List.setIfInBounds_toArray, List.set_cons_zero, List.set_cons_succ, Nat.zero_add, List.nil_append]
                refine wpAnyH_take (i := 8) (v := .agg ⟨(V).list⟩) rfl (by kernel_rfl) (by kernel_rfl) (by kernel_rfl) (fun _ _ _ h => h) (Or.inl ⟨by rfl, fun w' hw' => by go_simp⟩) s1 ?_
                try simp only [Act.put, List.getElem_toArray, List.getElem_cons_succ, List.getElem_cons_zero, List.setIfInBounds_toArray, List.set_cons_zero, List.set_cons_succ, Nat.zero_add, List.nil_append]
                refine wpAnyH_take (i := 9) (v := .int .i64 0) rfl (by kernel_rfl) (by kernel_rfl) (by kernel_rfl) (fun _ _ _ h => h) (Or.inl ⟨by rfl, fun w' hw' => by go_simp⟩) s1 ?_
                try simp only [Act.put, List.getElem_toArray, List.getElem_cons_succ, List.getElem_cons_zero, List.setIfInBounds_toArray, List.set_cons_zero, List.set_cons_succ, Nat.zero_add, List.nil_append]
                refine wpAnyH_ready (rs := [10]) (by kernel_rfl) (by simp) ?_
                refine AllReadyH.cons rfl (fun K hK => ?_) AllReadyH.nil
                rw [if_pos (by rfl)]
                go_simp
                have r3 := TbR.new w2 Tb.zero
                have s2 := below_alloc s1 (.cells ⟨Tb.zero.list⟩ 29)
                have hbs := s1.size
                generalize w2.alloc (.cells ⟨Tb.zero.list⟩ 29) = w3z at *
                obtain ⟨bx, hbx⟩ : ∃ q, q = w2.heap.size := ⟨_, rfl⟩
                rw [← hbx] at r3 hbs ⊢
                clear hbx
                refine hK.out _ _ s2 (fun _ => ?_)
                clear hK K
                try simp only [Act.put, List.getElem_toArray, List.getElem_cons_succ, List.getElem_cons_zero, List.setIfInBounds_toArray, List.set_cons_zero, List.set_cons_succ, Nat.zero_add, List.nil_append]
                refine wpAnyH_ready (rs := [11]) (by kernel_rfl) (by simp) ?_
                refine AllReadyH.cons rfl (fun K hK => ?_) AllReadyH.nil
                rw [if_pos (by rfl)]
                refine wp_store_row 29 (.tmp 8) (.tmp 40) rfl bx ⟨(V).list⟩ rfl rfl 29 _ r3 (by rw [List.size_toArray, sV.len, tb_info]) (by simp [Tb.zero_sz.len, sV.len]) (tb_one _) ?_
                have s9 : Below wr.heap.size wr (w3z.setRow bx ⟨(V).list⟩) := below_setRow s2 bx _ hbs
                have HXR := Lib.hid (r3.setRow (V))
                generalize w3z.setRow bx ⟨(V).list⟩ = wz at *
                refine hK.out _ _ s9 (fun _ => ?_)
                clear hK K
                try simp only [Act.put, List.getElem_toArray, List.getElem_cons_succ, List.getElem_cons_zero, List.setIfInBounds_toArray, List.set_cons_zero, List.set_cons_succ, Nat.zero_add, List.nil_append]
                refine wpAnyH_take (i := 12) (v := .int .i64 0) rfl (by kernel_rfl) (by kernel_rfl) (by kernel_rfl) (fun _ _ _ h => h) (Or.inl ⟨by rfl, fun w' hw' => by go_simp⟩) s9 ?_
                try simp only [Act.put, List.getElem_toArray, List.getElem_cons_succ, List.getElem_cons_zero, List.setIfInBounds_toArray, List.set_cons_zero, List.set_cons_succ, Nat.zero_add, List.nil_append]
                refine wpAnyH_done (by kernel_rfl) ?_ _
                have HZB := Lib.hid s9
                have HBS := Lib.hid hbs
                clear r3 hbs s9 s0 s1 s2
                go_wp2_with fail
                go_meet
                case rel => exact ⟨_, rfl, rfl, HBS.out, HXR.out, HZB.out⟩
              · skip
                rw [if_pos (by rfl)]
                go_simp
                have r3 := TbR.new wd Tb.zero
                have s1 := below_alloc s0 (.cells ⟨Tb.zero.list⟩ 29)
                have hbs := s0.size
                generalize wd.alloc (.cells ⟨Tb.zero.list⟩ 29) = w2 at *
                obtain ⟨bx, hbx⟩ : ∃ q, q = wd.heap.size := ⟨_, rfl⟩
                rw [← hbx] at r3 hbs ⊢
                clear hbx
                refine hK.out _ _ s1 (fun _ => ?_)
                clear hK K
                try simp only [Act.put, List.getElem_toArray, List.getElem_cons_succ, List.getElem_cons_zero, List.setIfInBounds_toArray, List.set_cons_zero, List.set_cons_succ, Nat.zero_add, List.nil_append]
                refine wpAnyH_ready (rs := [6]) (by kernel_rfl) (by simp) ?_
                refine AllReadyH.cons rfl (fun K hK => ?_) AllReadyH.nil
                rw [if_pos (by rfl)]
                go_simp
                refine (AP.out w2).mono ?_; rintro e w3z ⟨rfl, b2⟩
                have s2 := below_next s1 b2
                have r3 := r3.keep b2
                clear b2
                go_simp
                refine hK.out _ _ s2 (fun _ => ?_)
                clear hK K
                try simp only [Act.put, List.getElem_toArray, List.getElem_cons_succ, List.getElem_cons_zero, List.setIfInBounds_toArray, List.set_cons_zero, List.set_cons_succ, Nat.zero_add, List.nil_append]
                refine wpAnyH_take (i := 7) (v := .tuple #[.agg ⟨(V).list⟩, .int .i64 0]) rfl (by kernel_rfl) (by kernel_rfl) (by kernel_rfl) (fun _ _ _ h => h) (Or.inl ⟨by rfl, fun w' hw' => by go_simp⟩) s2 ?_
                try simp only [Act.put, List.getElem_toArray, List.getElem_cons_succ, List.getElem_cons_zero, List.setIfInBounds_toArray, List.set_cons_zero, List.set_cons_succ, Nat.zero_add, List.nil_append]
                refine wpAnyH_take (i := 8) (v := .agg ⟨(V).list⟩) rfl (by kernel_rfl) (by kernel_rfl) (by kernel_rfl) (fun _ _ _ h => h) (Or.inl ⟨by rfl, fun w' hw' => by go_simp⟩) s2 ?_
                try simp only [Act.put, List.getElem_toArray, List.getElem_cons_succ, List.getElem_cons_zero, List.setIfInBounds_toArray, List.set_cons_zero, List.set_cons_succ, Nat.zero_add, List.nil_append]
                refine wpAnyH_take (i := 9) (v := .int .i64 0) rfl (by kernel_rfl) (by kernel_rfl) (by kernel_rfl) (fun _ _ _ h => h) (Or.inl ⟨by rfl, fun w' hw' => by go_simp⟩) s2 ?_
                try simp only [Act.put, List.getElem_toArray, List.getElem_cons_succ, List.getElem_cons_zero, List.setIfInBounds_toArray, List.set_cons_zero, List.set_cons_succ, Nat.zero_add, List.nil_append]
                refine wpAnyH_ready (rs := [11]) (by kernel_rfl) (by simp) ?_
                refine AllReadyH.cons rfl (fun K hK => ?_) AllReadyH.nil
                rw [if_pos (by rfl)]
                refine wp_store_row 29 (.tmp 8) (.tmp 40) rfl bx ⟨(V).list⟩ rfl rfl 29 _ r3 (by rw [List.size_toArray, sV.len, tb_info]) (by simp [Tb.zero_sz.len, sV.len]) (tb_one _) ?_
                have s9 : Below wr.heap.size wr (w3z.setRow bx ⟨(V).list⟩) := below_setRow s2 bx _ hbs
                have HXR := Lib.hid (r3.setRow (V))
                generalize w3z.setRow bx ⟨(V).list⟩ = wz at *
                refine hK.out _ _ s9 (fun _ => ?_)
                clear hK K
                try simp only [Act.put, List.getElem_toArray, List.getElem_cons_succ, List.getElem_cons_zero, List.setIfInBounds_toArray, List.set_cons_zero, List.set_cons_succ, Nat.zero_add, List.nil_append]
                refine wpAnyH_take (i := 12) (v := .int .i64 0) rfl (by kernel_rfl) (by kernel_rfl) (by kernel_rfl) (fun _ _ _ h => h) (Or.inl ⟨by rfl, fun w' hw' => by go_simp⟩) s9 ?_
                try simp only [Act.put, List.getElem_toArray, List.getElem_cons_succ, List.getElem_cons_zero, List.setIfInBounds_toArray, List.set_cons_zero, List.set_cons_succ, Nat.zero_add, List.nil_append]
                refine wpAnyH_done (by kernel_rfl) ?_ _
                have HZB := Lib.hid s9
                have HBS := Lib.hid hbs
                clear r3 hbs s9 s0 s1 s2
                go_wp2_with fail
                go_meet
                case rel => exact ⟨_, rfl, rfl, HBS.out, HXR.out, HZB.out⟩
          case rest =>
            obtain ⟨bU, rfl, rfl, hbU, hU, hlx⟩ := hcut
            have HT9 := Lib.hid (HT.out.keep hlx)
            have HU := Lib.hid hU
            have HK9 := Lib.hid (HK.out.trans (Keep.of_below hlx [bT]))
            have hc9 := cell_regrown ((hlx.cell (p := ⟨g, o + k, none⟩) hg2).trans hc)
            have cr9 := cell_regrown (HT9.out.ren sT (p := 2) (by omega))
            have hbb : bT < wc.heap.size := HT9.out.lt
            clear hlx hU hbU hc hg AP
            go_upto_region 8 with (fail)
            have LUo : ∀ w', (∃ p : Regrown, w' = grow (redrawn wc p.d) p.os) → (Instr.loadAt 24 (.pointer (some ⟨bU, 1, none⟩))).run Try.prog w' = .ok (.agg ⟨T.own.map (.int .i64)⟩) w' := fun w' h => by have := (HU.out.regrown h).load_own sV; rwa [HO9.out] at this
            have LUi : ∀ w', (∃ p : Regrown, w' = grow (redrawn wc p.d) p.os) → (Instr.loadAt 25 (.pointer (some ⟨bU, 65, none⟩))).run Try.prog w' = .ok (.agg ⟨T.inc.map (.int .u32)⟩) w' := fun w' h => by have := (HU.out.regrown h).load_inc sV; rwa [HI9.out] at this
            have LUm : ∀ w', (∃ p : Regrown, w' = grow (redrawn wc p.d) p.os) → (Instr.loadAt 26 (.pointer (some ⟨bU, 129, none⟩))).run Try.prog w' = .ok (.agg ⟨T.mem.map .bool⟩) w' := fun w' h => by have := (HU.out.regrown h).load_mem sV; rwa [HM9.out] at this
            have LTo := fun w' h => (HT9.out.regrown (w' := w') h).load_own sT
            have LTi := fun w' h => (HT9.out.regrown (w' := w') h).load_inc sT
            have LTm := fun w' h => (HT9.out.regrown (w' := w') h).load_mem sT
            have L1 := Lib.hid LUo; have L2 := Lib.hid LUi; have L3 := Lib.hid LUm; have L4 := Lib.hid LTo; have L5 := Lib.hid LTi; have L6 := Lib.hid LTm
            clear LUo LUi LUm LTo LTi LTm
            refine wp_region_quiet_below (by kernel_rfl) (by kernel_rfl) ?_
            iterate 16 (go_big_quiet_step (fail))
            (refine BigFrame.wpQuiet_want (by rfl) (fun K hK => quiet_value _ (fun w' hw' => exec_load 24 (.tmp 57) rfl rfl (L1.out w' hw')) (hK _ ?_)); simp only [Act.put, List.setIfInBounds_toArray, List.set_cons_zero, List.set_cons_succ])
            go_big_quiet_step (fail)
            (refine BigFrame.wpQuiet_want (by rfl) (fun K hK => quiet_value _ (fun w' hw' => exec_load 24 (.tmp 59) rfl rfl (L4.out w' hw')) (hK _ ?_)); simp only [Act.put, List.setIfInBounds_toArray, List.set_cons_zero, List.set_cons_succ])
            (refine BigFrame.wpQuiet_want (by rfl) (fun K hK => quiet_value _ (fun w' hw' => exec_bin .neq 24 24 (.tmp 58) (.tmp 60) rfl rfl rfl (neq_own T.own sT.o w') (run_eqGuard_agg _ _ _ _ _ _ _ (by kernel_rfl))) (hK _ ?_)); simp only [Act.put, List.setIfInBounds_toArray, List.set_cons_zero, List.set_cons_succ])
            iterate 3 (go_big_quiet_step (fail))
            (refine BigFrame.wpQuiet_want (by rfl) (fun K hK => quiet_value _ (fun w' hw' => exec_load 25 (.tmp 64) rfl rfl (L2.out w' hw')) (hK _ ?_)); simp only [Act.put, List.setIfInBounds_toArray, List.set_cons_zero, List.set_cons_succ])
            go_big_quiet_step (fail)
            (refine BigFrame.wpQuiet_want (by rfl) (fun K hK => quiet_value _ (fun w' hw' => exec_load 25 (.tmp 66) rfl rfl (L5.out w' hw')) (hK _ ?_)); simp only [Act.put, List.setIfInBounds_toArray, List.set_cons_zero, List.set_cons_succ])
            (refine BigFrame.wpQuiet_want (by rfl) (fun K hK => quiet_value _ (fun w' hw' => exec_bin .neq 25 25 (.tmp 65) (.tmp 67) rfl rfl rfl (neq_inc T.inc sT.i w') (run_eqGuard_agg _ _ _ _ _ _ _ (by kernel_rfl))) (hK _ ?_)); simp only [Act.put, List.setIfInBounds_toArray, List.set_cons_zero, List.set_cons_succ])
            iterate 3 (go_big_quiet_step (fail))
            (refine BigFrame.wpQuiet_want (by rfl) (fun K hK => quiet_value _ (fun w' hw' => exec_load 26 (.tmp 71) rfl rfl (L3.out w' hw')) (hK _ ?_)); simp only [Act.put, List.setIfInBounds_toArray, List.set_cons_zero, List.set_cons_succ])
            go_big_quiet_step (fail)
            (refine BigFrame.wpQuiet_want (by rfl) (fun K hK => quiet_value _ (fun w' hw' => exec_load 26 (.tmp 73) rfl rfl (L6.out w' hw')) (hK _ ?_)); simp only [Act.put, List.setIfInBounds_toArray, List.set_cons_zero, List.set_cons_succ])
            (refine BigFrame.wpQuiet_want (by rfl) (fun K hK => quiet_value _ (fun w' hw' => exec_bin .neq 26 26 (.tmp 72) (.tmp 74) rfl rfl rfl (neq_mem T.mem sT.m w') (run_eqGuard_agg _ _ _ _ _ _ _ (by kernel_rfl))) (hK _ ?_)); simp only [Act.put, List.setIfInBounds_toArray, List.set_cons_zero, List.set_cons_succ])
            repeat (go_big_quiet_step (fail))
            refine wpQuiet_nil ?_
            intro _ hw'
            obtain ⟨⟨dq, osq⟩, hw''⟩ := hw'
            subst hw''
            have lk := below_regrown wc dq osq
            clear L1 L2 L3 L4 L5 L6 hc9 cr9
            have HT8 := Lib.hid (HT9.out.keep lk)
            have HU8 := Lib.hid (HU.out.keep lk)
            have HK8 := Lib.hid (HK9.out.trans (Keep.of_below lk [bT]))
            generalize grow (redrawn wc dq) osq = wq at *
            clear lk
            have HKR := Lib.hid (HK8.out.trans (Keep.setRow wq bT ⟨V.list⟩))
            have HTR := Lib.hid (HT8.out.setRow V)
            go_wp2_with (first
              | (refine load_tb (T := V) rfl rfl rfl HU8.out sV ?_)
              | (refine store_tb (U := V) rfl rfl rfl rfl HT8.out sT sV ?_))
            go_roundw
            case rel => exact ⟨k + 1, V, by omega, by go_num, HC9.out, HTR.out, HKR.out⟩
            case measure => simp [intOf]; omega
        · skip
          rw [if_neg hcc] at hrf
          have AP0 := ap_no hct.ok ⟨1, 2, 0, 0, 0, c, 0⟩ hcw.1 hcw.2 144 hrf (by omega)
          have hcne : (c == T.r 2 + 1) = false := by simpa using hcc
          obtain ⟨V, hV⟩ : ∃ V, V = T := ⟨_, rfl⟩
          have AP : Hid (Ret 13 #[T.v, Dc.v ⟨1, 2, 0, 0, 0, c, 0⟩] (.returned (.tuple #[.agg ⟨V.list⟩, .int .i64 144]))) := Lib.hid (by rw [hV]; exact AP0)
          have sV : V.Sz := by rw [hV]; exact sT
          have HC9 := Lib.hid (show CT (k + 1) V by rw [hV]; exact hct.more)
          have HO9 := Lib.hid (show V.own = T.own by rw [hV]); have HI9 := Lib.hid (show V.inc = T.inc by rw [hV]); have HM9 := Lib.hid (show V.mem = T.mem by rw [hV])
          clear hV AP0
          clear hcc hrf hct hr2 hcw
          go_upto_region 7 with (fail)
          go_cut [8, 9] from 32 to 41 (fun sT sE wx => ∃ bV, sT = .pointer (some ⟨bV, 0, none⟩) ∧ sE = .int .i64 144 ∧ wr.heap.size ≤ bV ∧ TbR wx bV V ∧ Below wr.heap.size wr wx)
          case first =>
            as_aux_lemma =>
              refine wp_region_held_drew (S := fun w' => Below wr.heap.size wr w') (by kernel_rfl) ((Below.refl _ _).drew) (fun s0 => ?_)
              generalize wr.drew = wd at *
              refine wpAnyH_take (i := 0) (v := .agg ⟨T.list⟩) rfl (by kernel_rfl) (by kernel_rfl) (by kernel_rfl) (fun _ _ _ h => h) (Or.inl ⟨by rfl, fun w' hw' => by exact exec_load 29 (.tmp 5) rfl rfl ((HT.out.keep hw').load sT)⟩) s0 ?_
              try simp only [Act.put, List.getElem_toArray, List.getElem_cons_succ, List.getElem_cons_zero, List.setIfInBounds_toArray, List.set_cons_zero, List.set_cons_succ, Nat.zero_add, List.nil_append]
              refine wpAnyH_take (i := 1) (v := .slice (some ⟨g, o, none⟩) n cap) rfl (by kernel_rfl) (by kernel_rfl) (by kernel_rfl) (fun _ _ _ h => h) (Or.inl ⟨by rfl, fun w' hw' => by go_simp⟩) s0 ?_
              try simp only [Act.put, List.getElem_toArray, List.getElem_cons_succ, List.getElem_cons_zero, List.setIfInBounds_toArray, List.set_cons_zero, List.set_cons_succ, Nat.zero_add, List.nil_append]
              refine wpAnyH_take (i := 2) (v := .int .i64 (k : Int)) rfl (by kernel_rfl) (by kernel_rfl) (by kernel_rfl) (fun _ _ _ h => h) (Or.inl ⟨by rfl, fun w' hw' => by go_simp⟩) s0 ?_
              try simp only [Act.put, List.getElem_toArray, List.getElem_cons_succ, List.getElem_cons_zero, List.setIfInBounds_toArray, List.set_cons_zero, List.set_cons_succ, Nat.zero_add, List.nil_append]
              refine wpAnyH_take (i := 3) (v := .pointer (some ⟨g, o + k, none⟩)) rfl (by kernel_rfl) (by kernel_rfl) (by kernel_rfl) (fun _ _ _ h => h) (Or.inl ⟨by rfl, fun w' hw' => by go_simp⟩) s0 ?_
              try simp only [Act.put, List.getElem_toArray, List.getElem_cons_succ, List.getElem_cons_zero, List.setIfInBounds_toArray, List.set_cons_zero, List.set_cons_succ, Nat.zero_add, List.nil_append]
              refine wpAnyH_take (i := 4) (v := .int .u32 c) rfl (by kernel_rfl) (by kernel_rfl) (by kernel_rfl) (fun _ _ _ h => h) (Or.inl ⟨by rfl, fun w' hw' => by have z0 := (hw'.cell (p := ⟨g, o + k, none⟩) hg2).trans hc; go_simp⟩) s0 ?_
              try simp only [Act.put, List.getElem_toArray, List.getElem_cons_succ, List.getElem_cons_zero, List.setIfInBounds_toArray, List.set_cons_zero, List.set_cons_succ, Nat.zero_add, List.nil_append]
              refine wpAnyH_take (i := 5) (v := .agg #[.int .i64 1, .int .i64 2, .int .i64 0, .int .i64 0, .int .i64 0, .int .u32 c, .int .u32 0]) rfl (by kernel_rfl) (by kernel_rfl) (by kernel_rfl) (fun _ _ _ h => h) (Or.inl ⟨by rfl, fun w' hw' => by go_simp⟩) s0 ?_
              try simp only [Act.put, List.getElem_toArray, List.getElem_cons_succ, List.getElem_cons_zero, List.setIfInBounds_toArray, List.set_cons_zero, List.set_cons_succ, Nat.zero_add, List.nil_append]
              refine wpAnyH_ready (rs := [6, 10]) (by kernel_rfl) (by simp) ?_
              refine AllReadyH.cons rfl (fun K hK => ?_) (AllReadyH.cons rfl (fun K hK => ?_) AllReadyH.nil)
              · skip
                rw [if_pos (by rfl)]
                go_simp
                refine (AP.out wd).mono ?_; rintro e w2 ⟨rfl, b2⟩
                have s1 := below_next s0 b2
                
                clear b2
                go_simp
                refine hK.out _ _ s1 (fun _ => ?_)
                clear hK K
                try simp only [Act.put, List.getElem_toArray, List.getElem_cons_succ, List.getElem_cons_zero, List.setIfInBounds_toArray, List.set_cons_zero, List.set_cons_succ, Nat.zero_add, List.nil_append]
                refine wpAnyH_take (i := 7) (v := .tuple #[.agg ⟨(V).list⟩, .int .i64 144]) rfl (by kernel_rfl) (by kernel_rfl) (by kernel_rfl) (fun _ _ _ h => h) (Or.inl ⟨by rfl, fun w' hw' => by go_simp⟩) s1 ?_
                try simp only [Act.put, List.getElem_toArray, List.getElem_cons_succ, List.getElem_cons_zero, List.setIfInBounds_toArray, List.set_cons_zero, List.set_cons_succ, Nat.zero_add, List.nil_append]
                refine wpAnyH_take (i := 8) (v := .agg ⟨(V).list⟩) rfl (by kernel_rfl) (by kernel_rfl) (by kernel_rfl) (fun _ _ _ h => h) (Or.inl ⟨by rfl, fun w' hw' => by go_simp⟩) s1 ?_
                try simp only [Act.put, List.getElem_toArray, List.getElem_cons_succ, List.getElem_cons_zero, List.setIfInBounds_toArray, List.set_cons_zero, List.set_cons_succ, Nat.zero_add, List.nil_append]
                refine wpAnyH_take (i := 9) (v := .int .i64 144) rfl (by kernel_rfl) (by kernel_rfl) (by kernel_rfl) (fun _ _ _ h => h) (Or.inl ⟨by rfl, fun w' hw' => by go_simp⟩) s1 ?_
                try simp only [Act.put, List.getElem_toArray, List.getElem_cons_succ, List.getElem_cons_zero, List.setIfInBounds_toArray, List.set_cons_zero, List.set_cons_succ, Nat.zero_add, List.nil_append]
                refine wpAnyH_ready (rs := [10]) (by kernel_rfl) (by simp) ?_
                refine AllReadyH.cons rfl (fun K hK => ?_) AllReadyH.nil
                rw [if_pos (by rfl)]
                go_simp
                have r3 := TbR.new w2 Tb.zero
                have s2 := below_alloc s1 (.cells ⟨Tb.zero.list⟩ 29)
                have hbs := s1.size
                generalize w2.alloc (.cells ⟨Tb.zero.list⟩ 29) = w3z at *
                obtain ⟨bx, hbx⟩ : ∃ q, q = w2.heap.size := ⟨_, rfl⟩
                rw [← hbx] at r3 hbs ⊢
                clear hbx
                refine hK.out _ _ s2 (fun _ => ?_)
                clear hK K
                try simp only [Act.put, List.getElem_toArray, List.getElem_cons_succ, List.getElem_cons_zero, List.setIfInBounds_toArray, List.set_cons_zero, List.set_cons_succ, Nat.zero_add, List.nil_append]
                refine wpAnyH_ready (rs := [11]) (by kernel_rfl) (by simp) ?_
                refine AllReadyH.cons rfl (fun K hK => ?_) AllReadyH.nil
                rw [if_pos (by rfl)]
                refine wp_store_row 29 (.tmp 8) (.tmp 40) rfl bx ⟨(V).list⟩ rfl rfl 29 _ r3 (by rw [List.size_toArray, sV.len, tb_info]) (by simp [Tb.zero_sz.len, sV.len]) (tb_one _) ?_
                have s9 : Below wr.heap.size wr (w3z.setRow bx ⟨(V).list⟩) := below_setRow s2 bx _ hbs
                have HXR := Lib.hid (r3.setRow (V))
                generalize w3z.setRow bx ⟨(V).list⟩ = wz at *
                refine hK.out _ _ s9 (fun _ => ?_)
                clear hK K
                try simp only [Act.put, List.getElem_toArray, List.getElem_cons_succ, List.getElem_cons_zero, List.setIfInBounds_toArray, List.set_cons_zero, List.set_cons_succ, Nat.zero_add, List.nil_append]
                refine wpAnyH_take (i := 12) (v := .int .i64 144) rfl (by kernel_rfl) (by kernel_rfl) (by kernel_rfl) (fun _ _ _ h => h) (Or.inl ⟨by rfl, fun w' hw' => by go_simp⟩) s9 ?_
                try simp only [Act.put, List.getElem_toArray, List.getElem_cons_succ, List.getElem_cons_zero, List.setIfInBounds_toArray, List.set_cons_zero, List.set_cons_succ, Nat.zero_add, List.nil_append]
                refine wpAnyH_done (by kernel_rfl) ?_ _
                have HZB := Lib.hid s9
                have HBS := Lib.hid hbs
                clear r3 hbs s9 s0 s1 s2
                go_wp2_with fail
                go_meet
                case rel => exact ⟨_, rfl, rfl, HBS.out, HXR.out, HZB.out⟩
              · skip
                rw [if_pos (by rfl)]
                go_simp
                have r3 := TbR.new wd Tb.zero
                have s1 := below_alloc s0 (.cells ⟨Tb.zero.list⟩ 29)
                have hbs := s0.size
                generalize wd.alloc (.cells ⟨Tb.zero.list⟩ 29) = w2 at *
                obtain ⟨bx, hbx⟩ : ∃ q, q = wd.heap.size := ⟨_, rfl⟩
                rw [← hbx] at r3 hbs ⊢
                clear hbx
                refine hK.out _ _ s1 (fun _ => ?_)
                clear hK K
                try simp only [Act.put, List.getElem_toArray, List.getElem_cons_succ, List.getElem_cons_zero, List.setIfInBounds_toArray, List.set_cons_zero, List.set_cons_succ, Nat.zero_add, List.nil_append]
                refine wpAnyH_ready (rs := [6]) (by kernel_rfl) (by simp) ?_
                refine AllReadyH.cons rfl (fun K hK => ?_) AllReadyH.nil
                rw [if_pos (by rfl)]
                go_simp
                refine (AP.out w2).mono ?_; rintro e w3z ⟨rfl, b2⟩
                have s2 := below_next s1 b2
                have r3 := r3.keep b2
                clear b2
                go_simp
                refine hK.out _ _ s2 (fun _ => ?_)
                clear hK K
                try simp only [Act.put, List.getElem_toArray, List.getElem_cons_succ, List.getElem_cons_zero, List.setIfInBounds_toArray, List.set_cons_zero, List.set_cons_succ, Nat.zero_add, List.nil_append]
                refine wpAnyH_take (i := 7) (v := .tuple #[.agg ⟨(V).list⟩, .int .i64 144]) rfl (by kernel_rfl) (by kernel_rfl) (by kernel_rfl) (fun _ _ _ h => h) (Or.inl ⟨by rfl, fun w' hw' => by go_simp⟩) s2 ?_
                try simp only [Act.put, List.getElem_toArray, List.getElem_cons_succ, List.getElem_cons_zero, List.setIfInBounds_toArray, List.set_cons_zero, List.set_cons_succ, Nat.zero_add, List.nil_append]
                refine wpAnyH_take (i := 8) (v := .agg ⟨(V).list⟩) rfl (by kernel_rfl) (by kernel_rfl) (by kernel_rfl) (fun _ _ _ h => h) (Or.inl ⟨by rfl, fun w' hw' => by go_simp⟩) s2 ?_
                try simp only [Act.put, List.getElem_toArray, List.getElem_cons_succ, List.getElem_cons_zero, List.setIfInBounds_toArray, List.set_cons_zero, List.set_cons_succ, Nat.zero_add, List.nil_append]
                refine wpAnyH_take (i := 9) (v := .int .i64 144) rfl (by kernel_rfl) (by kernel_rfl) (by kernel_rfl) (fun _ _ _ h => h) (Or.inl ⟨by rfl, fun w' hw' => by go_simp⟩) s2 ?_
                try simp only [Act.put, List.getElem_toArray, List.getElem_cons_succ, List.getElem_cons_zero, List.setIfInBounds_toArray, List.set_cons_zero, List.set_cons_succ, Nat.zero_add, List.nil_append]
                refine wpAnyH_ready (rs := [11]) (by kernel_rfl) (by simp) ?_
                refine AllReadyH.cons rfl (fun K hK => ?_) AllReadyH.nil
                rw [if_pos (by rfl)]
                refine wp_store_row 29 (.tmp 8) (.tmp 40) rfl bx ⟨(V).list⟩ rfl rfl 29 _ r3 (by rw [List.size_toArray, sV.len, tb_info]) (by simp [Tb.zero_sz.len, sV.len]) (tb_one _) ?_
                have s9 : Below wr.heap.size wr (w3z.setRow bx ⟨(V).list⟩) := below_setRow s2 bx _ hbs
                have HXR := Lib.hid (r3.setRow (V))
                generalize w3z.setRow bx ⟨(V).list⟩ = wz at *
                refine hK.out _ _ s9 (fun _ => ?_)
                clear hK K
                try simp only [Act.put, List.getElem_toArray, List.getElem_cons_succ, List.getElem_cons_zero, List.setIfInBounds_toArray, List.set_cons_zero, List.set_cons_succ, Nat.zero_add, List.nil_append]
                refine wpAnyH_take (i := 12) (v := .int .i64 144) rfl (by kernel_rfl) (by kernel_rfl) (by kernel_rfl) (fun _ _ _ h => h) (Or.inl ⟨by rfl, fun w' hw' => by go_simp⟩) s9 ?_
                try simp only [Act.put, List.getElem_toArray, List.getElem_cons_succ, List.getElem_cons_zero, List.setIfInBounds_toArray, List.set_cons_zero, List.set_cons_succ, Nat.zero_add, List.nil_append]
                refine wpAnyH_done (by kernel_rfl) ?_ _
                have HZB := Lib.hid s9
                have HBS := Lib.hid hbs
                clear r3 hbs s9 s0 s1 s2
                go_wp2_with fail
                go_meet
                case rel => exact ⟨_, rfl, rfl, HBS.out, HXR.out, HZB.out⟩
          case rest =>
            obtain ⟨bU, rfl, rfl, hbU, hU, hlx⟩ := hcut
            have HT9 := Lib.hid (HT.out.keep hlx)
            have HU := Lib.hid hU
            have HK9 := Lib.hid (HK.out.trans (Keep.of_below hlx [bT]))
            have hc9 := cell_regrown ((hlx.cell (p := ⟨g, o + k, none⟩) hg2).trans hc)
            have cr9 := cell_regrown (HT9.out.ren sT (p := 2) (by omega))
            have hbb : bT < wc.heap.size := HT9.out.lt
            clear hlx hU hbU hc hg AP
            go_upto_region 8 with (fail)
            have LUo : ∀ w', (∃ p : Regrown, w' = grow (redrawn wc p.d) p.os) → (Instr.loadAt 24 (.pointer (some ⟨bU, 1, none⟩))).run Try.prog w' = .ok (.agg ⟨T.own.map (.int .i64)⟩) w' := fun w' h => by have := (HU.out.regrown h).load_own sV; rwa [HO9.out] at this
            have LUi : ∀ w', (∃ p : Regrown, w' = grow (redrawn wc p.d) p.os) → (Instr.loadAt 25 (.pointer (some ⟨bU, 65, none⟩))).run Try.prog w' = .ok (.agg ⟨T.inc.map (.int .u32)⟩) w' := fun w' h => by have := (HU.out.regrown h).load_inc sV; rwa [HI9.out] at this
            have LUm : ∀ w', (∃ p : Regrown, w' = grow (redrawn wc p.d) p.os) → (Instr.loadAt 26 (.pointer (some ⟨bU, 129, none⟩))).run Try.prog w' = .ok (.agg ⟨T.mem.map .bool⟩) w' := fun w' h => by have := (HU.out.regrown h).load_mem sV; rwa [HM9.out] at this
            have LTo := fun w' h => (HT9.out.regrown (w' := w') h).load_own sT
            have LTi := fun w' h => (HT9.out.regrown (w' := w') h).load_inc sT
            have LTm := fun w' h => (HT9.out.regrown (w' := w') h).load_mem sT
            have L1 := Lib.hid LUo; have L2 := Lib.hid LUi; have L3 := Lib.hid LUm; have L4 := Lib.hid LTo; have L5 := Lib.hid LTi; have L6 := Lib.hid LTm
            clear LUo LUi LUm LTo LTi LTm
            refine wp_region_quiet_below (by kernel_rfl) (by kernel_rfl) ?_
            iterate 16 (go_big_quiet_step (fail))
            (refine BigFrame.wpQuiet_want (by rfl) (fun K hK => quiet_value _ (fun w' hw' => exec_load 24 (.tmp 57) rfl rfl (L1.out w' hw')) (hK _ ?_)); simp only [Act.put, List.setIfInBounds_toArray, List.set_cons_zero, List.set_cons_succ])
            go_big_quiet_step (fail)
            (refine BigFrame.wpQuiet_want (by rfl) (fun K hK => quiet_value _ (fun w' hw' => exec_load 24 (.tmp 59) rfl rfl (L4.out w' hw')) (hK _ ?_)); simp only [Act.put, List.setIfInBounds_toArray, List.set_cons_zero, List.set_cons_succ])
            (refine BigFrame.wpQuiet_want (by rfl) (fun K hK => quiet_value _ (fun w' hw' => exec_bin .neq 24 24 (.tmp 58) (.tmp 60) rfl rfl rfl (neq_own T.own sT.o w') (run_eqGuard_agg _ _ _ _ _ _ _ (by kernel_rfl))) (hK _ ?_)); simp only [Act.put, List.setIfInBounds_toArray, List.set_cons_zero, List.set_cons_succ])
            iterate 3 (go_big_quiet_step (fail))
            (refine BigFrame.wpQuiet_want (by rfl) (fun K hK => quiet_value _ (fun w' hw' => exec_load 25 (.tmp 64) rfl rfl (L2.out w' hw')) (hK _ ?_)); simp only [Act.put, List.setIfInBounds_toArray, List.set_cons_zero, List.set_cons_succ])
            go_big_quiet_step (fail)
            (refine BigFrame.wpQuiet_want (by rfl) (fun K hK => quiet_value _ (fun w' hw' => exec_load 25 (.tmp 66) rfl rfl (L5.out w' hw')) (hK _ ?_)); simp only [Act.put, List.setIfInBounds_toArray, List.set_cons_zero, List.set_cons_succ])
            (refine BigFrame.wpQuiet_want (by rfl) (fun K hK => quiet_value _ (fun w' hw' => exec_bin .neq 25 25 (.tmp 65) (.tmp 67) rfl rfl rfl (neq_inc T.inc sT.i w') (run_eqGuard_agg _ _ _ _ _ _ _ (by kernel_rfl))) (hK _ ?_)); simp only [Act.put, List.setIfInBounds_toArray, List.set_cons_zero, List.set_cons_succ])
            iterate 3 (go_big_quiet_step (fail))
            (refine BigFrame.wpQuiet_want (by rfl) (fun K hK => quiet_value _ (fun w' hw' => exec_load 26 (.tmp 71) rfl rfl (L3.out w' hw')) (hK _ ?_)); simp only [Act.put, List.setIfInBounds_toArray, List.set_cons_zero, List.set_cons_succ])
            go_big_quiet_step (fail)
            (refine BigFrame.wpQuiet_want (by rfl) (fun K hK => quiet_value _ (fun w' hw' => exec_load 26 (.tmp 73) rfl rfl (L6.out w' hw')) (hK _ ?_)); simp only [Act.put, List.setIfInBounds_toArray, List.set_cons_zero, List.set_cons_succ])
            (refine BigFrame.wpQuiet_want (by rfl) (fun K hK => quiet_value _ (fun w' hw' => exec_bin .neq 26 26 (.tmp 72) (.tmp 74) rfl rfl rfl (neq_mem T.mem sT.m w') (run_eqGuard_agg _ _ _ _ _ _ _ (by kernel_rfl))) (hK _ ?_)); simp only [Act.put, List.setIfInBounds_toArray, List.set_cons_zero, List.set_cons_succ])
            repeat (go_big_quiet_step (fail))
            refine wpQuiet_nil ?_
            intro _ hw'
            obtain ⟨⟨dq, osq⟩, hw''⟩ := hw'
            subst hw''
            have lk := below_regrown wc dq osq
            clear L1 L2 L3 L4 L5 L6 hc9 cr9
            have HT8 := Lib.hid (HT9.out.keep lk)
            have HU8 := Lib.hid (HU.out.keep lk)
            have HK8 := Lib.hid (HK9.out.trans (Keep.of_below lk [bT]))
            generalize grow (redrawn wc dq) osq = wq at *
            clear lk
            have HKR := Lib.hid (HK8.out.trans (Keep.setRow wq bT ⟨V.list⟩))
            have HTR := Lib.hid (HT8.out.setRow V)
            go_wp2_with (first
              | (refine load_tb (T := V) rfl rfl rfl HU8.out sV ?_)
              | (refine store_tb (U := V) rfl rfl rfl rfl HT8.out sT sV ?_))
            go_roundw
            case rel => exact ⟨k + 1, V, by omega, by go_num, HC9.out, HTR.out, HKR.out⟩
            case measure => simp [intOf]; omega
end Go.Proofs.Ytikeiocgnjdhbaa
