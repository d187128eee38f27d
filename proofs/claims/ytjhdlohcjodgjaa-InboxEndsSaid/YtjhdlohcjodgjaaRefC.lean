/- The document's calls: Next, Open, Close. -/
import Derived.Test.YtjhdlohcjodgjaaRefB
namespace Go.Proofs.Ytjhdlohcjodgjaa
open Go.RowKit
set_option linter.unusedVariables false

section
variable {w w' : World} {B rb cap : Nat} {ao : Option Addr} {T : List Cal} {C : Cfg}
/-- the least due of the first k calls -/
def Least (l : List Cal) (k d : Nat) : Prop := (∃ x ∈ l.take k, x.due = d) ∧ ∀ y ∈ l.take k, d ≤ y.due
theorem Least.one {x : Cal} {r : List Cal} : Least (x :: r) 1 x.due := ⟨⟨x, by simp, rfl⟩, by simp⟩
theorem Least.next {l : List Cal} {k d : Nat} (h : Least l k d) {x : Cal} (hx : l[k]? = some x) : Least l (k + 1) (if x.due < d then x.due else d) := by
  have hk := (List.getElem?_eq_some_iff.1 hx).1
  have hx2 := (List.getElem?_eq_some_iff.1 hx).2
  obtain ⟨⟨y, hy, hyd⟩, h2⟩ := h
  unfold Least
  rw [List.take_succ_eq_append_getElem hk, hx2]
  split
  · rename_i hlt
    refine ⟨⟨x, by simp, rfl⟩, fun z hz => ?_⟩
    rcases List.mem_append.1 hz with h | h
    · have := h2 z h; omega
    · simp at h; subst h; omega
  · rename_i hlt
    refine ⟨⟨y, by simp [hy], hyd⟩, fun z hz => ?_⟩
    rcases List.mem_append.1 hz with h | h
    · exact h2 z h
    · simp at h; subst h; omega
set_option maxRecDepth 100000 in
set_option maxHeartbeats 4000000 in
theorem rnext_any (w : World) (h : RefW w B rb ao cap T C) (hT : T.length ≤ 1000) : Calls Try.prog 18 #[.pointer (some ⟨rb, 0, none⟩)] w fun e w' => NextIs (live T) e ∧ Below w.heap.size w w' := by
  have L1 := Lib.hid (rlist_any w h hT)
  have hfew : (live T).length ≤ 1000 := by have := List.length_filter_le liveB T; unfold live; omega
  clear h
  generalize live T = l at *
  go_enter Try.func18, Try.ntmps18
  go_wp2_with fail
  refine L1.out.mono ?_
  rintro e w1 ⟨v, rfl, hb, ho⟩
  obtain ⟨ao1, cap1, hv1, hle1, hmx1⟩ := owns_shape ho
  subst hv1
  have HB := Lib.hid hb
  cases l with
  | nil =>
    clear ho hb L1
    go_wp2_with fail
    go_ret2
    exact ⟨.inl ⟨rfl, rfl⟩, HB.out⟩
  | cons x0 r =>
    obtain ⟨N, hN⟩ : ∃ N, (x0 :: r).length = N := ⟨_, rfl⟩
    have hN0 : 0 < N := by rw [← hN]; simp
    have HN := Lib.hid hN
    have HO := Lib.hid ho
    obtain ⟨g, c1, hvx, hgl, _, hcell⟩ := owns_row5 ho 0 (by simp) (x := x0) rfl
    have e1 : ao1 = some ⟨g, 0, none⟩ := by injection hvx
    subst e1
    have x4 := hcell 4 (by omega)
    simp only [Nat.zero_mul, Nat.zero_add, List.getElem?_cons_succ, List.getElem?_cons_zero] at x4
    have HL1 := Lib.hid (Least.one (x := x0) (r := r))
    rw [hN] at hfew hle1
    rw [hN]
    clear hN ho hb hcell hvx L1
    go_wp2_with fail
    clear x4
    generalize hl : x0 :: r = l at *
    have HLL := Lib.hid hl
    clear hl
    go_loopw [5, 6] (fun v5 v6 wr => ∃ k d : Nat, v6 = .int .i64 (k : Int) ∧ v5 = .int .i64 (d : Int) ∧ k ≤ N ∧ Least l k d ∧ wr = w1) (fun v5 v6 _ => N - (intOf v6).toNat)
    case atStart => exact ⟨1, x0.due, rfl, rfl, by omega, HL1.out, rfl⟩
    case round =>
      obtain ⟨k, d, rfl, rfl, hk, hL, rfl⟩ := hrel
      have HL := Lib.hid hL
      clear hL HL1
      by_cases hlt2 : k < N
      · obtain ⟨x, hx⟩ : ∃ x, l[k]? = some x := ⟨_, List.getElem?_eq_getElem (by rw [HN.out]; exact hlt2)⟩
        obtain ⟨g', c', hvx', _, _, hcell'⟩ := owns_row5 HO.out k (by rw [HN.out]; exact hlt2) hx
        have e2 : g' = g := by injection hvx' with q1; injection q1 with q2; injection q2 with q3; exact q3.symm
        subst e2
        have x4 := hcell' 4 (by omega)
        simp only [List.getElem?_cons_succ, List.getElem?_cons_zero] at x4
        have HNX := Lib.hid (HL.out.next hx)
        clear hcell' hvx' hx
        by_cases hd : x.due < d
        · rw [if_pos hd] at HNX
          go_wp2_with fail
          go_roundw
          case rel => exact ⟨k + 1, x.due, by go_num, rfl, by omega, HNX.out, trivial⟩
          case measure => simp [intOf]; omega
        · rw [if_neg hd] at HNX
          go_wp2_with fail
          go_roundw
          case rel => exact ⟨k + 1, d, by go_num, rfl, by omega, HNX.out, trivial⟩
          case measure => simp [intOf]; omega
      · obtain rfl : N = k := by omega
        have hT2 : l.take N = l := by rw [← HN.out]; exact List.take_length
        have hL := HL.out
        unfold Least at hL
        rw [hT2] at hL
        have HL2 := Lib.hid hL
        clear hL
        go_wp2_with fail
        go_ret2
        exact ⟨.inr ⟨d, by rw [HLL.out]; exact HL2.out, rfl⟩, HB.out⟩
set_option maxHeartbeats 400000 in
theorem ropen_time (to now : Int) (ht : timeB now = false) (w : World) : Calls Try.prog 32 #[.pointer (some ⟨rb, 0, none⟩), .int .i64 to, .int .i64 now] w fun e w' => e = .returned (.tuple #[.int .u64 0, .int .i64 1]) ∧ w = w' := by
  have hn : now < 0 ∨ 1099511627776 < now := by unfold timeB at ht; simp at ht; omega
  clear ht
  rcases hn with hn | hn
  all_goals
    go_enter Try.func32, Try.ntmps32
    go_wp2_with fail
    go_ret2
    exact ⟨rfl, rfl⟩
set_option maxRecDepth 100000 in
set_option maxHeartbeats 800000 in
theorem ropen_full (to : Int) (now : Nat) (hn : now ≤ 1099511627776) (w : World) (h : RefW w B rb ao cap T C) (hT : T.length ≤ 1000) (hf : (live T).length = C.room) :
    Calls Try.prog 32 #[.pointer (some ⟨rb, 0, none⟩), .int .i64 to, .int .i64 (now : Int)] w fun e w' => e = .returned (.tuple #[.int .u64 0, .int .i64 81]) ∧ w = w' := by
  have CC := Lib.hid (count_any w h hT)
  have c3 := h.at_ 3
  simp only [rowR, List.getElem?_toArray, List.getElem?_cons_succ, List.getElem?_cons_zero] at c3
  have hlt := h.hlt
  rw [hf] at CC
  clear h hf
  go_enter Try.func32, Try.ntmps32
  go_wp2_with (go_at_call 46; refine CC.out.mono ?_; rintro e w1 ⟨rfl, rfl⟩)
  go_ret2
  exact ⟨rfl, rfl⟩
theorem RefW.row_set (h : RefW w B rb ao cap T C) (v : Value) : (w.setCell ⟨rb, 4, none⟩ v).heap[rb]? = some (.cells (rowR C v) 52 (0, 0)) := heap_setCell_same w rb 4 _ _ v h.row
theorem enterRWait : ∀ args w, (callFunc 23 args).run Try.prog w = .ok (.enter 23 args) w := enters_of Try.func23 (by kernel_rfl) rfl
/-- a region's call that leaves the world -/
theorem step_still {w : World} {ops : Array Oper} {o : Oper} {a : Act} {K : Act → World → Prop} {Q : Exit → Act → World → Prop} {E : Prop} {f : Nat} {v vx vy vz : Value} (hgd : o.guard = none) (x y z : Operand) (ts : Array TypeId)
    (ho : o.op = .call { callee := .value (.func f), args := #[x, y, z], argTypes := ts }) (hx : a.eval x = vx) (hy : a.eval y = vy) (hz : a.eval z = vz)
    (eg : ∀ args w, (callFunc f args).run Try.prog w = .ok (.enter f args) w) (hc : Still f #[vx, vy, vz] (.returned v)) (h : K (a.put o.dst v) w) :
    if Region.wanted o (yielded ops a.tmps) = true then Oper.wp Try.prog o a w K Q else E := by
  have hw : Region.wanted o (yielded ops a.tmps) = true := by simp [Region.wanted, hgd]
  rw [if_pos hw]
  have hev : a.eval (.func f) = .func (.func f) #[] #[] := rfl
  unfold Oper.wp execOp
  simp only [ho, resolve, invoke, Sem.run_bind, List.map_toArray, List.map_cons, List.map_nil, hx, hy, hz, hev]
  simp only [Deferred.ofValue, Sem.run_pure, Result.andThen_ok, Array.append_empty, eg, Oper.upon]
  exact (hc w).mono (by rintro e w' ⟨rfl, rfl⟩; exact h)
set_option maxRecDepth 100000 in
set_option maxHeartbeats 8000000 in
theorem ropen_yes (to : Int) (now M : Nat) (hn : now ≤ 1099511627776) (w : World) (h : RefW w B rb ao cap T C) (hT : T.length ≤ 1000) (hf : (live T).length ≠ C.room) (hM : M = T.length + 1) (hB : B ≤ w.heap.size) :
    Calls Try.prog 32 #[.pointer (some ⟨rb, 0, none⟩), .int .i64 to, .int .i64 (now : Int)] w fun e w' => e = .returned (.tuple #[.int .u64 (M : Int), .int .i64 0]) ∧
      ∃ ao' cap', RefW w' B rb ao' cap' (T ++ [opened C M to now]) C ∧ Keep (rb :: blk ao) w w' ∧ ∀ g ∈ blk ao', g ∈ blk ao ∨ w.heap.size ≤ g := by
  have CC := Lib.hid (count_any w h hT)
  have hc0 := h.at_ 0; have hc1 := h.at_ 1; have hc3 := h.at_ 3; have hc4 := h.at_ 4; have f4 := h.fr 4
  simp only [rowR, List.getElem?_toArray, List.getElem?_cons_succ, List.getElem?_cons_zero] at hc0 hc1 hc3 hc4
  have hlt := h.hlt
  have H := Lib.hid h
  have hok := h.ok
  have W1 : Hid (Still 23 #[.int .i64 (C.base : Int), .int .i64 (C.most : Int), .int .i64 0] (.returned (.int .i64 (C.base : Int)))) := Lib.hid (by
    have := rwait_yes C.base C.most 0 (by unfold fairB; simp; unfold Cfg.ok at hok; omega) (by omega)
    rw [waitN_zero (by unfold Cfg.ok at hok; omega)] at this
    exact this)
  have hbm : C.base ≤ 1073741824 := by unfold Cfg.ok at hok; omega
  have HF : Hid ((opened C M to now).fits0) := Lib.hid (by unfold opened Cal.fits0; simp only; omega)
  have hfd : (((live T).length : Int) == (C.room : Int)) = false := by simp; omega
  obtain ⟨i0, hi, hz0, hz1, hz2⟩ := info_parts call_info
  have HI := Lib.hid hi; have HZ0 := Lib.hid hz0; have HZ1 := Lib.hid hz1; have HZ2 := Lib.hid hz2
  generalize (live T).length = LV at *
  obtain ⟨N, hN⟩ : ∃ N, T.length = N := ⟨_, rfl⟩
  have HN := Lib.hid hN
  rw [hN] at hT hc4 hM
  have hM2 : (M : Int) = (N : Int) + 1 := by omega
  have own := h.own
  rw [hN] at own
  have HOW := Lib.hid own
  obtain ⟨b, hb⟩ : ∃ b, C.base = b := ⟨_, rfl⟩
  have HBE := Lib.hid hb
  have HNB := Lib.hid (show rb ∉ blk ao from fun hm => h.ne rb hm rfl)
  have HMM := Lib.hid hM
  clear h hi hz0 hz1 hz2 hN own hok hf hM
  rw [hb] at hc0 W1 hbm
  generalize hmo : C.most = mo at *
  clear hmo
  have r0 := hc0
  go_enter Try.func32, Try.ntmps32
  go_wp2_with (go_at_call 46; refine CC.out.mono ?_; rintro e w1 ⟨rfl, rfl⟩)
  have HFR := Lib.hid f4; have HC4 := Lib.hid hc4
  have hwr : IntKind.i64.wrap ((now : Int) + (b : Int)) = (now : Int) + (b : Int) := by simp [IntKind.wrap, IntKind.bits, IntKind.signed]; omega
  go_region_law (first
    | (refine step_still (by rfl) (.tmp 43) (.tmp 47) (.const (.int .i64 0)) _ (by rfl) (by rfl) (by rfl) (by rfl) enterRWait W1.out ?_)
    | (refine step_append_lies _ (by rfl) (.tmp 35) (.tmp 51) 50 (by rfl) B 70 i0 _ 5 40 Try.underlying50 HI.out HZ0.out HZ1.out HZ2.out rfl (by omega) (.slice ao N cap) N (lc T) (by rfl) ((HOW.out.alloc _).drew) ⟨w.heap.size, 0, none⟩ 1 1 [.int .u64 ((N : Int) + 1), .int .i64 to, .int .i64 (now : Int), .int .i64 1, .int .i64 ((now : Int) + (b : Int))] (by rfl) (by rfl) (World.news_of_block (cs := #[.int .u64 ((N : Int) + 1), .int .i64 to, .int .i64 (now : Int), .int .i64 1, .int .i64 ((now : Int) + (b : Int))]) (t := 70) (fr := (0, 0)) (heap_alloc_new w _)) (by simp [Value.oneCell']) (by omega) (by unfold maxLen; omega) (by omega) (by simp; omega) (w.heap.size + 1) (by simp) ?_; intro gg cap1 w1 hown1 hgrow hat hlt1; have kg := (Keep.of_below ((below_alloc (Below.refl _ w) _).drew) (blk ao)).trans (keep_grown hgrow); have cl1 := (kg.cell (a := ⟨rb, 4, none⟩) hlt HNB.out).trans HC4.out; have fr1 := (kg.frozen (a := ⟨rb, 4, none⟩) hlt HNB.out).trans HFR.out))
  all_goals
    have KG := Lib.hid kg; have HO1 := Lib.hid hown1; have HAT := Lib.hid hat
    have HRW := Lib.hid ((kg.block rb hlt HNB.out).trans H.out.row)
    clear kg hown1 hat hgrow
    go_wp2_with fail
    go_ret2
    refine ⟨by rw [hM2]; rfl, some ⟨gg, 0, none⟩, cap1, ?_, ?_, ?_⟩
    · have k2 := Keep.setCell w1 ⟨rb, 4, none⟩ (.slice (some ⟨gg, 0, none⟩) (N + 1) cap1)
      have hgr : gg ≠ rb := by
        rcases HAT.out with h1 | h1
        · intro e; subst e; cases ao with
          | none => cases h1
          | some a => simp [Value.ownBlock] at h1; exact HNB.out (by simp [blk, h1])
        · omega
      have hl : (T ++ [opened C M to now]).length = N + 1 := by rw [List.length_append, HN.out]; rfl
      have hop : (opened C M to now).list = [.int .u64 ((N : Int) + 1), .int .i64 to, .int .i64 (now : Int), .int .i64 1, .int .i64 ((now : Int) + (b : Int))] := by
        unfold opened
        simp only [Cal.list]
        rw [HBE.out]
        simp; omega
      refine ⟨?_, ?_, fun q hq => by simp [blk] at hq; omega, H.out.base, fun i x hx => ?_, fun x hx => ?_, H.out.ok⟩
      · rw [hl]
        exact heap_setCell_same w1 rb 4 _ _ _ HRW.out
      · rw [hl, lc, fl_app, fl_one, hop]
        exact owns_keep HO1.out k2 (fun q hq hm => by simp [Value.ownBlock] at hq hm; omega)
      · by_cases hi : i < T.length
        · rw [List.getElem?_append_left hi] at hx; exact H.out.ids i x hx
        · have hi2 := (List.getElem?_eq_some_iff.1 hx).1
          rw [List.length_append] at hi2
          have e : i = T.length := by simp at hi2; omega
          subst e
          simp at hx
          subst hx
          rw [HN.out]
          exact HMM.out
      · rcases List.mem_append.1 hx with h1 | h1
        · exact H.out.fine x h1
        · simp at h1; subst h1; exact HF.out
    · exact (KG.out.mono (fun q hq => .inl (List.mem_cons_of_mem _ hq))).trans ((Keep.setCell w1 ⟨rb, 4, none⟩ _).mono (by simp))
    · intro q hq
      simp [blk] at hq
      subst hq
      rcases HAT.out with h1 | h1
      · left; cases ao with
        | none => cases h1
        | some a => simp [Value.ownBlock] at h1; simp [blk, h1]
      · right; omega
end
end Go.Proofs.Ytjhdlohcjodgjaa
