/- Due. -/
import Derived.Test.YtkhfbnlmjnbhmaaAwake
namespace Go.Proofs.Ytkhfbnlmjnbhmaa
open Go.RowKit Go.Sort
set_option linter.unusedVariables false

theorem dues_step {S : List Tm} (hd : Dist S) {x : Tm} (hm : Min S x) {now : Nat} (hle : x.2.1 ≤ now) :
    dues now S.length S = (x :: (dues now (wo S x.1).length (wo S x.1)).1, (dues now (wo S x.1).length (wo S x.1)).2) := by
  have hl := wo_len hd hm.mem
  rw [← hl]
  show (match minOf S with | none => _ | some x => _) = _
  rw [hm.minOf hd]
  show (if x.2.1 ≤ now then _ else _) = _
  rw [if_pos hle]
theorem dues_stop {S : List Tm} (hd : Dist S) {x : Tm} (hm : Min S x) {now : Nat} (hle : ¬ x.2.1 ≤ now) : ∀ n, dues now n S = ([], S)
  | 0 => rfl
  | n + 1 => by
    show (match minOf S with | none => _ | some x => _) = _
    rw [hm.minOf hd]
    show (if x.2.1 ≤ now then _ else _) = _
    rw [if_neg hle]
theorem dues_nil (now : Nat) : ∀ n, dues now n [] = ([], [])
  | 0 => rfl
  | n + 1 => rfl
theorem u64_info : (Try.prog.info? 32).map (fun i => (i.zero, i.size, i.bytes)) = some (some (.int .u64 0), 1, 8) := by kernel_rfl
abbrev idc (l : List Tm) : List Value := fl c1 (l.map (·.1))
theorem idc_app (l m : List Tm) : idc (l ++ m) = idc l ++ idc m := by simp [idc, fl_app]

set_option maxRecDepth 10000 in
set_option maxHeartbeats 8000000 in
theorem due_any {B hb rate milli sets : Nat} {S : List Tm} {Bs : List Nat} (w : World) (h : Clk w B hb Bs rate milli sets S) :
    Calls Try.prog 19 #[.pointer (some ⟨hb, 0, none⟩)] w fun e w' => ∃ v, e = .returned v ∧ w'.ownsRow w.heap.size 32 1 v (dues (milli / 1000) S.length S).1.length (idc (dues (milli / 1000) S.length S).1) ∧
      Clk w' B hb Bs rate milli sets (dues (milli / 1000) S.length S).2 ∧ Keep Bs w w' := by
  have HBL := Lib.hid (fun q hq => (h.blocks q hq).2)
  have HC := Lib.hid h
  have hfew : S.length ≤ 256 := by obtain ⟨gm, ao, cap, l, f, _, h1⟩ := h; have := h1.hp.few; have := h1.hs.len; omega
  obtain ⟨i0, hi0, hz0, hz1, hz2⟩ := info_parts u64_info
  have HI0 := Lib.hid hi0; have HZ0 := Lib.hid hz0; have HZ1 := Lib.hid hz1; have HZ2 := Lib.hid hz2
  clear h hi0 hz0 hz1 hz2
  generalize hnow : milli / 1000 = now at *
  have HNOW := Lib.hid hnow; clear hnow
  obtain ⟨D, hD⟩ : ∃ D, dues now S.length S = D := ⟨_, rfl⟩
  rw [hD]
  have HD := Lib.hid hD; clear hD
  go_enter Try.func19, Try.ntmps19
  go_wp2_with fail
  go_loopw [3] (fun s wr => ∃ acc S', wr.ownsRow w.heap.size 32 1 s acc.length (idc acc) ∧ Clk wr B hb Bs rate milli sets S' ∧ D = (acc ++ (dues now S'.length S').1, (dues now S'.length S').2) ∧ Keep Bs w wr ∧ acc.length + S'.length = S.length) (fun s _ => S.length - (match s with | .slice _ n _ => n | _ => 0))
  case atStart => exact ⟨[], S, World.ownsRow_nil _ _ _ _, HC.out, by rw [← HD.out]; rfl, Keep.refl _ _, by simp⟩
  case round =>
    clear HC HD
    obtain ⟨acc, S', hown, hc, hdu, hk, hlen⟩ := hrel
    obtain ⟨ao1, cap1, rfl, hle1, hmx1⟩ := owns_shape hown
    have HC := Lib.hid hc; have HOWN := Lib.hid hown; have HDU := Lib.hid hdu; have HK := Lib.hid hk
    have C1 := Lib.hid (fun (d : Nat) (os : Array Obj) => Calls.regrown_of (same_below (count_any _ (hc.below (below_regrown wr d os)))))
    clear hown hdu hk
    by_cases h0 : 0 < S'.length
    · obtain ⟨gm, ao, cap, l, f, rfl, hW⟩ := hc
      have hll := hW.hs.len
      obtain ⟨g, rfl, hg, hgb, hn1, hn2, x0, x1, x2⟩ := hW.hp.at_ 0 (by omega)
      have HMIN := Lib.hid (hW.hs.top (by omega))
      have HDST := Lib.hid hW.hs.dist
      have hfit := hW.hp.fits 0 (by omega)
      have HREM := Lib.hid (hW.hs.fwd 0 (by omega))
      have c2 := hW.hp.cl
      rw [hll] at c2
      have HWW := Lib.hid hW
      simp only [Nat.zero_mul, Nat.zero_add] at x0 x1 x2
      obtain ⟨x, hx⟩ : ∃ x, tm l 0 = x := ⟨_, rfl⟩
      rw [hx] at HMIN HREM hfit x0 x1 x2
      have C2 := Lib.hid (fun (d : Nat) (os : Array Obj) => Calls.regrown_of (same_below (now_any _ (HC.out.below (below_regrown wr d os)))))
      rw [HNOW.out] at C2
      obtain ⟨fx1, fx2, fx3⟩ := hfit
      have hd1 : decide ((S'.length : Int) > 0) = true := by simp; omega
      have hd1' : decide ((0 : Int) < (S'.length : Int)) = true := by simp; omega
      have r2 := cell_regrown c2; have rx1 := cell_regrown x1
      clear hW hll hx
      obtain ⟨L, hL⟩ : ∃ L, S'.length = L := ⟨_, rfl⟩
      have HL := Lib.hid hL
      rw [hL] at hd1 hd1' C1 c2 r2 h0 hlen
      have hLw : L ≤ 256 := by omega
      clear hL
      by_cases hdue : x.2.1 ≤ now
      · have hd2 : decide ((x.2.1 : Int) ≤ (now : Int)) = true := by simp; omega
        go_wp2_with fail
        refine wp_region_quiet_below (by kernel_rfl) (by kernel_rfl) ?_
        repeat (go_big_quiet_step (first | exact C1.out _ _ | exact C2.out _ _))
        refine wpQuiet_nil ?_
        intro _ hw'
        obtain ⟨⟨dq, osq⟩, hw''⟩ := hw'
        subst hw''
        have lk := below_regrown wr dq osq
        have q2 := r2 dq osq
        have q0 := (cell_regrown x0) dq osq
        have HW2 := Lib.hid (HWW.out.keep (Keep.of_below lk []) (by simp))
        have HOWN2 := Lib.hid (owns_keep HOWN.out (Keep.of_below lk []) (by simp))
        have hsw : w.heap.size ≤ (grow (redrawn wr dq) osq).heap.size := Nat.le_trans HK.out.size lk.size
        have HLK := Lib.hid lk
        clear r2 rx1 c2 x0 x1 x2 lk
        generalize grow (redrawn wr dq) osq = w2 at *
        go_wp2_with fail
        refine (remove_any w2 x.1 0 fx1 HW2.out.hp HW2.out.hs HREM.out).mono ?_; rintro e w3 ⟨rfl, l', f', h1, h2, h3, h5⟩
        have hq := HW2.out
        have CK : Hid (Clk w3 B hb (hb :: gm :: blk (some ⟨g, 0, none⟩)) rate milli sets (wo S' x.1)) := Lib.hid ⟨gm, _, cap, l', f', rfl, h1, h2, (h5.cell 0 (by omega)).trans hq.k0, (h5.cell 1 (by omega)).trans hq.k1, (h5.cell 4 (by omega)).trans hq.k4, (h5.frozen 0).trans hq.f0, (h5.frozen 1).trans hq.f1, (h5.frozen 4).trans hq.f4, hq.rt, hq.ml, fun y hy => hq.sr y (wo_mem.1 hy).1⟩
        have HOWN3 := Lib.hid (owns_keep HOWN2.out h3 (blk_own _ _ _ (fun q hq hm => by have e1 := (owns_blk HOWN2.out q hq).1; have e2 := HBL.out q hm; omega)))
        have HK3 := Lib.hid h3
        have hsw3 : w.heap.size ≤ w3.heap.size := Nat.le_trans hsw h3.size
        clear h1 h2 h3 h5 hq q0 q2
        go_wp2_with (at_builtin; refine wpList_append_lies _ rfl (.tmp 34) (.tmp 36) 49 rfl w.heap.size 32 i0 (.int .u64 0) 1 8 Try.underlying49 HI0.out HZ0.out HZ1.out HZ2.out rfl (by omega) (.slice ao1 acc.length cap1) acc.length (idc acc) rfl (HOWN3.out.alloc _) ⟨w3.heap.size, 0, none⟩ 1 1 [.int .u64 (x.1 : Int)] rfl rfl (World.news_of_block (cs := #[.int .u64 (x.1 : Int)]) (t := 32) (fr := (0, 0)) (heap_alloc_new w3 _)) (by simp [Value.oneCell']) (by omega) (by unfold maxLen; omega) (by omega) (by simp; omega) (w3.heap.size + 1) (by simp) ?_; intro gg cap4 w4 hown4 hgrow4 hat4 hlt4)
        have kg := (Keep.of_below (below_alloc (Below.refl _ w3) _) (blk ao1)).trans (keep_grown hgrow4)
        have hbk : ∀ q ∈ blk ao1, w.heap.size ≤ q := fun q hq => (owns_blk HOWN3.out q hq).1
        have CK4 := Lib.hid (CK.out.keep kg (fun q hq hm => by have e1 := hbk q hm; have e2 := HBL.out q hq; omega))
        have kk : Keep (hb :: gm :: blk (some ⟨g, 0, none⟩)) w w4 := by
          have t1 := (HK.out.trans ((Keep.of_below HLK.out _).trans HK3.out)).mono (T := (hb :: gm :: blk (some ⟨g, 0, none⟩)) ++ blk ao1) (fun q hq => .inl (List.mem_append_left _ hq))
          have t2 := kg.mono (T := (hb :: gm :: blk (some ⟨g, 0, none⟩)) ++ blk ao1) (fun q hq => .inl (List.mem_append_right _ hq))
          exact (t1.trans t2).mono (fun q hq => by
            rcases List.mem_append.1 hq with h | h
            · exact .inl h
            · exact .inr (hbk q h))
        have HKK := Lib.hid kk; have HO4 := Lib.hid hown4
        have hwl := wo_len HDST.out HMIN.out.mem
        have HDU4 : Hid (D = ((acc ++ [x]) ++ (dues now (wo S' x.1).length (wo S' x.1)).1, (dues now (wo S' x.1).length (wo S' x.1)).2)) := Lib.hid (by
          rw [HDU.out, dues_step HDST.out HMIN.out hdue, List.append_assoc]; rfl)
        have HLN : Hid ((acc ++ [x]).length + (wo S' x.1).length = S.length) := Lib.hid (by rw [List.length_append]; have := HL.out; simp; omega)
        clear kg hbk kk hown4 hgrow4 hat4 hwl
        go_wp2_with fail
        go_roundw
        case rel => exact ⟨acc ++ [x], wo S' x.1, by rw [List.length_append, idc_app]; exact HO4.out, CK4.out, HDU4.out, HKK.out, HLN.out⟩
        case measure => simp; omega
      · have hd2 : decide ((x.2.1 : Int) ≤ (now : Int)) = false := by simp; omega
        go_wp2_with fail
        refine wp_region_quiet_below (by kernel_rfl) (by kernel_rfl) ?_
        repeat (go_big_quiet_step (first | exact C1.out _ _ | exact C2.out _ _))
        refine wpQuiet_nil ?_
        intro _ hw'
        obtain ⟨⟨dq, osq⟩, hw''⟩ := hw'
        subst hw''
        have lk := Lib.hid (below_regrown wr dq osq)
        have HDU4 : Hid (D = (acc, S')) := Lib.hid (by rw [HDU.out, dues_stop HDST.out HMIN.out hdue]; simp)
        clear r2 rx1 c2 x0 x1 x2
        generalize grow (redrawn wr dq) osq = w2 at *
        go_wp2_with fail
        go_ret
        rw [HDU4.out]
        exact ⟨_, rfl, owns_keep HOWN.out (Keep.of_below lk.out []) (by simp), HC.out.below lk.out, HK.out.trans (Keep.of_below lk.out _)⟩
    · have hs0 : S' = [] := List.eq_nil_of_length_eq_zero (by omega)
      subst hs0
      have hd1 : decide ((0 : Int) < 0) = false := rfl
      clear hc
      go_wp2_with fail
      refine wp_region_quiet_below (by kernel_rfl) (by kernel_rfl) ?_
      repeat (go_big_quiet_step (first | exact C1.out _ _))
      refine wpQuiet_nil ?_
      intro _ hw'
      obtain ⟨⟨dq, osq⟩, hw''⟩ := hw'
      subst hw''
      have lk := Lib.hid (below_regrown wr dq osq)
      have HDU4 : Hid (D = (acc, [])) := Lib.hid (by rw [HDU.out, dues_nil]; simp)
      generalize grow (redrawn wr dq) osq = w2 at *
      go_wp2_with fail
      go_ret
      rw [HDU4.out]
      exact ⟨_, rfl, owns_keep HOWN.out (Keep.of_below lk.out []) (by simp), HC.out.below lk.out, HK.out.trans (Keep.of_below lk.out _)⟩
end Go.Proofs.Ytkhfbnlmjnbhmaa
