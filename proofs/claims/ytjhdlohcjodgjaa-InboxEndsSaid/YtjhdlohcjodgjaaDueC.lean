/- Due. -/
import Derived.Test.YtjhdlohcjodgjaaDueB
namespace Go.Proofs.Ytjhdlohcjodgjaa
open Go.RowKit
set_option linter.unusedVariables false

section
variable {B hn gm made : Nat} {S : List Cal} {C : Cfg}
/-- what Due leaves -/
def DueEnd (B hn gm made : Nat) (S : List Cal) (C : Cfg) (now : Nat) (w : World) (e : Ending) (w' : World) : Prop :=
  ∃ l va vo, l.Perm (S.filter fun x => decide (x.due ≤ now)) ∧ SortedBy cfDue l ∧ e = .returned (.tuple #[va, vo]) ∧ CalsW w' B hn gm (dueRun C now S l).S C made ∧ Keep [gm] w w' ∧
    w'.ownsRow w.heap.size 70 5 va (dueRun C now S l).again.length (lc (dueRun C now S l).again) ∧ w'.ownsRow w.heap.size 70 5 vo (dueRun C now S l).over.length (lc (dueRun C now S l).over) ∧ Apart va vo
set_option maxRecDepth 100000 in
set_option maxHeartbeats 8000000 in
theorem due_any (now : Nat) (hnow : now ≤ 1099511627776) (w : World) (h : CalsW w B hn gm S C made) :
    Calls Try.prog 26 #[.pointer (some ⟨hn, 0, none⟩), .int .i64 (now : Int)] w (DueEnd B hn gm made S C now w) := by
  have C1 := Lib.hid (istime_any now)
  rw [show timeB (now : Int) = true by unfold timeB; simp; omega] at C1
  have b0 := below_alloc (Below.refl w.heap.size w) (.cells #[.int .i64 (now : Int)] 2)
  have cn : (w.alloc (.cells #[.int .i64 (now : Int)] 2)).cell? ⟨w.heap.size, 0, none⟩ = some (.int .i64 (now : Int)) := by go_simp
  have SO := Lib.hid (sorted_any 44 #[.pointer (some ⟨w.heap.size, 0, none⟩)] (fun x => decide (x.due ≤ now)) 36 cfDue swoDue enterDue enterIsDue bydue_any _ (h.below b0)
    (fun x W b => isdue_any w.heap.size now x W ((b.cell (p := ⟨w.heap.size, 0, none⟩) (by simp)).trans cn)))
  have H := Lib.hid h; have B0 := Lib.hid b0; have CN := Lib.hid cn
  have hlts := h.lts
  obtain ⟨i0, hi, hz0, hz1, hz2⟩ := info_parts call_info
  have HI := Lib.hid hi; have HZ0 := Lib.hid hz0; have HZ1 := Lib.hid hz1; have HZ2 := Lib.hid hz2
  clear h b0 cn hi hz0 hz1 hz2
  go_enter Try.func26, Try.ntmps26
  go_wp2_with (first | (go_at_call 39; refine (C1.out _).mono ?_; rintro e w1 ⟨rfl, rfl⟩))
  refine SO.out.mono ?_
  rintro e w1 ⟨v, l, rfl, hb, hp, hs, ho⟩
  have HP := Lib.hid hp; have HS := Lib.hid hs
  have hb1 : Below w.heap.size w w1 := below_next B0.out hb
  obtain ⟨N, hN⟩ : ∃ N, l.length = N := ⟨_, rfl⟩
  have HN := Lib.hid hN
  have hlN : N ≤ 256 := by
    have e1 := hp.length_eq
    have e2 := List.length_filter_le (fun x : Cal => decide (x.due ≤ now)) S
    have e3 := H.out.few; have e4 := H.out.ok.2.1
    omega
  have hsz1 : (w.alloc (.cells #[.int .i64 (now : Int)] 2)).heap.size = w.heap.size + 1 := by simp
  rw [hN, hsz1] at ho
  have ho1 : w1.ownsRow w.heap.size 70 5 v N (lc l) := owns_base ho (by omega)
  obtain ⟨ao, cap, hv, hle, hmx⟩ := owns_shape ho1
  subst hv
  have HNB : Hid (∀ g, (Value.slice ao N cap).ownBlock = some g → w.heap.size + 2 ≤ g) := Lib.hid (fun g hg => (owns_lt ho g hg).1)
  have hmem : ∀ x ∈ l, x ∈ S ∧ x.due ≤ now := fun x hx => by
    have := hp.mem_iff.1 hx
    simpa [List.mem_filter] using this
  have hids : (l.map (·.id)).Nodup := by
    have e1 : ((S.filter fun x => decide (x.due ≤ now)).map (·.id)).Nodup := by
      rw [List.nodup_iff_pairwise_ne, List.pairwise_map]
      exact (H.out.inc.sublist List.filter_sublist).imp fun h => by omega
    exact (hp.map (·.id)).nodup_iff.2 e1
  have HM := Lib.hid hmem; have HD := Lib.hid hids
  have hc1 : w1.cell? ⟨w.heap.size, 0, none⟩ = some (.int .i64 (now : Int)) := (hb.cell (p := ⟨w.heap.size, 0, none⟩) (by simp)).trans CN.out
  have hst : CalsW w1 B hn gm (dueRun C now S (l.take 0)).S C made := by simpa [dueRun] using H.out.below hb1
  have hlt1 : w.heap.size < w1.heap.size := by have := hb.size; simp at this; omega
  have hrel0 : DueRel w w1 B hn gm made S C now l (.slice ao N cap) (.slice none 0 0) (.slice none 0 0) 0 w1 :=
    ⟨hst, Keep.refl _ _, World.ownsRow_nil _ _ _ _, World.ownsRow_nil _ _ _ _, by rw [hN]; exact ho1, fun g hg => (by cases hg), fun g hg => (by cases hg), fun g hg => (by cases hg), fun g hg => (by cases hg), fun g hg => (by cases hg), HNB.out, hlts, hlt1⟩
  have HREL0 := Lib.hid hrel0; have HB1 := Lib.hid hb1; have HC1 := Lib.hid hc1
  clear hp hs hb hb1 hN ho ho1 hmem hids hst SO hc1 hrel0
  go_wp2_with fail
  go_loopw [6, 7, 9, 17] (fun v6 v7 v9 v17 wr => ∃ k : Nat, v17 = .int .i64 (k : Int) ∧ k ≤ N ∧ DueRel w w1 B hn gm made S C now l (.slice ao N cap) v6 v7 k wr) (fun v6 v7 v9 v17 _ => N - (intOf v17).toNat)
  case atStart => exact ⟨0, rfl, Nat.zero_le _, HREL0.out⟩
  case round =>
    clear HREL0
    obtain ⟨k, rfl, hk, hrl⟩ := hrel
    obtain ⟨ao6, cap6, hv6, hle6, hmx6⟩ := owns_shape hrl.o6
    obtain ⟨ao7, cap7, hv7, hle7, hmx7⟩ := owns_shape hrl.o7
    subst hv6 hv7
    have HRL := Lib.hid hrl
    have hlens := dueRun_lens C now S (l.take k)
    rw [List.length_take, HN.out, Nat.min_eq_left hk] at hlens
    by_cases hlt : k < N
    · obtain ⟨x, hx⟩ : ∃ x, l[k]? = some x := ⟨_, List.getElem?_eq_getElem (by rw [HN.out]; exact hlt)⟩
      have hxS := HM.out x (List.mem_of_getElem? hx)
      have hlk := dueRun_look C now S l HD.out k hx (H.out.inc.look hxS.1)
      have HSU := Lib.hid (dueRun_succ C now S l k hx)
      have hfit := H.out.fine x hxS.1
      have hxid := H.out.ids x hxS.1
      have hbig := H.out.big
      have hos := hrl.os
      rw [HN.out] at hos
      obtain ⟨g, capx, hvx, hgl, hgb, hcell⟩ := owns_row5 (by rw [HN.out]; exact hos : wr.ownsRow w.heap.size 70 5 (.slice ao N cap) l.length (lc l)) k (by rw [HN.out]; exact hlt) hx
      rw [HN.out] at hvx
      have e1 : ao = some ⟨g, 0, none⟩ := by injection hvx
      subst e1
      clear hvx
      have x0 := hcell 0 (by omega); have x1 := hcell 1 (by omega); have x2 := hcell 2 (by omega); have x3 := hcell 3 (by omega); have x4 := hcell 4 (by omega)
      simp only [Nat.add_zero, List.getElem?_cons_succ, List.getElem?_cons_zero] at x0 x1 x2 x3 x4
      have c3 := hrl.st.at_ 3; have c5 := hrl.st.at_ 5
      simp only [rowC, List.getElem?_toArray, List.getElem?_cons_succ, List.getElem?_cons_zero] at c3 c5
      have hltn := hrl.st.hlt
      have b1 := below_alloc (Below.refl wr.heap.size wr) (boxc x)
      have hbx := fun i => cell_of_row (wr.alloc (boxc x)) wr.heap.size i _ _ (0, 0) (heap_alloc_new wr (boxc x))
      have hne : wr.heap.size ≠ gm := by have := hrl.st.lts; omega
      have HLK := Lib.hid hlk
      have hlen6 : (dueRun C now S (l.take k)).again.length ≤ 256 := by omega
      have hlen7 : (dueRun C now S (l.take k)).over.length ≤ 256 := by omega
      have h6 := hrl.o6; have h7 := hrl.o7
      have HN7 := Lib.hid hrl.n7; have HN6 := Lib.hid hrl.n6
      have hkz := hrl.keep.size
      by_cases hov : C.tries ≤ x.tries
      · have hc2 := hrl.st.below b1.drew.drew
        obtain ⟨w3, hr, hm3, k3⟩ := hc2.del hlk 0
        have q0 := (k3.cell (a := ⟨wr.heap.size, 0, none⟩) (by simp) (by simpa using hne)).trans (hbx 0)
        have q1 := (k3.cell (a := ⟨wr.heap.size, 1, none⟩) (by simp) (by simpa using hne)).trans (hbx 1)
        have q2 := (k3.cell (a := ⟨wr.heap.size, 2, none⟩) (by simp) (by simpa using hne)).trans (hbx 2)
        have q3 := (k3.cell (a := ⟨wr.heap.size, 3, none⟩) (by simp) (by simpa using hne)).trans (hbx 3)
        have q4 := (k3.cell (a := ⟨wr.heap.size, 4, none⟩) (by simp) (by simpa using hne)).trans (hbx 4)
        simp only [List.getElem?_toArray, List.getElem?_cons_succ, List.getElem?_cons_zero] at q0 q1 q2 q3 q4
        have d5 := hm3.at_ 5
        simp only [rowC, List.getElem?_toArray, List.getElem?_cons_succ, List.getElem?_cons_zero] at d5
        have kk := (Keep.of_below b1.drew.drew [gm]).trans k3
        have h73 : w3.ownsRow w.heap.size 70 5 (.slice ao7 (dueRun C now S (l.take k)).over.length cap7) _ _ := owns_keep h7 kk (fun q hq hm => by simp at hm; have := HN7.out q hq; have := hrl.lt; have := hrl.le; omega)
        have HO73 := Lib.hid h73
        have OVER := Lib.hid (fun v' w5 => hrl.over (w4 := w3.alloc (boxc x)) (w5 := w5) (v' := v') HSU.out hov kk hm3 rfl)
        have c5a : ((wr.alloc (boxc x)).drew.drew).cell? ⟨hn, 5, none⟩ = some (.map (some gm)) := hc2.at_ 5
        have b0' : ((wr.alloc (boxc x)).drew.drew).cell? ⟨wr.heap.size, 0, none⟩ = some (.int .u64 (x.id : Int)) := hbx 0
        have hS := And.intro c5a b0'
        have hS3 := And.intro d5 q0
        have hwx : wr.heap.size < w3.heap.size := Nat.lt_of_lt_of_le (by simp) k3.size
        have HR := Lib.hid hr
        obtain ⟨xi, xt, xs, xtr, xd⟩ := x
        simp only at x0 x1 x2 x3 x4 hov hS hS3 q0 q1 q2 q3 q4
        have hovd : decide ((C.tries : Int) ≤ (xtr : Int)) = true := by simp; omega
        have hwsz : w.heap.size ≤ w3.heap.size := by have := hrl.le; omega
        clear hc2 hm3 k3 b1 hbx b0' c5a hr kk h73 h6 h7 hrl hos hcell HLK hlk HSU hlens hx
        go_wp2_with fail
        go_region
        go_wp2_with fail
        go_region_held3 (fun W => W.cell? ⟨hn, 5, none⟩ = some (.map (some gm)) ∧ W.cell? ⟨wr.heap.size, 0, none⟩ = some (.int .u64 (xi : Int)))
          (first | exact hS | exact hS3 | assumption)
          (refine step_del (by rfl) (.tmp 31) (.tmp 33) (by rfl) (by rfl) (by rfl) HR.out ?_)
        generalize (dueRun C now S (l.take k)).again.length = L6 at *
        generalize (dueRun C now S (l.take k)).over.length = L7 at *
        go_wp2_with (at_builtin; refine wpList_append_own_at _ rfl (.tmp 34) (.tmp 36) 50 rfl w.heap.size 70 i0 zpk 5 40 Try.underlying50 HI.out HZ0.out HZ1.out HZ2.out rfl (by omega) _ L7 _ rfl (HO73.out.alloc _) ⟨w3.heap.size, 0, none⟩ 1 1 (Cal.list ⟨xi, xt, xs, xtr, xd⟩) rfl rfl (World.news_of_block (cs := Cal.cells ⟨xi, xt, xs, xtr, xd⟩) (t := 70) (fr := (0, 0)) (heap_alloc_new w3 _)) (by simp [Value.oneCell']) (by unfold maxLen; omega) (by omega) (by simp; omega) ?_; intro v8 w5 hown5 hg5 hv5 hob5)
        have hS := OVER.out v8 w5 hown5 hg5 hob5
        clear hown5 hg5 hv5 hob5 HO73 OVER
        go_wp2_with fail
        go_roundw
        case rel => exact ⟨k + 1, by go_num, by omega, hS⟩
        case measure => simp [intOf]; omega
      · have TR := Lib.hid (tried_any _ (hrl.st.below b1.drew) x (by unfold Cal.fits at hfit; omega) now hnow)
        have hyf := triedC_fits C H.out.ok x hfit now hnow hov
        have hyi := triedC_id C x now
        have AG := Lib.hid (fun w3 w5 v' kk hm => hrl.again (w3 := w3) (w4 := w3.alloc (boxc (triedC C x now))) (w5 := w5) (v' := v') HSU.out hov kk hm rfl)
        obtain ⟨y, hy⟩ : ∃ y, triedC C x now = y := ⟨_, rfl⟩
        rw [hy] at TR hyf hyi AG
        have hnb : w.heap.size ≠ gm := by have := hrl.lt; omega
        have cnow := (((below_alloc (Below.refl wr.heap.size wr) (boxc x)).drew.cell (p := ⟨w.heap.size, 0, none⟩) (by have := hrl.le; show w.heap.size < wr.heap.size; omega))).trans ((hrl.keep.cell (a := ⟨w.heap.size, 0, none⟩) (by have := hrl.le; show w.heap.size < w1.heap.size; omega) (by simpa using hnb)).trans HC1.out)
        have hgmr := hrl.st.lts
        have hlew := hrl.le
        have R1 := Lib.hid (show Row5 (wr.alloc (boxc x)).drew wr.heap.size _ _ _ _ _ from heap_alloc_new wr (boxc x))
        have HST := Lib.hid hrl.st
        have B1 := Lib.hid b1
        obtain ⟨xi, xt, xs, xtr, xd⟩ := x
        obtain ⟨yi, yt, ys, ytr, yd⟩ := y
        simp only at x0 x1 x2 x3 x4 hov hyi
        subst hyi
        have hovd : decide ((C.tries : Int) ≤ (xtr : Int)) = false := by simp; omega
        have H6 := Lib.hid h6
        clear b1 hbx h6 h7 hrl hos hcell hlk HSU hlens hx hy hfit
        go_wp2_with fail
        go_region
        go_wp2_with fail
        refine TR.out.mono ?_
        rintro e w4 ⟨rfl, b4⟩
        have r4 := R1.out.below b4
        obtain ⟨e0, e1, e2, e3, e4, f0, f1, f2, f3, f4, hlt4⟩ := r4.all
        have k6 := lay5_keep w4 wr.heap.size (.int .u64 (yi : Int)) (.int .i64 yt) (.int .i64 (ys : Int)) (.int .i64 (ytr : Int)) (.int .i64 (yd : Int))
        have hb4 : Below wr.heap.size wr w4 := below_next B1.out.drew b4
        have r6 := lay5_row r4 (.int .u64 (yi : Int)) (.int .i64 yt) (.int .i64 (ys : Int)) (.int .i64 (ytr : Int)) (.int .i64 (yd : Int))
        have hc6 := (HST.out.below hb4).keep k6 (by simp; omega) (by simp; omega)
        have K6 := Lib.hid k6; have HB4 := Lib.hid hb4; have R6 := Lib.hid r6; have HC6 := Lib.hid hc6
        clear r4 b4 R1 hb4 k6 r6 hc6
        go_wp2_with fail
        simp only [lay5] at K6 R6 HC6
        generalize hw6 : (((((w4.setCell ⟨wr.heap.size, 0, none⟩ (.int .u64 (yi : Int))).setCell ⟨wr.heap.size, 1, none⟩ (.int .i64 yt)).setCell ⟨wr.heap.size, 2, none⟩ (.int .i64 (ys : Int))).setCell ⟨wr.heap.size, 3, none⟩ (.int .i64 (ytr : Int))).setCell ⟨wr.heap.size, 4, none⟩ (.int .i64 (yd : Int))) = w6 at *
        clear hw6 e0 e1 e2 e3 e4 f0 f1 f2 f3 f4
        have hd : Below w6.heap.size w6 w6.drew := (Below.refl _ _).drew
        obtain ⟨w7, hr7, hc7, k7⟩ := (HC6.out.below hd).put (x := ⟨yi, yt, ys, ytr, yd⟩) HLK.out hyf
        have hr7 : (Instr.mapUpdate 86 (.map (some gm)) (.int .u64 (yi : Int)) (.agg #[.int .u64 (yi : Int), .int .i64 yt, .int .i64 (ys : Int), .int .i64 (ytr : Int), .int .i64 (yd : Int)])).run Try.prog w6.drew = .ok () w7 := hr7
        have r7 := (R6.out.below hd).keep k7 (by simpa using hne)
        obtain ⟨q0, q1, q2, q3, q4, _, _, _, _, _, hlt7⟩ := r7.all
        obtain ⟨e0, e1, e2, e3, e4, _, _, _, _, _, hlt6⟩ := (R6.out.below hd).all
        have e5 := (HC6.out.below hd).at_ 5; have q5 := hc7.at_ 5
        simp only [rowC, List.getElem?_toArray, List.getElem?_cons_succ, List.getElem?_cons_zero] at e5 q5
        have hS : w6.drew.cell? ⟨hn, 5, none⟩ = some (.map (some gm)) ∧ w6.drew.cell? ⟨wr.heap.size, 0, none⟩ = some (.int .u64 (yi : Int)) ∧ w6.drew.cell? ⟨wr.heap.size, 1, none⟩ = some (.int .i64 yt) ∧ w6.drew.cell? ⟨wr.heap.size, 2, none⟩ = some (.int .i64 (ys : Int)) ∧ w6.drew.cell? ⟨wr.heap.size, 3, none⟩ = some (.int .i64 (ytr : Int)) ∧ w6.drew.cell? ⟨wr.heap.size, 4, none⟩ = some (.int .i64 (yd : Int)) := ⟨e5, e0, e1, e2, e3, e4⟩
        have hS7 : w7.cell? ⟨hn, 5, none⟩ = some (.map (some gm)) ∧ w7.cell? ⟨wr.heap.size, 0, none⟩ = some (.int .u64 (yi : Int)) ∧ w7.cell? ⟨wr.heap.size, 1, none⟩ = some (.int .i64 yt) ∧ w7.cell? ⟨wr.heap.size, 2, none⟩ = some (.int .i64 (ys : Int)) ∧ w7.cell? ⟨wr.heap.size, 3, none⟩ = some (.int .i64 (ytr : Int)) ∧ w7.cell? ⟨wr.heap.size, 4, none⟩ = some (.int .i64 (yd : Int)) := ⟨q5, q0, q1, q2, q3, q4⟩
        have kk : Keep [gm] wr w7 := ((((Keep.of_below HB4.out [gm, wr.heap.size]).trans (K6.out.mono (by simp))).trans (Keep.of_below hd _)).trans (k7.mono (by simp))).mono (fun q hq => by
          rcases List.mem_cons.1 hq with rfl | hq
          · exact .inl (by simp)
          · simp at hq; exact .inr (by omega))
        have HO67 := Lib.hid (owns_keep H6.out kk (fun q hq hm => by simp at hm; have := HN6.out q hq; omega))
        have hwsz : w.heap.size ≤ w7.heap.size := by have := kk.size; omega
        have AG7 := Lib.hid (fun w5 v' => AG.out w7 w5 v' kk hc7)
        clear AG kk hc7 k7 r7 hd e0 e1 e2 e3 e4 e5 HC6 R6 HB4 K6 HST
        obtain ⟨e5, e0, e1, e2, e3, e4⟩ := hS
        go_region
        clear e5 e0 e1 e2 e3 e4
        generalize (dueRun C now S (l.take k)).again.length = L6 at *
        generalize (dueRun C now S (l.take k)).over.length = L7 at *
        go_wp2_with (at_builtin; refine wpList_append_own_at _ rfl (.tmp 49) (.tmp 51) 50 rfl w.heap.size 70 i0 zpk 5 40 Try.underlying50 HI.out HZ0.out HZ1.out HZ2.out rfl (by omega) _ L6 _ rfl (HO67.out.alloc _) ⟨w7.heap.size, 0, none⟩ 1 1 (Cal.list ⟨yi, yt, ys, ytr, yd⟩) rfl rfl (World.news_of_block (cs := Cal.cells ⟨yi, yt, ys, ytr, yd⟩) (t := 70) (fr := (0, 0)) (heap_alloc_new w7 _)) (by simp [Value.oneCell']) (by unfold maxLen; omega) (by omega) (by simp; omega) ?_; intro v8 w5 hown5 hg5 hv5 hob5)
        have hSS := AG7.out w5 v8 hown5 hg5 hob5
        clear hown5 hg5 hv5 hob5 HO67 AG7
        go_wp2_with fail
        go_roundw
        case rel => exact ⟨k + 1, by go_num, by omega, hSS⟩
        case measure => simp [intOf]; omega
    · obtain rfl : N = k := by omega
      have hlT : l.take N = l := by rw [← HN.out]; exact List.take_length
      have hst := hrl.st; have o6 := hrl.o6; have o7 := hrl.o7; have a67 := hrl.a67; have kp := hrl.keep
      rw [hlT] at hst o6 o7 a67
      rw [hlT]
      have HST := Lib.hid hst; have HO6 := Lib.hid o6; have HO7 := Lib.hid o7; have HA := Lib.hid a67; have HKP := Lib.hid kp
      clear hrl HRL hlT hst o6 o7 a67 kp
      go_wp2_with fail
      go_ret2
      exact ⟨l, _, _, HP.out, HS.out, rfl, HST.out, (Keep.of_below HB1.out [gm]).trans HKP.out, HO6.out, HO7.out, HA.out⟩
end
end Go.Proofs.Ytjhdlohcjodgjaa
