/- Changes. -/
import Derived.Test.YtlfnkplgjlpaaaaSusp
import Derived.Test.YtlfnkplgjlpaaaaNeq
import Derived.Deep.AppendLies
namespace Go.Proofs.Ytlfnkplgjlpaaaa
open Go.RowKit Go.Sort
set_option linter.unusedVariables false

def chg (n : Nd) (now : Nat) : Bool := n.susp now != n.bad
/-- what has changed -/
def chs (S : List Nd) (now : Nat) : List (Int × Bool) := (S.filter fun n => chg n now).map fun n => (n.id, n.susp now)
abbrev chc (c : Int × Bool) : List Value := [.int .i64 c.1, .bool c.2]
theorem chc_len (c : Int × Bool) : (chc c).length = 2 := rfl
theorem chs_len (S : List Nd) (now : Nat) : (chs S now).length ≤ S.length := by unfold chs; rw [List.length_map]; exact List.length_filter_le _ _
theorem chs_next {S : List Nd} {k now : Nat} {n : Nd} (h : S.take (k + 1) = S.take k ++ [n]) : chs (S.take (k + 1)) now = chs (S.take k) now ++ (if chg n now then [(n.id, n.susp now)] else []) := by
  rw [h]
  unfold chs
  rw [List.filter_append, List.map_append]
  congr 1
  cases hs : chg n now <;> simp [hs]
/-- the first k judged -/
def part (S : List Nd) (now k : Nat) : List Nd := (S.take k).map (fun n => n.judged now) ++ S.drop k
theorem part_ids (S : List Nd) (now k : Nat) : (part S now k).map (·.id) = S.map (·.id) := by
  unfold part
  rw [List.map_append, List.map_map]
  show (S.take k).map (fun n => n.id) ++ (S.drop k).map (fun n => n.id) = _
  rw [← List.map_append, List.take_append_drop]
theorem part_zero (S : List Nd) (now : Nat) : part S now 0 = S := by simp [part]
theorem part_all (S : List Nd) (now : Nat) : part S now S.length = S.map (fun n => n.judged now) := by simp [part]
theorem part_inc {S : List Nd} (hS : Inc S) (now k : Nat) : Inc (part S now k) := inc_ids (part_ids S now k).symm hS
theorem drop_next {S : List Nd} {k : Nat} {n : Nd} (h : S[k]? = some n) : S.drop k = n :: S.drop (k + 1) := by
  obtain ⟨hk, rfl⟩ := List.getElem?_eq_some_iff.1 h
  exact List.drop_eq_getElem_cons hk
theorem part_mem {S : List Nd} {now k : Nat} {n : Nd} (h : S[k]? = some n) : n ∈ part S now k := by
  unfold part
  rw [drop_next h]
  simp
theorem part_same {S : List Nd} {now k : Nat} {n : Nd} (h : S[k]? = some n) (hc : chg n now = false) : part S now (k + 1) = part S now k := by
  have e : n.judged now = n := by
    unfold chg at hc
    have : n.susp now = n.bad := by simpa using hc
    unfold Nd.judged
    rw [this]
  unfold part
  rw [take_next h, drop_next h, List.map_append, List.append_assoc]
  simp [e]
theorem part_put {S : List Nd} {now k : Nat} {n : Nd} (hS : Inc S) (h : S[k]? = some n) : part S now (k + 1) = putN (n.judged now) (part S now k) := by
  have hs : S = S.take k ++ n :: S.drop (k + 1) := by rw [← drop_next h, List.take_append_drop]
  have hi : Inc (S.take k ++ n :: S.drop (k + 1)) := by rw [← hs]; exact hS
  obtain ⟨_, h2, h3⟩ := List.pairwise_append.1 hi
  obtain ⟨h4, _⟩ := List.pairwise_cons.1 h2
  unfold part putN
  rw [take_next h, drop_next h, List.map_append, List.map_append, List.map_cons, List.map_cons, List.map_nil, if_pos (show n.id = (n.judged now).id from rfl), List.append_assoc]
  congr 1
  · rw [List.map_map]
    refine List.map_congr_left fun x hx => ?_
    show _ = if (x.judged now).id = (n.judged now).id then _ else _
    rw [if_neg]
    have := h3 x hx n (by simp)
    show ¬ x.id = n.id
    omega
  · rw [List.singleton_append]
    congr 1
    refine (List.map_id' _).symm.trans (List.map_congr_left fun x hx => ?_)
    rw [if_neg]
    have := h4 x hx
    show ¬ x.id = n.id
    omega
theorem change_info : (Try.prog.info? 50).map (fun i => (i.zero, i.size, i.bytes)) = some (some (.agg #[.int .i64 0, .bool false]), 2, 16) := by kernel_rfl

section
variable {w w' : World} {B hn guess : Nat} {mg : Option Nat} {S : List Nd} {Bs : List Nat}
set_option maxHeartbeats 800000 in
theorem changes_no (p : Value) (now : Int) (hnow : isT now = false) (w : World) : Calls Try.prog 17 #[p, .int .i64 now] w fun e w' => e = .returned (.slice none 0 0) ∧ w = w' := by
  have T1 := fun w => isTime_any now w
  rw [hnow] at T1
  have T1 := Lib.hid T1
  clear hnow
  go_enter Try.func17, Try.ntmps17
  go_wp2_with fail
  refine (T1.out _).mono ?_; rintro e w2 ⟨rfl, rfl⟩
  go_wp2_with fail
  go_ret
  exact ⟨rfl, rfl⟩
set_option maxRecDepth 10000 in
set_option maxHeartbeats 8000000 in
theorem changes_yes {now : Nat} (hnow : now ≤ 1099511627776) (w : World) (h : Det w B hn Bs S guess) : Calls Try.prog 17 #[.pointer (some ⟨hn, 0, none⟩), .int .i64 (now : Int)] w fun e w' =>
    ∃ v, e = .returned v ∧ w'.ownsRow w.heap.size 50 2 v (chs S now).length (fl chc (chs S now)) ∧ Det w' B hn Bs (S.map fun n => n.judged now) guess ∧ Turned Bs Bs w w' := by
  have T1 := fun w => isTime_any (now : Int) w
  rw [isT_nat hnow] at T1
  have T1 := Lib.hid T1
  have P1 := Lib.hid (peers_any w h)
  have JU := Lib.hid (fun (n : Nd) (hn : n.Ok) => (show Ret _ _ _ from fun w => judged_any n hn hnow w))
  obtain ⟨mg, hBs, hD0⟩ := h
  have HBs := Lib.hid hBs
  have H := Lib.hid hD0
  have HINC := Lib.hid hD0.inc
  have HBL := Lib.hid hD0.blocks
  obtain ⟨i0, hi0, hz0, hz1, hz2⟩ := info_parts change_info
  have HI := Lib.hid hi0; have HZ0 := Lib.hid hz0; have HZ1 := Lib.hid hz1; have HZ2 := Lib.hid hz2
  have hfew : S.length ≤ 12 := hD0.few
  clear hD0 hBs hi0 hz0 hz1 hz2 hnow
  obtain ⟨m, hm⟩ : ∃ m, S.length = m := ⟨_, rfl⟩
  have HM := Lib.hid hm
  rw [hm] at hfew P1
  have hfi : (m : Int) ≤ 12 := by omega
  clear hm hfew
  go_enter Try.func17, Try.ntmps17
  go_wp2_with fail
  refine (T1.out _).mono ?_; rintro e w1 ⟨rfl, rfl⟩
  go_wp2_with fail
  refine P1.out.mono ?_; rintro e w1 ⟨vp, rfl, hown, b1⟩
  obtain ⟨ap, cp, rfl, hcp1, hcp2⟩ := owns_shape hown
  have HP := Lib.hid hown; have B1 := Lib.hid b1
  have h1 := H.out.below b1
  have H1 := Lib.hid h1
  have hsz0 := b1.size
  clear hown b1 h1 T1 P1
  go_wp2_with fail
  go_loopw [5, 7, 8, 9, 16] (fun v5 v7 v8 v9 v16 wr => ∃ k : Nat, k ≤ m ∧ v16 = .int .i64 (k : Int) ∧ wr.ownsRow w1.heap.size 50 2 v5 (chs (S.take k) now).length (fl chc (chs (S.take k) now)) ∧ DetW wr B hn mg (part S now k) guess ∧ Keep (hn :: mg.toList) w1 wr) (fun _ _ _ _ v16 _ => m - (intOf v16).toNat)
  case atStart => exact ⟨0, Nat.zero_le _, rfl, by simpa [chs, fl] using World.ownsRow_nil _ _ _ _, by rw [part_zero]; exact H1.out, Keep.refl _ _⟩
  case round =>
    obtain ⟨k, hk, rfl, hacc, hD, hbl⟩ := hrel
    obtain ⟨ac, cc, rfl, hcc1, hcc2⟩ := owns_shape hacc
    have HACC := Lib.hid hacc; have HB := Lib.hid hbl
    by_cases hlt : k < m
    · have hSk : k < S.length := by rw [HM.out]; exact hlt
      obtain ⟨n, hn0⟩ : ∃ n, S[k]? = some n := ⟨_, List.getElem?_eq_getElem hSk⟩
      have hmem := part_mem (now := now) hn0
      have hnok := hD.ok n hmem
      have c1 := hD.at1
      have hwf := wf_small (x := n.id) (by have := hnok.id0; omega) (by have := hnok.id1; omega)
      have hlk := hD.map.look1 n.id hwf
      have hlok := hD.inc.look hmem
      rw [hlok] at hlk
      simp only [Option.map_some, Option.getD_some] at hlk
      have J1 := Lib.hid (JU.out n hnok)
      have hrowP := owns_keep HP.out hbl (fun g hg hm => by have := (HBL.out g hm).2; have := (HP.out.lt g hg).1; omega)
      obtain ⟨g, v, rfl, hg1, hg2, hv1, hv2, _⟩ := owns_cell1 hrowP k hlt
      obtain rfl : v = .int .i64 n.id := by
        rw [List.getElem?_map, List.getElem?_map, hn0] at hv1
        simpa using hv1.symm
      have hki : (0 : Int) ≤ (k : Int) := by omega
      have hki2 : (k : Int) < (m : Int) := by omega
      have HN0 := Lib.hid hn0
      have HCN := Lib.hid (chs_next (now := now) (take_next hn0))
      have HOK := Lib.hid (hnok.judged now)
      have HLK := Lib.hid hlok; have HWF := Lib.hid hwf
      have hsz1 : w1.heap.size ≤ wr.heap.size := hbl.size
      have HD := Lib.hid hD
      have hlen := Nat.le_trans (chs_len (S.take k) now) (List.length_take_le k S)
      have hneq := fun w => nd_neq (n.last : Int) (n.mean : Int) (n.margin : Int) (n.susp now) n.bad w
      obtain ⟨nid, last, mean, marg, bad⟩ := n
      simp only [Nd.judged, chg] at *
      clear hD hrowP hacc hbl hmem hnok hv1 hn0 hSk hlok hwf
      obtain ⟨sb, hsus⟩ : ∃ sb, Nd.susp ⟨nid, last, mean, marg, bad⟩ now = sb := ⟨_, rfl⟩
      simp only [hsus] at J1 HCN HOK hneq
      have HSB := Lib.hid hsus; clear hsus
      cases hc : (sb != bad) <;> simp only [hc, Bool.false_eq_true, if_false, if_true, List.append_nil] at hneq HCN
      all_goals
        have HC := Lib.hid hc; clear hc
        have b2 := below_alloc (Below.refl wr.heap.size wr) (.cells #[.int .i64 (last : Int), .int .i64 (mean : Int), .int .i64 (marg : Int), .bool bad] 76)
        have R1 := Lib.hid (Row4.new wr (.int .i64 (last : Int)) (.int .i64 (mean : Int)) (.int .i64 (marg : Int)) (.bool bad))
        have BA := Lib.hid b2
        clear b2
        go_wp2_with fail
        refine (J1.out _).mono ?_; rintro e w2 ⟨rfl, b2⟩
        have B2 := Lib.hid (below_next BA.out b2)
        obtain ⟨c0', c1', c2', c3', f0', f1', f2', f3', l2⟩ := (R1.out.below b2).all
        clear b2 R1 BA J1 c1 hlk hv2
        go_wp2_with fail
      · go_roundw
        case rel =>
          have b3 := below_alloc B2.out (.cells #[.int .i64 (last : Int), .int .i64 (mean : Int), .int .i64 (marg : Int), .bool sb] 76)
          refine ⟨k + 1, by omega, by go_num, by rw [HCN.out]; exact owns_keep HACC.out (Keep.of_below b3 []) (by simp), ?_, HB.out.trans (Keep.of_below b3 _)⟩
          rw [part_same HN0.out (by unfold chg; rw [HSB.out]; exact HC.out)]
          exact HD.out.below b3
        case measure => simp [intOf]; omega
      · have b3 := below_alloc B2.out (.cells #[.int .i64 (last : Int), .int .i64 (mean : Int), .int .i64 (marg : Int), .bool sb] 76)
        have r3 := Row4.new w2 (.int .i64 (last : Int)) (.int .i64 (mean : Int)) (.int .i64 (marg : Int)) (.bool sb)
        have hl3 : wr.heap.size < w2.heap.size := l2
        have hsz3 : w2.heap.size < (w2.alloc (.cells #[.int .i64 (last : Int), .int .i64 (mean : Int), .int .i64 (marg : Int), .bool sb] 76)).heap.size := by simp
        generalize w2.alloc (.cells #[.int .i64 (last : Int), .int .i64 (mean : Int), .int .i64 (marg : Int), .bool sb] 76) = w3 at *
        have B3 := Lib.hid b3; have R3 := Lib.hid r3
        obtain ⟨d0, d1, d2, d3, _⟩ := r3.all
        have k0 := cell_regrown d0; have k1 := cell_regrown d1; have k2 := cell_regrown d2; have k3 := cell_regrown d3
        have kd := cell_regrown (HD.out.below b3).at1
        clear b3 r3 d0 d1 d2 d3 c0' c1' c2' c3' f0' f1' f2' f3' l2 B2 hneq
        refine region_tail 6 (by kernel_rfl) (by kernel_rfl) ?_
        simp only [List.take_succ_cons, List.take_zero, List.drop_succ_cons, List.drop_zero]
        repeat (go_big_quiet_step (fail))
        refine wpQuiet_nil ?_
        intro _ hw'
        obtain ⟨⟨dq, osq⟩, hw''⟩ := hw'
        subst hw''
        have lk := below_regrown w3 dq osq
        have B4 := Lib.hid (below_next B3.out lk)
        have h4 := HD.out.below B4.out
        have R4 := Lib.hid (R3.out.below lk)
        have hsz4 : w3.heap.size ≤ (grow (redrawn w3 dq) osq).heap.size := lk.size
        clear k0 k1 k2 k3 kd lk B3 R3
        generalize grow (redrawn w3 dq) osq = w4 at *
        obtain ⟨gm, w5, hgm, hr, h5, k5⟩ := h4.putMap (n2 := ⟨nid, last, mean, marg, sb⟩) HWF.out HLK.out HOK.out
        have hgw : gm < w1.heap.size := by
          have := (HBL.out gm (by rw [hgm]; simp)).2
          omega
        have hgl : gm ≠ w2.heap.size := by omega
        have r5 := R4.out.keep k5 (by simpa using (Ne.symm hgl))
        obtain ⟨d0, d1, d2, d3, _⟩ := r5.all
        have HP5 := Lib.hid (part_put (now := now) HINC.out HN0.out)
        have H5 := Lib.hid h5
        have hk5 : Keep (hn :: mg.toList) wr w5 := (Keep.of_below B4.out _).trans (k5.mono fun q hq => .inl (by rw [hgm]; simp at hq ⊢; exact .inr hq))
        have hk15 := HB.out.trans hk5
        have hacc5 := owns_keep HACC.out hk5 (fun g hg hm => by have := (HBL.out g hm).2; have := (HACC.out.lt g hg).1; omega)
        have K15 := Lib.hid hk15
        have hsz5 : w1.heap.size ≤ w5.heap.size := hk15.size
        generalize hls : chs (S.take k) now = ls at *
        have HBASE := Lib.hid (fun g (hg : (Value.slice ac ls.length cc).ownBlock = some g) => (HACC.out.lt g hg).1)
        have hlsm : ls.length ≤ k := hlen
        clear h4 h5 k5 hgm hk5 hk15 R4 r5 hls hlen hgl
        go_wp2_with (at_builtin; refine wpList_append_own _ rfl (.tmp 38) (.tmp 43) 47 rfl w1.heap.size 50 i0 (.agg #[.int .i64 0, .bool false]) 2 16 Try.underlying47 HI.out HZ0.out HZ1.out HZ2.out rfl (by omega) _ ls.length _ rfl (hacc5.alloc _) ⟨w5.heap.size, 0, none⟩ 1 1 (chc (nid, sb)) rfl rfl (World.news_of_block (cs := (chc (nid, sb)).toArray) (t := 50) (fr := (0, 0)) (heap_alloc_new w5 _)) (by simp [Value.oneCell']) (by unfold maxLen; omega) (by omega) (by simp; omega) ?_; intro v6 w6 hown6 hg6 hv6)
        have HO6 := Lib.hid hown6; have HG6 := Lib.hid hg6
        clear hown6 hg6 hv6 hacc5 hr d0 d1 d2 d3
        go_wp2_with fail
        go_roundw
        case rel =>
          have hlt5 : ∀ q ∈ hn :: mg.toList, q < w1.heap.size := fun q hq => by have := (HBL.out q hq).2; omega
          have kB := below_grown (below_alloc' (Below.refl w1.heap.size w5) hsz5 (.cells #[.int .i64 nid, .bool sb] 50)) (by simp; omega) HG6.out HBASE.out
          refine ⟨k + 1, by omega, by go_num, ?_, ?_, ?_⟩
          · rw [HCN.out, List.length_append, fl_app, fl_one]; exact HO6.out
          · rw [HP5.out, show Nd.judged ⟨nid, last, mean, marg, bad⟩ now = ⟨nid, last, mean, marg, sb⟩ by unfold Nd.judged; rw [HSB.out]]
            exact H5.out.keep (keep_from kB) fun q hq => not_from (hlt5 q hq)
          · have k0 := K15.out
            exact ⟨kB.os.trans k0.os, kB.tape.trans k0.tape, kB.output.trans k0.output, Nat.le_trans k0.size kB.size, fun q hq hn => (kB.block q hq).trans (k0.block q hq hn)⟩
        case measure => simp [intOf]; omega
    · obtain rfl : k = m := by omega
      have hx := owns_base HACC.out B1.out.size
      have hb : chs (S.take k) now = chs S now := by rw [← HM.out, List.take_length]
      have hp : part S now k = S.map fun n => n.judged now := by rw [← HM.out]; exact part_all S now
      rw [hp] at hD
      have HD := Lib.hid hD
      clear hacc hbl hD
      go_wp2_with fail
      go_ret
      refine ⟨_, rfl, ?_, ⟨mg, HBs.out, HD.out⟩, by rw [HBs.out]; exact ⟨(Keep.of_below B1.out _).trans HB.out, fun q hq => .inl hq⟩⟩
      show World.ownsRow _ _ _ _ (Value.slice ac (chs (S.take k) now).length cc) _ _
      rw [hb] at hx ⊢
      exact hx
end
end Go.Proofs.Ytlfnkplgjlpaaaa
