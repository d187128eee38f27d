/- The document's Changes. -/
import Derived.Test.YtlfnkplgjlpaaaaRfS
namespace Go.Proofs.Ytlfnkplgjlpaaaa
open Go.RowKit Go.Sort
set_option linter.unusedVariables false

section
variable {w w' : World} {B hb cap guess : Nat} {ao : Option Addr} {S : List Nd} {Bs : List Nat}
theorem owns_putq {e : TypeId} {z n cap g : Nat} {xs : List Value} (ho : w.ownsRow B e z (.slice (some ⟨g, 0, none⟩) n cap) n xs) (q : Nat) (hq : q < n * z) (v : Value) : (w.setCell ⟨g, q, none⟩ v).ownsRow B e z (.slice (some ⟨g, 0, none⟩) n cap) n (xs.set q v) := by
  refine ⟨by rw [List.length_set]; exact ho.1, ?_⟩
  have hl := ho.1
  rcases ho.2 with ⟨h2, h3⟩ | ⟨g', cap', cur, h2, hb, hg, h3, h4, h5, h6⟩
  · cases h2
  · cases h2
    have hcz : n * z ≤ cap * z := Nat.mul_le_mul_right z h3
    have hcs : q < cur.toList.length := by
      have h7 := congrArg List.length h6
      simp only [List.length_take] at h7
      omega
    refine .inr ⟨g, cap, cur.setIfInBounds q v, rfl, hb, heap_setCell_same w g q cur _ _ hg, h3, h4, by simpa using h5, ?_⟩
    rw [← h6]
    apply List.ext_getElem?
    intro k
    rw [List.getElem?_take]
    by_cases hk : k < n * z
    · rw [if_pos hk, Array.getElem?_toList]
      by_cases ek : k = q
      · subst ek
        rw [Array.getElem?_setIfInBounds_self_of_lt (by simpa using hcs), List.getElem?_set_self (by rw [List.length_take]; omega)]
      · rw [Array.getElem?_setIfInBounds_ne (by omega), List.getElem?_set_ne (by omega), List.getElem?_take, if_pos hk, Array.getElem?_toList]
    · rw [if_neg hk, List.getElem?_eq_none (by rw [List.length_set, List.length_take]; omega)]
theorem fl_put1 {j : Nat} {n : Nd} (hj : S[j]? = some n) (b : Bool) : (fl c5 S).set (j * 5 + 4) (.bool b) = fl c5 (S.set j { n with bad := b }) := by
  have hjl := (List.getElem?_eq_some_iff.1 hj).1
  refine fl_set c5_len S j _ _ (by rw [List.length_set]) hjl (fun i hi => ?_) (fun q hq => ?_)
  · have h0 := fl_at c5_len S j i hi
    rw [hj] at h0
    by_cases e : i = 4
    · subst e
      rw [List.getElem?_set_self (by rw [fl_len c5_len]; omega)]
      rfl
    · rw [List.getElem?_set_ne (by omega), h0]
      have : i = 0 ∨ i = 1 ∨ i = 2 ∨ i = 3 := by omega
      rcases this with rfl | rfl | rfl | rfl <;> rfl
  · rw [List.getElem?_set_ne (by omega)]
theorem set_ids {j : Nat} {n n2 : Nd} (hj : S[j]? = some n) (hid : n2.id = n.id) : (S.set j n2).map (·.id) = S.map (·.id) := by
  rw [List.map_set]
  apply List.ext_getElem?
  intro q
  by_cases e : j = q
  · subst e
    rw [List.getElem?_set_self (by rw [List.length_map]; exact (List.getElem?_eq_some_iff.1 hj).1), List.getElem?_map, hj, hid]; rfl
  · rw [List.getElem?_set_ne e]
theorem RfW.of_row {w2 : World} {j : Nat} {n n2 : Nd} (h : RfW w B hb ao cap S guess) (hj : S[j]? = some n) (hid : n2.id = n.id) (hok : n2.Ok) {g : Nat} (hao : ao = some ⟨g, 0, none⟩) (k : Keep [g] w w2) (hown : w2.ownsRow B 71 5 (.slice ao S.length cap) S.length (fl c5 (S.set j n2))) :
    RfW w2 B hb ao cap (S.set j n2) guess := by
  have hne : hb ∉ [g] := by
    have := h.apart
    rw [hao] at this
    simpa [blk] using this
  refine ⟨by rw [List.length_set]; exact (k.block hb h.hlt hne).trans h.row, by rw [List.length_set]; exact hown, h.base, h.apart, inc_ids (set_ids hj hid).symm h.inc, fun x hx => ?_, by rw [List.length_set]; exact h.few, h.g⟩
  rcases List.mem_or_eq_of_mem_set hx with hx | rfl
  · exact h.ok x hx
  · exact hok
theorem part_set {now k : Nat} {n : Nd} (h : S[k]? = some n) : part S now (k + 1) = (part S now k).set k (n.judged now) := by
  have hk := (List.getElem?_eq_some_iff.1 h).1
  unfold part
  rw [take_next h, drop_next h, List.map_append, List.set_append_right k _ (by rw [List.length_map, List.length_take]; omega)]
  rw [List.length_map, List.length_take, Nat.min_eq_left (by omega), Nat.sub_self, List.set_cons_zero, List.append_assoc]
  rfl
theorem part_get {now k : Nat} {n : Nd} (h : S[k]? = some n) : (part S now k)[k]? = some n := by
  have hk := (List.getElem?_eq_some_iff.1 h).1
  unfold part
  rw [List.getElem?_append_right (by rw [List.length_map, List.length_take]; omega), List.length_map, List.length_take, Nat.min_eq_left (by omega), Nat.sub_self, drop_next h]
  rfl
theorem part_len (now k : Nat) : (part S now k).length = S.length := by
  have := congrArg List.length (part_ids S now k)
  simpa using this
set_option maxRecDepth 10000 in
set_option maxHeartbeats 8000000 in
theorem rchanges_yes {t : Nat} (ht : t ≤ 1099511627776) (w : World) (h : Rf w B hb Bs S guess) : Calls Try.prog 30 #[.pointer (some ⟨hb, 0, none⟩), .int .i64 (t : Int)] w fun e w' =>
    ∃ v, e = .returned v ∧ w'.ownsRow w.heap.size 50 2 v (chs S t).length (fl chc (chs S t)) ∧ Rf w' B hb Bs (S.map fun n => n.judged t) guess ∧ Keep Bs w w' := by
  obtain ⟨ao, cap, hBs, h⟩ := h
  have HBs := Lib.hid hBs
  have T1 := fun w => rtime_any (t : Int) w
  rw [isT_nat ht] at T1
  have T1 := Lib.hid T1
  have H := Lib.hid h
  have HBL := Lib.hid (fun q hq => (h.blocks q hq).2)
  have hlt0 := h.hlt
  have hfew := h.few
  obtain ⟨m, hm⟩ : ∃ m, S.length = m := ⟨_, rfl⟩
  rw [hm] at hfew
  have HM := Lib.hid hm
  have hmi : (m : Int) ≤ 12 := by omega
  have HINC := Lib.hid h.inc
  have SU := Lib.hid (fun (n : Nd) (hn : n.Ok) => (show Ret _ _ _ from fun w => rbad_any n hn ht w))
  obtain ⟨i0, hi0, hz0, hz1, hz2⟩ := info_parts change_info
  have HI := Lib.hid hi0; have HZ0 := Lib.hid hz0; have HZ1 := Lib.hid hz1; have HZ2 := Lib.hid hz2
  have c1 := h.at1
  rw [hm] at c1
  clear h hm hfew hi0 hz0 hz1 hz2 ht hBs
  go_enter Try.func30, Try.ntmps30
  go_wp2_with fail
  refine (T1.out _).mono ?_; rintro e w1 ⟨rfl, rfl⟩
  go_wp2_with fail
  go_loopw [5, 7, 8] (fun v5 v7 v8 wr => ∃ k : Nat, k ≤ m ∧ v7 = .int .i64 (k : Int) ∧ wr.ownsRow w1.heap.size 50 2 v5 (chs (S.take k) t).length (fl chc (chs (S.take k) t)) ∧ RfW wr B hb ao cap (part S t k) guess ∧ Keep (hb :: blk ao) w1 wr) (fun _ v7 _ _ => m - (intOf v7).toNat)
  case atStart => exact ⟨0, Nat.zero_le _, rfl, by simpa [chs, fl] using World.ownsRow_nil _ _ _ _, by rw [part_zero]; exact H.out, Keep.refl _ _⟩
  case round =>
    obtain ⟨k, hk, rfl, hacc, hD, hbl⟩ := hrel
    obtain ⟨ac, cc, rfl, hcc1, hcc2⟩ := owns_shape hacc
    have HACC := Lib.hid hacc; have HB := Lib.hid hbl; have HD := Lib.hid hD
    have c1' := hD.at1
    rw [part_len, HM.out] at c1'
    have hsz1 : w1.heap.size ≤ wr.heap.size := hbl.size
    by_cases hlt : k < m
    · obtain ⟨n, hn⟩ : ∃ n, S[k]? = some n := ⟨_, List.getElem?_eq_getElem (by rw [HM.out]; exact hlt)⟩
      have hn2 := part_get (now := t) hn
      have hnok := hD.ok n (List.mem_of_getElem? hn2)
      obtain ⟨g, rfl, hg, hgB, hcell⟩ := hD.node hn2
      have d0 := (hcell 0 _ rfl).1
      have d1 := (hcell 1 _ rfl).1
      have d2 := (hcell 2 _ rfl).1
      have d3 := (hcell 3 _ rfl).1
      have d4 := (hcell 4 _ rfl).1
      have f4 := (hcell 4 _ rfl).2
      rw [Nat.add_zero] at d0
      have S1 := Lib.hid (SU.out n hnok)
      have hki : (0 : Int) ≤ (k : Int) := by omega
      have hki2 : (k : Int) < (m : Int) := by omega
      have HCN := Lib.hid (chs_next (now := t) (take_next hn))
      have HN := Lib.hid hn; have HN2 := Lib.hid hn2
      have HOK := Lib.hid (hnok.judged t)
      have hlen := Nat.le_trans (chs_len (S.take k) t) (List.length_take_le k S)
      obtain ⟨nid, last, mean, marg, bad⟩ := n
      simp only [Nd.judged, chg] at *
      clear hcell hn hn2 hnok hacc hbl hD
      obtain ⟨sb, hsb⟩ : ∃ sb, Nd.susp ⟨nid, last, mean, marg, bad⟩ t = sb := ⟨_, rfl⟩
      simp only [hsb] at S1 HCN HOK
      have HSB := Lib.hid hsb; clear hsb
      have hgne : hb ≠ g := by have := HD.out.apart; simpa [blk] using this
      have hhb : hb < wr.heap.size := HD.out.hlt
      cases hc : (sb != bad) <;> simp only [hc, Bool.false_eq_true, if_false, if_true, List.append_nil] at HCN
      · have hsame : sb = bad := by simpa using hc
        subst hsame
        have HC := Lib.hid hc
        clear hc
        go_wp2_with fail
        refine (S1.out _).mono ?_; rintro e w2 ⟨rfl, b2⟩
        have c2 := (b2.cell (p := ⟨hb, 1, none⟩) hhb).trans c1'
        have e0 := (b2.cell (p := ⟨g, k * 5, none⟩) hg).trans d0
        have e4 := (b2.cell (p := ⟨g, k * 5 + 4, none⟩) hg).trans d4
        have z4 := (b2.frozen (p := ⟨g, k * 5 + 4, none⟩) hg).trans f4
        have B2 := Lib.hid b2
        clear c1' d0 d1 d2 d3 d4 f4 S1
        clear b2
        go_wp2_with fail
        go_roundw
        case rel =>
          refine ⟨k + 1, by omega, by go_num, by rw [HCN.out]; exact owns_keep HACC.out (Keep.of_below B2.out []) (by simp), ?_, HB.out.trans (Keep.of_below B2.out _)⟩
          rw [part_same HN.out (by unfold chg; rw [HSB.out]; exact HC.out)]
          exact HD.out.below B2.out
        case measure => simp [intOf]; omega
      · have hne1 : ¬ sb = bad := by intro e; subst e; simp at hc
        have hne2 : (sb == bad) = false := by simpa using hne1
        have HC := Lib.hid hc
        go_wp2_with fail
        refine (S1.out _).mono ?_; rintro e w2 ⟨rfl, b2⟩
        have c2 := (b2.cell (p := ⟨hb, 1, none⟩) hhb).trans c1'
        have e0 := (b2.cell (p := ⟨g, k * 5, none⟩) hg).trans d0
        have e4 := (b2.cell (p := ⟨g, k * 5 + 4, none⟩) hg).trans d4
        have z4 := (b2.frozen (p := ⟨g, k * 5 + 4, none⟩) hg).trans f4
        have B2 := Lib.hid b2
        clear c1' d0 d1 d2 d3 d4 f4 S1
        have hD2 := HD.out.below b2
        have kset := Keep.setCell w2 ⟨g, k * 5 + 4, none⟩ (.bool sb)
        have hmk : k * 5 + 4 < (part S t k).length * 5 := by rw [part_len, HM.out]; omega
        have hown3 := owns_putq hD2.own (k * 5 + 4) hmk (.bool sb)
        rw [fl_put1 HN2.out sb] at hown3
        have hD3 := hD2.of_row (n2 := ⟨nid, last, mean, marg, sb⟩) HN2.out rfl HOK.out rfl kset hown3
        have hps : part S t (k + 1) = (part S t k).set k ⟨nid, last, mean, marg, sb⟩ := by
          rw [part_set HN.out]
          unfold Nd.judged
          rw [HSB.out]
        rw [← hps] at hD3
        have hk3 : Keep (hb :: blk (some ⟨g, 0, none⟩)) wr (w2.setCell ⟨g, k * 5 + 4, none⟩ (.bool sb)) := (Keep.of_below b2 _).trans (kset.mono fun q hq => .inl (by simp [blk] at hq ⊢; exact .inr hq))
        have hacc3 := owns_keep HACC.out hk3 (fun q hq hm => by have h1 := HBL.out q hm; have h2 := (HACC.out.lt q hq).1; omega)
        have c3 := hD3.at1
        rw [part_len, HM.out] at c3
        have e3 : (w2.setCell ⟨g, k * 5 + 4, none⟩ (.bool sb)).cell? ⟨g, k * 5, none⟩ = some (.int .i64 nid) := by
          have := World.cell?_setCell_other w2 ⟨g, k * 5 + 4, none⟩ ⟨g, k * 5, none⟩ (.bool sb) (by intro e; injection e with _ e; omega)
          rw [this]; exact e0
        have HD3 := Lib.hid hD3; have HK3 := Lib.hid (HB.out.trans hk3)
        have hsz3 : w1.heap.size ≤ (w2.setCell ⟨g, k * 5 + 4, none⟩ (.bool sb)).heap.size := HK3.out.size
        generalize hls : chs (S.take k) t = ls at *
        have hlsm : ls.length ≤ k := hlen
        have HBASE := Lib.hid (fun g (hg : (Value.slice ac ls.length cc).ownBlock = some g) => (HACC.out.lt g hg).1)
        clear b2 hD2 kset hown3 hD3 hk3 hls hlen hmk
        go_upto_region 9 with fail
        generalize w2.setCell ⟨g, k * 5 + 4, none⟩ (.bool sb) = w3 at *
        clear c2 e0 e4 z4 B2
        go_wp2_with (at_builtin; refine wpList_append_own _ rfl (.tmp 50) (.tmp 61) 47 rfl w1.heap.size 50 i0 (.agg #[.int .i64 0, .bool false]) 2 16 Try.underlying47 HI.out HZ0.out HZ1.out HZ2.out rfl (by omega) _ ls.length _ rfl (hacc3.alloc _) ⟨w3.heap.size, 0, none⟩ 1 1 (chc (nid, sb)) rfl rfl (World.news_of_block (cs := (chc (nid, sb)).toArray) (t := 50) (fr := (0, 0)) (heap_alloc_new w3 _)) (by simp [Value.oneCell']) (by unfold maxLen; omega) (by omega) (by simp; omega) ?_; intro v6 w6 hown6 hg6 hv6)
        have HO6 := Lib.hid hown6; have HG6 := Lib.hid hg6
        clear hown6 hg6 hv6 hacc3
        go_wp2_with fail
        go_roundw
        case rel =>
          have hlt5 : ∀ q ∈ hb :: blk (some ⟨g, 0, none⟩), q < w1.heap.size := fun q hq => HBL.out q hq
          have kB := below_grown (below_alloc' (Below.refl w1.heap.size w3) hsz3 (.cells #[.int .i64 nid, .bool sb] 50)) (by simp; omega) HG6.out HBASE.out
          refine ⟨k + 1, by omega, by go_num, ?_, ?_, ?_⟩
          · rw [HCN.out, List.length_append, fl_app, fl_one]; exact HO6.out
          · exact HD3.out.keep (keep_from kB) fun q hq => not_from (hlt5 q hq)
          · have k0 := HK3.out
            exact ⟨kB.os.trans k0.os, kB.tape.trans k0.tape, kB.output.trans k0.output, Nat.le_trans k0.size kB.size, fun q hq hn => (kB.block q hq).trans (k0.block q hq hn)⟩
        case measure => simp [intOf]; omega
    · obtain rfl : k = m := by omega
      have hx := HACC.out
      have hb2 : chs (S.take k) t = chs S t := by rw [← HM.out, List.take_length]
      have hp : part S t k = S.map fun n => n.judged t := by rw [← HM.out]; exact part_all S t
      rw [hp] at hD
      have HD2 := Lib.hid hD
      clear hacc hbl hD
      go_wp2_with fail
      go_ret
      refine ⟨_, rfl, ?_, ⟨ao, cap, HBs.out, HD2.out⟩, by rw [HBs.out]; exact HB.out⟩
      show World.ownsRow _ _ _ _ (Value.slice ac (chs (S.take k) t).length cc) _ _
      rw [hb2] at hx ⊢
      exact hx
end
end Go.Proofs.Ytlfnkplgjlpaaaa
