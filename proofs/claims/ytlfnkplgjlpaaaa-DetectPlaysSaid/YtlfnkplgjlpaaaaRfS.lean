/- The document's Suspects; are two lists alike? -/
import Derived.Test.YtlfnkplgjlpaaaaRf
namespace Go.Proofs.Ytlfnkplgjlpaaaa
open Go.RowKit Go.Sort
set_option linter.unusedVariables false

section
variable {w w' : World} {B hb cap guess : Nat} {ao : Option Addr} {S : List Nd} {Bs : List Nat}
set_option maxRecDepth 10000 in
set_option maxHeartbeats 4000000 in
theorem rsuspects_any (now : Int) (w : World) (h : Rf w B hb Bs S guess) : Calls Try.prog 28 #[.pointer (some ⟨hb, 0, none⟩), .int .i64 now] w fun e w' =>
    ∃ v, e = .returned v ∧ w'.ownsRow w.heap.size 3 1 v (if isT now then bads S now.toNat else []).length ((if isT now then bads S now.toNat else []).map encZ) ∧ Below w.heap.size w w' := by
  obtain ⟨ao, cap, rfl, h⟩ := h
  have T1 := fun w => rtime_any now w
  have H := Lib.hid h
  have c1 := h.at1
  have hlt0 := h.hlt
  have hfew := h.few
  obtain ⟨m, hm⟩ : ∃ m, S.length = m := ⟨_, rfl⟩
  rw [hm] at c1 hfew
  have HM := Lib.hid hm
  have hmi : (m : Int) ≤ 12 := by omega
  clear h hm hfew
  cases hT : isT now
  · rw [hT] at T1
    have T1 := Lib.hid T1
    clear hT
    go_enter Try.func28, Try.ntmps28
    go_wp2_with fail
    refine (T1.out _).mono ?_; rintro e w1 ⟨rfl, rfl⟩
    go_wp2_with fail
    go_loopw [5, 7, 8] (fun v5 v7 v8 wr => v5 = .slice none 0 0 ∧ v7 = .int .i64 0 ∧ wr = w1) (fun _ _ _ _ => 0)
    case atStart => exact ⟨rfl, rfl, rfl⟩
    case round =>
      obtain ⟨rfl, rfl, rfl⟩ := hrel
      go_wp2_with fail
      all_goals
        go_ret
        exact ⟨_, rfl, World.ownsRow_nil _ _ _ _, Below.refl _ _⟩
  · rw [hT] at T1
    have T1 := Lib.hid T1
    simp only [if_true]
    obtain ⟨t, rfl, ht⟩ := isT_some hT
    rw [Int.toNat_natCast]
    have SU := Lib.hid (fun (n : Nd) (hn : n.Ok) => (show Ret _ _ _ from fun w => rbad_any n hn ht w))
    obtain ⟨i0, hi0, hz0, hz1, hz2⟩ := info_parts int_info
    have HI := Lib.hid hi0; have HZ0 := Lib.hid hz0; have HZ1 := Lib.hid hz1; have HZ2 := Lib.hid hz2
    clear hi0 hz0 hz1 hz2 hT ht
    go_enter Try.func28, Try.ntmps28
    go_wp2_with fail
    refine (T1.out _).mono ?_; rintro e w1 ⟨rfl, rfl⟩
    go_wp2_with fail
    go_loopw [5, 7, 8] (fun v5 v7 v8 wr => ∃ k : Nat, k ≤ m ∧ v7 = .int .i64 (k : Int) ∧ wr.ownsRow w1.heap.size 3 1 v5 (bads (S.take k) t).length ((bads (S.take k) t).map encZ) ∧ Below w1.heap.size w1 wr) (fun _ v7 _ _ => m - (intOf v7).toNat)
    case atStart => exact ⟨0, Nat.zero_le _, rfl, by simpa [bads] using World.ownsRow_nil _ _ _ _, Below.refl _ _⟩
    case round =>
      obtain ⟨k, hk, rfl, hacc, hbl⟩ := hrel
      obtain ⟨ac, cc, rfl, hcc1, hcc2⟩ := owns_shape hacc
      have HACC := Lib.hid hacc; have HB := Lib.hid hbl
      have c1' := (hbl.cell (p := ⟨hb, 1, none⟩) hlt0).trans c1
      have hsz1 : w1.heap.size ≤ wr.heap.size := hbl.size
      by_cases hlt : k < m
      · obtain ⟨n, hn⟩ : ∃ n, S[k]? = some n := ⟨_, List.getElem?_eq_getElem (by rw [HM.out]; exact hlt)⟩
        have hD := H.out.below hbl
        have hnok := hD.ok n (List.mem_of_getElem? hn)
        obtain ⟨g, rfl, hg, hgB, hcell⟩ := hD.node hn
        have d0 := (hcell 0 _ rfl).1
        have d1 := (hcell 1 _ rfl).1
        have d2 := (hcell 2 _ rfl).1
        have d3 := (hcell 3 _ rfl).1
        have d4 := (hcell 4 _ rfl).1
        rw [Nat.add_zero] at d0
        have S1 := Lib.hid (SU.out n hnok)
        have hki : (0 : Int) ≤ (k : Int) := by omega
        have hki2 : (k : Int) < (m : Int) := by omega
        have NX := Lib.hid (take_next hn)
        obtain ⟨nid, last, mean, marg, bad⟩ := n
        simp only at d0 d1 d2 d3 d4
        clear hcell hn hnok hacc hbl hD
        obtain ⟨sb, hsb⟩ : ∃ sb, Nd.susp ⟨nid, last, mean, marg, bad⟩ t = sb := ⟨_, rfl⟩
        rw [hsb] at S1
        have HSB := Lib.hid hsb; clear hsb
        go_wp2_with fail
        refine (S1.out _).mono ?_; rintro e w2 ⟨rfl, b2⟩
        have hl := bads_next (now := t) NX.out
        rw [HSB.out] at hl
        have B2 := Lib.hid b2
        have hlen := Nat.le_trans (bads_len (S.take k) t) (List.length_take_le k S)
        cases sb
        · simp only [Bool.false_eq_true, if_false, List.append_nil] at hl
          have HL := Lib.hid hl
          clear b2 hl NX
          go_wp2_with fail
          go_roundw
          case rel => exact ⟨k + 1, by omega, by go_num, by rw [HL.out]; exact owns_keep HACC.out (Keep.of_below B2.out []) (by simp), HB.out.trans (B2.out.mono hsz1)⟩
          case measure => simp [intOf]; omega
        · simp only [if_true] at hl
          have HL := Lib.hid hl
          have hown2 := owns_keep HACC.out (Keep.of_below b2 []) (by simp)
          have hhb : hb < wr.heap.size := Nat.lt_of_lt_of_le hlt0 hsz1
          have c2 := (b2.cell (p := ⟨hb, 1, none⟩) hhb).trans c1'
          have e0 := (b2.cell (p := ⟨g, k * 5, none⟩) hg).trans d0
          generalize hls : bads (S.take k) t = ls at *
          have hlsm : ls.length ≤ k := hlen
          have HBW := Lib.hid (HB.out.trans (b2.mono hsz1))
          have hsz2 : w1.heap.size ≤ w2.heap.size := Nat.le_trans hsz1 b2.size
          have HBASE := Lib.hid (fun g (hg : (Value.slice ac ls.length cc).ownBlock = some g) => (HACC.out.lt g hg).1)
          clear b2 hl NX hls hlen c1' d0 d1 d2 d3 d4 c1
          go_wp2_with (at_builtin; refine wpList_append_own _ rfl (.tmp 33) (.tmp 42) 39 rfl w1.heap.size 3 i0 (.int .i64 0) 1 8 Try.underlying39 HI.out HZ0.out HZ1.out HZ2.out rfl (by omega) _ ls.length _ rfl (hown2.alloc _) ⟨w2.heap.size, 0, none⟩ 1 1 [.int .i64 nid] rfl rfl (cell_one _ _ _) (one_i64 _) (by unfold maxLen; omega) (by omega) (by simp; omega) ?_; intro v6 w5 hown5 hg5 hv5)
          have HO5 := Lib.hid hown5; have HG5 := Lib.hid hg5
          clear hown5 hg5 hv5 hown2
          go_wp2_with fail
          go_roundw
          case rel =>
            refine ⟨k + 1, by omega, by go_num, ?_, ?_⟩
            · rw [HL.out, List.length_append, List.map_append]; exact HO5.out
            · exact below_grown (below_alloc' HBW.out hsz2 _) (by simp; omega) HG5.out HBASE.out
          case measure => simp [intOf]; omega
      · obtain rfl : k = m := by omega
        clear hacc hbl
        have hb2 : bads (S.take k) t = bads S t := by rw [← HM.out, List.take_length]
        go_wp2_with fail
        go_ret
        refine ⟨_, rfl, ?_, HB.out⟩
        have hx := HACC.out
        show World.ownsRow _ _ _ _ (Value.slice ac (bads (S.take k) t).length cc) _ _
        rw [hb2] at hx ⊢
        exact hx
set_option maxRecDepth 10000 in
set_option maxHeartbeats 2000000 in
theorem sameInts_yes (L : List Int) (v1 v2 : Value) {B1 B2 : Nat} (w : World) (h1 : w.ownsRow B1 3 1 v1 L.length (L.map encZ)) (h2 : w.ownsRow B2 3 1 v2 L.length (L.map encZ)) (hL : L.length ≤ 1000) :
    Calls Try.prog 27 #[v1, v2] w fun e w' => e = .returned (.bool true) ∧ Below w.heap.size w w' := by
  obtain ⟨a1, p1, rfl, _, _⟩ := owns_shape h1
  obtain ⟨a2, p2, rfl, _, _⟩ := owns_shape h2
  have H1 := Lib.hid h1; have H2 := Lib.hid h2
  obtain ⟨m, hm⟩ : ∃ m, L.length = m := ⟨_, rfl⟩
  rw [hm] at hL ⊢
  have HM := Lib.hid hm
  have hmi : (m : Int) ≤ 1000 := by omega
  have hne : ((m : Int) != (m : Int)) = false := by simp
  rw [hm] at H1 H2
  clear h1 h2 hm hL
  go_enter Try.func27, Try.ntmps27
  go_wp2_with fail
  go_loopw [5] (fun v5 wr => ∃ k : Nat, v5 = .int .i64 (k : Int) ∧ k ≤ m ∧ Below w.heap.size w wr) (fun v5 _ => m - (intOf v5).toNat)
  case atStart => exact ⟨0, rfl, by omega, Below.refl _ _⟩
  case round =>
    obtain ⟨k, rfl, hk, hbl⟩ := hrel
    have HB := Lib.hid hbl
    by_cases hlt : k < m
    · obtain ⟨g1, x1, rfl, _, _, q1, d1⟩ := owns_at (owns_keep H1.out (Keep.of_below hbl []) (by simp)) k (by omega)
      obtain ⟨g2, x2, rfl, _, _, q2, d2⟩ := owns_at (owns_keep H2.out (Keep.of_below hbl []) (by simp)) k (by omega)
      obtain rfl : x1 = x2 := by rw [q1] at q2; exact Option.some.inj q2
      rw [List.getElem?_map, Option.map_eq_some_iff] at q1
      obtain ⟨z, _, rfl⟩ := q1
      have hki : (0 : Int) ≤ (k : Int) := by omega
      have hki2 : (k : Int) < (m : Int) := by omega
      have hz : (z != z) = false := by simp
      have k1 := cell_regrown d1; have k2 := cell_regrown d2
      clear q2 hbl d1 d2
      go_wp2_with fail
      refine wp_region_quiet_below (by kernel_rfl) (by kernel_rfl) ?_
      repeat (go_big_quiet_step (fail))
      refine wpQuiet_nil ?_
      intro _ hw'
      obtain ⟨⟨dq, osq⟩, hw''⟩ := hw'
      subst hw''
      have lk := Lib.hid (below_next HB.out (below_regrown wr dq osq))
      clear k1 k2
      generalize grow (redrawn wr dq) osq = w5 at *
      go_wp2_with fail
      go_roundw
      case rel => exact ⟨k + 1, by go_num, by omega, lk.out⟩
      case measure => simp [intOf]; omega
    · obtain rfl : k = m := by omega
      clear hbl
      go_wp2_with fail
      go_ret
      exact ⟨rfl, HB.out⟩
theorem ch_neq (a : Int) (x : Bool) (w : World) : (binOp .neq 50 (.agg #[.int .i64 a, .bool x]) (.agg #[.int .i64 a, .bool x])).run Try.prog w = .ok (.bool false) w := by
  cases x <;> go_simp
set_option maxRecDepth 10000 in
set_option maxHeartbeats 2000000 in
theorem sameChanges_yes (L : List (Int × Bool)) (v1 v2 : Value) {B1 B2 : Nat} (w : World) (h1 : w.ownsRow B1 50 2 v1 L.length (fl chc L)) (h2 : w.ownsRow B2 50 2 v2 L.length (fl chc L)) (hL : L.length ≤ 1000) :
    Calls Try.prog 29 #[v1, v2] w fun e w' => e = .returned (.bool true) ∧ Below w.heap.size w w' := by
  obtain ⟨a1, p1, rfl, _, _⟩ := owns_shape h1
  obtain ⟨a2, p2, rfl, _, _⟩ := owns_shape h2
  have H1 := Lib.hid h1; have H2 := Lib.hid h2
  obtain ⟨m, hm⟩ : ∃ m, L.length = m := ⟨_, rfl⟩
  rw [hm] at hL ⊢
  have HM := Lib.hid hm
  have hmi : (m : Int) ≤ 1000 := by omega
  have hne : ((m : Int) != (m : Int)) = false := by simp
  rw [hm] at H1 H2
  clear h1 h2 hm hL
  go_enter Try.func29, Try.ntmps29
  go_wp2_with fail
  go_loopw [5] (fun v5 wr => ∃ k : Nat, v5 = .int .i64 (k : Int) ∧ k ≤ m ∧ Below w.heap.size w wr) (fun v5 _ => m - (intOf v5).toNat)
  case atStart => exact ⟨0, rfl, by omega, Below.refl _ _⟩
  case round =>
    obtain ⟨k, rfl, hk, hbl⟩ := hrel
    have HB := Lib.hid hbl
    by_cases hlt : k < m
    · obtain ⟨c, hc⟩ : ∃ c, L[k]? = some c := ⟨_, List.getElem?_eq_getElem (by rw [HM.out]; exact hlt)⟩
      obtain ⟨hq0, hq1⟩ := chc_at hc
      have o1 := owns_keep H1.out (Keep.of_below hbl []) (by simp)
      have o2 := owns_keep H2.out (Keep.of_below hbl []) (by simp)
      obtain ⟨g1, x1, rfl, _, _, q1, d1⟩ := owns_at o1 (k * 2) (by omega)
      obtain ⟨g1', x1', e1', _, _, q1', d1'⟩ := owns_at o1 (k * 2 + 1) (by omega)
      obtain ⟨g2, x2, rfl, _, _, q2, d2⟩ := owns_at o2 (k * 2) (by omega)
      obtain ⟨g2', x2', e2', _, _, q2', d2'⟩ := owns_at o2 (k * 2 + 1) (by omega)
      cases e1'; cases e2'
      rw [hq0] at q1 q2; rw [hq1] at q1' q2'
      cases q1; cases q2; cases q1'; cases q2'
      obtain ⟨ca, cb⟩ := c
      simp only at d1 d1' d2 d2'
      have hki : (0 : Int) ≤ (k : Int) := by omega
      have hki2 : (k : Int) < (m : Int) := by omega
      have hz := fun w => ch_neq ca cb w
      have k1 := cell_regrown d1; have k2 := cell_regrown d2; have k1' := cell_regrown d1'; have k2' := cell_regrown d2'
      clear hbl d1 d2 d1' d2' o1 o2 hq0 hq1 hc
      go_wp2_with fail
      refine wp_region_quiet_below (by kernel_rfl) (by kernel_rfl) ?_
      repeat (go_big_quiet_step (fail))
      refine wpQuiet_nil ?_
      intro _ hw'
      obtain ⟨⟨dq, osq⟩, hw''⟩ := hw'
      subst hw''
      have lk := Lib.hid (below_next HB.out (below_regrown wr dq osq))
      clear k1 k2 k1' k2'
      generalize grow (redrawn wr dq) osq = w5 at *
      go_wp2_with fail
      go_roundw
      case rel => exact ⟨k + 1, by go_num, by omega, lk.out⟩
      case measure => simp [intOf]; omega
    · obtain rfl : k = m := by omega
      clear hbl
      go_wp2_with fail
      go_ret
      exact ⟨rfl, HB.out⟩
end
end Go.Proofs.Ytlfnkplgjlpaaaa
