/- Two transactions that are alike. Two copies that are alike. -/
import Derived.Test.YtngcbpgafjnfaaaGreatDoorLoB18
import Derived.Test.YtngcbpgafjnfaaaGreatDoorLoB26
set_option linter.unusedSimpArgs false
set_option linter.unusedVariables false

namespace Go.Proofs.YtngcbpgafjnfaaaGreatDoor
open Go.RowKit Go.Sort
set_option linter.unusedVariables false
set_option linter.unusedSimpArgs false

theorem load_regrown {wr : World} {g o : Nat} {ty : TypeId} {cs : List Value} {t : TypeDesc} (hc : ∀ (j : Nat) (u : Value), cs[j]? = some u → wr.cell? ⟨g, o + j, none⟩ = some u) (hu : Tryz.prog.underlying ty = some t) (hd : t.isRow = true) (hi : (Tryz.prog.info? ty).map (·.size) = some cs.length) (d : Nat) (os : Array Obj) :
    (Instr.loadAt ty (.pointer (some ⟨g, o, none⟩))).run Tryz.prog (grow (redrawn wr d) os) = .ok (.agg cs.toArray) (grow (redrawn wr d) os) :=
  run_loadAt_mid _ g o ty cs t (fun j v h => cell_regrown (hc j v h) d os) hu hd hi
theorem item_regrown {wr : World} {cs ds : List Value} {x : Itm} (h1 : itmK.is wr (Here wr) cs x) (h2 : itmK.is wr (Here wr) ds x) (d : Nat) (os : Array Obj) :
    Calls Tryz.prog 84 #[.agg cs.toArray, .agg ds.toArray] (grow (redrawn wr d) os) fun e w'' => e = .returned (.bool true) ∧ ∃ p : Regrown, w'' = grow (redrawn wr p.d) p.os :=
  Calls.regrown_of (item_same cs ds x _ (itmK_fine.grow (below_regrown wr d os) h1) (itmK_fine.grow (below_regrown wr d os) h2))

set_option maxHeartbeats 4000000 in
theorem tx_same (cs ds : List Value) (x : Txn) (w : World) (h1 : txK.is w (Here w) cs x) (h2 : txK.is w (Here w) ds x) :
    Calls Tryz.prog 45 #[.agg cs.toArray, .agg ds.toArray] w (Yes w) := by
  obtain ⟨c0, c1, c2, c3, rfl, ⟨rfl, _⟩, ⟨rfl, _⟩, ⟨q1, rfl, _⟩, ⟨ao, n, c, rfl, s1⟩⟩ := h1
  obtain ⟨d0, d1, d2, d3, rfl, ⟨rfl, _⟩, ⟨rfl, _⟩, ⟨_, rfl, _⟩, ⟨bo, m, d, rfl, s2⟩⟩ := h2
  obtain ⟨i0, i1, i2, hi⟩ := list3 x.mans q1
  have hn : n ≤ 9223372036854775807 := Nat.le_trans s1.2.1 (Nat.le_trans s1.2.2.1 (by decide))
  have hl : x.items.length = n := s1.1
  obtain rfl : m = n := s2.1.symm.trans hl
  have S1 := Lib.hid s1; have S2 := Lib.hid s2
  clear s1 s2 q1 hl
  rw [hi]
  generalize x.id = y0 at *
  generalize x.client = y1 at *
  have EI := neq_mans i0 i1 i2
  show Calls Tryz.prog 45 #[.agg #[.int .u64 y0, .int .i64 y1, .int .i64 i0, .int .i64 i1, .int .i64 i2, .slice ao m c], .agg #[.int .u64 y0, .int .i64 y1, .int .i64 i0, .int .i64 i1, .int .i64 i2, .slice bo m d]] w (Yes w)
  obtain ⟨w1, e1, hb, hs, hA, hB⟩ := two_boxes w #[.int .u64 y0, .int .i64 y1, .int .i64 i0, .int .i64 i1, .int .i64 i2, .slice ao m c] #[.int .u64 y0, .int .i64 y1, .int .i64 i0, .int .i64 i1, .int .i64 i2, .slice bo m d] 34 34
  have E1 := Lib.hid e1; have HB := Lib.hid hb; have HS := Lib.hid hs; have HA := Lib.hid hA; have HBB := Lib.hid hB
  clear e1 hb hs hA hB hi
  go_enter Tryz.func45, Tryz.ntmps45
  go_wp2_with fail
  rw [E1.out]
  go_loopw [5, 6] (fun i s wr => ∃ k : Nat, k ≤ m ∧ i = .int .i64 k ∧ Below w1.heap.size w1 wr) (fun i _ _ => m - (intOf i).toNat)
  case atStart => exact ⟨0, Nat.zero_le _, rfl, Below.refl _ _⟩
  case round =>
    obtain ⟨k, hk, rfl, hb⟩ := hrel
    have a5 := cells_on hb (by rw [HS.out]; omega) HA.out 5 _ rfl
    have b5 := cells_on hb (by rw [HS.out]; omega) HBB.out 5 _ rfl
    by_cases hlt : k < m
    · obtain ⟨x, hx⟩ := SlIs.lt (S1.out) hlt
      have hbw := below_next HB.out hb
      obtain ⟨g1, o1, u1, rfl, p1, k1, r1⟩ := (SlIs.grow itmK_fine hbw S1.out).2.2.2 k x hx
      obtain ⟨g2, o2, u2, rfl, p2, k2, r2⟩ := (SlIs.grow itmK_fine hbw S2.out).2.2.2 k x hx
      have L1 := load_regrown r1 Tryz.underlying187 rfl (by rw [itmK_fine.size _ _ _ _ k1]; kernel_rfl)
      have L2 := load_regrown r2 Tryz.underlying187 rfl (by rw [itmK_fine.size _ _ _ _ k2]; kernel_rfl)
      have CI := Lib.hid (item_regrown k1 k2)
      rw [show itmK.sz = 8 from rfl] at L1 L2
      have a5r := cell_regrown a5
      have b5r := cell_regrown b5
      clear p1 p2 r1 r2 hx k1 k2 hbw
      go_wp2_with fail
      refine wp_region_quiet_below (by kernel_rfl) (by kernel_rfl) ?_
      repeat (go_big_quiet_step (fail))
      refine BigFrame.wpQuiet_want (by rfl) (fun K hK => quiet_value (.agg u1.toArray) (fun w' hw' => by obtain ⟨p, rfl⟩ := hw'; exact exec_load 187 (.tmp 45) rfl rfl (L1 p.d p.os)) (hK _ ?_))
      simp only [Act.put, List.setIfInBounds_toArray, List.set_cons_zero, List.set_cons_succ]
      repeat (go_big_quiet_step (fail))
      refine BigFrame.wpQuiet_want (by rfl) (fun K hK => quiet_value (.agg u2.toArray) (fun w' hw' => by obtain ⟨p, rfl⟩ := hw'; exact exec_load 187 (.tmp 50) rfl rfl (L2 p.d p.os)) (hK _ ?_))
      simp only [Act.put, List.setIfInBounds_toArray, List.set_cons_zero, List.set_cons_succ]
      repeat (go_big_quiet_step (exact CI.out _ _))
      refine wpQuiet_nil ?_
      intro _ hw'
      obtain ⟨⟨dq, osq⟩, hw''⟩ := hw'
      subst hw''
      have lk := below_regrown wr dq osq
      go_wp2_with fail
      go_roundw
      case rel => exact ⟨k + 1, by omega, by go_num, below_next hb lk⟩
      case measure => simp [intOf]; omega
    · obtain rfl : k = m := by omega
      go_wp2_with fail
      go_ret
      exact ⟨rfl, below_next HB.out hb⟩
end Go.Proofs.YtngcbpgafjnfaaaGreatDoor


namespace Go.Proofs.YtngcbpgafjnfaaaGreatDoor
open Go.RowKit Go.Sort
set_option linter.unusedVariables false
set_option linter.unusedSimpArgs false

set_option maxRecDepth 20000 in
set_option maxHeartbeats 8000000 in
theorem copy_same (cs ds : List Value) (x : Cpy) (w : World) (h1 : cpyK.is w (Here w) cs x) (h2 : cpyK.is w (Here w) ds x) :
    Calls Tryz.prog 46 #[.agg cs.toArray, .agg ds.toArray] w (Yes w) := by
  obtain ⟨c0, c1, c2, c3, c4, c5, c6, rfl, ⟨rfl, _⟩, ⟨rfl, _⟩, ⟨rfl, _⟩, ⟨eo, en, ec, rfl, s1⟩, ⟨lo, ln, lc, rfl, s2⟩, ⟨q1, rfl, _⟩, ⟨vo, vn, vc, rfl, s3⟩⟩ := h1
  obtain ⟨d0, d1, d2, d3, d4, d5, d6, rfl, ⟨rfl, _⟩, ⟨rfl, _⟩, ⟨rfl, _⟩, ⟨fo, fn, fc, rfl, t1⟩, ⟨mo, mn, mc, rfl, t2⟩, ⟨_, rfl, _⟩, ⟨wo, wn, wc, rfl, t3⟩⟩ := h2
  obtain ⟨i0, i1, i2, i3, hi⟩ := list4 x.fences q1
  have hln : ln ≤ 9223372036854775807 := Nat.le_trans s2.2.1 (Nat.le_trans s2.2.2.1 (by decide))
  have hvn : vn ≤ 9223372036854775807 := Nat.le_trans s3.2.1 (Nat.le_trans s3.2.2.1 (by decide))
  obtain rfl : mn = ln := t2.1.symm.trans s2.1
  obtain rfl : wn = vn := t3.1.symm.trans s3.1
  have ES := Lib.hid (fun w' (b : Below w.heap.size w w') => entries_same eo fo en fn ec fc x.data w' (SlIs.grow entK_fine b s1) (SlIs.grow entK_fine b t1))
  have S2 := Lib.hid s2; have T2 := Lib.hid t2; have S3 := Lib.hid s3; have T3 := Lib.hid t3
  clear s1 t1 s2 t2 s3 t3 q1
  rw [hi]
  generalize x.state = y0 at *
  generalize x.inc = y1 at *
  generalize x.ver = y2 at *
  have EI := neq_incs i0 i1 i2 i3
  show Calls Tryz.prog 46 #[.agg #[.int .i64 y0, .int .u32 y1, .int .u32 y2, .slice eo en ec, .slice lo mn lc, .int .u32 i0, .int .u32 i1, .int .u32 i2, .int .u32 i3, .slice vo wn vc], .agg #[.int .i64 y0, .int .u32 y1, .int .u32 y2, .slice fo fn fc, .slice mo mn mc, .int .u32 i0, .int .u32 i1, .int .u32 i2, .int .u32 i3, .slice wo wn wc]] w (Yes w)
  obtain ⟨w1, e1, hb, hs, hA, hB⟩ := two_boxes w #[.int .i64 y0, .int .u32 y1, .int .u32 y2, .slice eo en ec, .slice lo mn lc, .int .u32 i0, .int .u32 i1, .int .u32 i2, .int .u32 i3, .slice vo wn vc] #[.int .i64 y0, .int .u32 y1, .int .u32 y2, .slice fo fn fc, .slice mo mn mc, .int .u32 i0, .int .u32 i1, .int .u32 i2, .int .u32 i3, .slice wo wn wc] 44 44
  have E1 := Lib.hid e1; have HB := Lib.hid hb; have HS := Lib.hid hs; have HA := Lib.hid hA; have HBB := Lib.hid hB
  clear e1 hb hs hA hB hi
  go_enter Tryz.func46, Tryz.ntmps46
  go_wp2_with fail
  rw [E1.out]
  refine (ES.out w1 HB.out).mono ?_
  rintro e w2 ⟨rfl, b2⟩
  have HB2 := Lib.hid (below_next HB.out b2)
  have HA2 := Lib.hid (cells_on b2 (by rw [HS.out]; omega) HA.out)
  have HBB2 := Lib.hid (cells_on b2 (by rw [HS.out]; omega) HBB.out)
  have HS2 := Lib.hid (show w.heap.size + 2 ≤ w2.heap.size by have := b2.size; rw [HS.out] at this; exact this)
  have a0 := HA2.out 0 _ rfl; have a1 := HA2.out 1 _ rfl; have a2 := HA2.out 2 _ rfl; have a4 := HA2.out 4 _ rfl; have a5 := HA2.out 5 _ rfl; have a6 := HA2.out 6 _ rfl; have a7 := HA2.out 7 _ rfl; have a8 := HA2.out 8 _ rfl; have a9 := HA2.out 9 _ rfl
  have d0 := HBB2.out 0 _ rfl; have d1 := HBB2.out 1 _ rfl; have d2 := HBB2.out 2 _ rfl; have d4 := HBB2.out 4 _ rfl; have d5 := HBB2.out 5 _ rfl; have d6 := HBB2.out 6 _ rfl; have d7 := HBB2.out 7 _ rfl; have d8 := HBB2.out 8 _ rfl; have d9 := HBB2.out 9 _ rfl
  go_wp2_with fail
  clear a0 a1 a2 a4 a5 a6 a7 a8 a9 d0 d1 d2 d4 d5 d6 d7 d8 d9
  go_loopw [6, 7] (fun i s wr => ∃ k : Nat, k ≤ mn ∧ i = .int .i64 k ∧ Below w2.heap.size w2 wr) (fun i _ _ => mn - (intOf i).toNat)
  case atStart => exact ⟨0, Nat.zero_le _, rfl, Below.refl _ _⟩
  case round =>
    obtain ⟨k, hk, rfl, hb⟩ := hrel
    have a4 := cells_on hb (by have := HS2.out; omega) HA2.out 4 _ rfl
    have b4 := cells_on hb (by have := HS2.out; omega) HBB2.out 4 _ rfl
    by_cases hlt : k < mn
    · obtain ⟨x, hx⟩ := SlIs.lt (S2.out) hlt
      have hbw := below_next HB2.out hb
      obtain ⟨g1, o1, u1, rfl, p1, ⟨c0, c1, z1, rfl, ⟨rfl, _⟩, ⟨q1, rfl, _⟩, k1⟩, r1⟩ := (SlIs.grow lckK_fine hbw S2.out).2.2.2 k x hx
      obtain ⟨g2, o2, u2, rfl, p2, ⟨c2, c3, z2, rfl, ⟨rfl, _⟩, ⟨_, rfl, _⟩, k2⟩, r2⟩ := (SlIs.grow lckK_fine hbw T2.out).2.2.2 k x hx
      obtain ⟨j0, j1, j2, hj⟩ := list3 x.mans q1
      rw [hj] at r1 r2
      have EM := neq_mans j0 j1 j2
      rw [show lckK.sz = 12 from rfl] at r1 r2
      have L1 := load_regrown (g := g1) (o := o1 + k * 12 + 4) (cs := z1) (fun j u h => by rw [Nat.add_assoc (o1 + k * 12) 4 j]; exact r1 (4 + j) u (by rw [Nat.add_comm]; exact h)) Tryz.underlying187 rfl (by rw [itmK_fine.size _ _ _ _ k1]; kernel_rfl)
      have L2 := load_regrown (g := g2) (o := o2 + k * 12 + 4) (cs := z2) (fun j u h => by rw [Nat.add_assoc (o2 + k * 12) 4 j]; exact r2 (4 + j) u (by rw [Nat.add_comm]; exact h)) Tryz.underlying187 rfl (by rw [itmK_fine.size _ _ _ _ k2]; kernel_rfl)
      have CI := Lib.hid (item_regrown k1 k2)
      have u0 := r1 0 _ rfl; have u1 := r1 1 _ rfl; have u2 := r1 2 _ rfl; have u3 := r1 3 _ rfl
      have v0 := r2 0 _ rfl; have v1 := r2 1 _ rfl; have v2 := r2 2 _ rfl; have v3 := r2 3 _ rfl
      simp only [Nat.add_zero] at u0 v0
      have HU := Lib.hid (And.intro u0 (And.intro u1 (And.intro u2 (And.intro u3 (And.intro v0 (And.intro v1 (And.intro v2 v3)))))))
      have A4 := Lib.hid (And.intro a4 b4)
      have a4r := cell_regrown a4
      have b4r := cell_regrown b4
      clear p1 p2 r1 r2 hx k1 k2 hbw q1 hj u0 u1 u2 u3 v0 v1 v2 v3
      generalize x.tx = y3 at *
      go_wp2_with fail
      refine wp_region_quiet_below (by kernel_rfl) (by kernel_rfl) ?_
      repeat (go_big_quiet_step (fail))
      refine BigFrame.wpQuiet_want (by rfl) (fun K hK => quiet_value (.agg z1.toArray) (fun w' hw' => by obtain ⟨p, rfl⟩ := hw'; exact exec_load 187 (.tmp 73) rfl rfl (L1 p.d p.os)) (hK _ ?_))
      simp only [Act.put, List.setIfInBounds_toArray, List.set_cons_zero, List.set_cons_succ]
      repeat (go_big_quiet_step (fail))
      refine BigFrame.wpQuiet_want (by rfl) (fun K hK => quiet_value (.agg z2.toArray) (fun w' hw' => by obtain ⟨p, rfl⟩ := hw'; exact exec_load 187 (.tmp 79) rfl rfl (L2 p.d p.os)) (hK _ ?_))
      simp only [Act.put, List.setIfInBounds_toArray, List.set_cons_zero, List.set_cons_succ]
      repeat (go_big_quiet_step (exact CI.out _ _))
      refine wpQuiet_nil ?_
      intro _ hw'
      obtain ⟨⟨dq, osq⟩, hw''⟩ := hw'
      subst hw''
      have lk := below_regrown wr dq osq
      obtain ⟨u0, u1, u2, u3, v0, v1, v2, v3⟩ := HU.out
      have f0 := cell_regrown u0 dq osq; have f1 := cell_regrown u1 dq osq; have f2 := cell_regrown u2 dq osq; have f3 := cell_regrown u3 dq osq
      have e0 := cell_regrown v0 dq osq; have e1 := cell_regrown v1 dq osq; have e2 := cell_regrown v2 dq osq; have e3 := cell_regrown v3 dq osq
      have n4 := a4r dq osq; have m4 := b4r dq osq
      have hbk := below_next hb lk
      clear u0 u1 u2 u3 v0 v1 v2 v3 a4r b4r a4 b4 L1 L2 lk
      generalize grow (redrawn wr dq) osq = wq at *
      have f0r := cell_regrown f0; have f1r := cell_regrown f1; have f2r := cell_regrown f2; have f3r := cell_regrown f3
      have e0r := cell_regrown e0; have e1r := cell_regrown e1; have e2r := cell_regrown e2; have e3r := cell_regrown e3
      have n4r := cell_regrown n4; have m4r := cell_regrown m4
      go_wp2_with fail
      refine wp_region_quiet_below (by kernel_rfl) (by kernel_rfl) ?_
      repeat (go_big_quiet_step (fail))
      refine wpQuiet_nil ?_
      intro _ hw'
      obtain ⟨⟨dr, osr⟩, hw''⟩ := hw'
      subst hw''
      have lk := below_regrown wq dr osr
      go_wp2_with fail
      go_roundw
      case rel => exact ⟨k + 1, by omega, by go_num, below_next hbk lk⟩
      case measure => simp [intOf]; omega
    · obtain rfl : k = mn := by omega
      go_wp2_with fail
      have HB3 := Lib.hid (below_next HB2.out hb)
      have HA3 := Lib.hid (cells_on hb (by have := HS2.out; omega) HA2.out)
      have HBB3 := Lib.hid (cells_on hb (by have := HS2.out; omega) HBB2.out)
      have HS3 := Lib.hid (show w.heap.size + 2 ≤ wr.heap.size by have := hb.size; have := HS2.out; omega)
      clear a4 b4
      go_loopw [8] (fun i wq => ∃ j : Nat, j ≤ wn ∧ i = .int .i64 j ∧ Below wr.heap.size wr wq) (fun i _ => wn - (intOf i).toNat)
      case atStart => exact ⟨0, Nat.zero_le _, rfl, Below.refl _ _⟩
      case round =>
        obtain ⟨j, hj, rfl, hc⟩ := hrel
        have a9 := cells_on hc (by have := HS3.out; omega) HA3.out 9 _ rfl
        have b9 := cells_on hc (by have := HS3.out; omega) HBB3.out 9 _ rfl
        by_cases hlt : j < wn
        · obtain ⟨x, hx⟩ := SlIs.lt (S3.out) hlt
          have hbw := below_next HB3.out hc
          obtain ⟨g1, o1, u1, rfl, p1, ⟨c0, c1, rfl, ⟨rfl, _⟩, ⟨rfl, _⟩⟩, q1⟩ := (SlIs.grow vtdK_fine hbw S3.out).2.2.2 j x hx
          obtain ⟨g2, o2, u2, rfl, p2, ⟨c2, c3, rfl, ⟨rfl, _⟩, ⟨rfl, _⟩⟩, q2⟩ := (SlIs.grow vtdK_fine hbw T3.out).2.2.2 j x hx
          have e0 := cell_regrown (q1 0 _ rfl); have e1 := cell_regrown (q1 1 _ rfl); have f0 := cell_regrown (q2 0 _ rfl); have f1 := cell_regrown (q2 1 _ rfl)
          simp only [show vtdK.sz = 2 from rfl, Nat.add_zero] at e0 e1 f0 f1
          have a9r := cell_regrown a9; have b9r := cell_regrown b9
          clear p1 p2 q1 q2 hx hbw
          generalize x.tx = s at *
          generalize x.vote = t at *
          go_wp2_with fail
          refine wp_region_quiet_below (by kernel_rfl) (by kernel_rfl) ?_
          repeat (go_big_quiet_step (fail))
          refine wpQuiet_nil ?_
          intro _ hw'
          obtain ⟨⟨dq, osq⟩, hw''⟩ := hw'
          subst hw''
          have lk := below_regrown wr dq osq
          go_wp2_with fail
          go_roundw
          case rel => exact ⟨j + 1, by omega, by go_num, below_next hc lk⟩
          case measure => simp [intOf]; omega
        · obtain rfl : j = wn := by omega
          go_wp2_with fail
          go_ret
          exact ⟨rfl, below_next HB3.out hc⟩
end Go.Proofs.YtngcbpgafjnfaaaGreatDoor
