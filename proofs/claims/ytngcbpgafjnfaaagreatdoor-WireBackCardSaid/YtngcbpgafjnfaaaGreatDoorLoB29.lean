/- Same: two messages that are alike (gen_same.py). Same: two messages that are alike, by their readings (gen_same.py). -/
import Derived.Test.YtngcbpgafjnfaaaGreatDoorLoB28
set_option linter.unusedSimpArgs false
set_option linter.unusedVariables false

namespace Go.Proofs.YtngcbpgafjnfaaaGreatDoor
open Go.RowKit Go.Sort
set_option linter.unusedVariables false
set_option linter.unusedSimpArgs false

theorem copy_regrown {wr : World} {cs ds : List Value} {x : Cpy} (h1 : cpyK.is wr (Here wr) cs x) (h2 : cpyK.is wr (Here wr) ds x) (d : Nat) (os : Array Obj) :
    Calls Tryz.prog 46 #[.agg cs.toArray, .agg ds.toArray] (grow (redrawn wr d) os) fun e w'' => e = .returned (.bool true) ∧ ∃ p : Regrown, w'' = grow (redrawn wr p.d) p.os :=
  Calls.regrown_of (copy_same cs ds x _ (cpyK_fine.grow (below_regrown wr d os) h1) (cpyK_fine.grow (below_regrown wr d os) h2))

set_option maxRecDepth 20000 in
set_option maxHeartbeats 16000000 in
theorem same_core (kind : Int) (fr : Int) (to : Int) (it : Nat) (ib : Int) (ir : Int) (ii : Nat) (br : Nat) (bn : Nat) (ai : Bool) (abr : Nat) (abn : Nat) (av : ByteArray) (va : ByteArray) (ti : Nat) (tc : Int) (m0 : Int) (m1 : Int) (m2 : Int) (id_ : Nat) (ix : Nat) (ro : Nat) (bu : Int) (re : Int) (of_ : Int) (inc : Nat) (vo_ : Int) (aro : Nat) (ain : Nat) (ave : Nat) (cs_ : Int) (cin : Nat) (cve : Nat) (f0 : Nat) (f1 : Nat) (f2 : Nat) (f3 : Nat) (az : Int) (as_ : Int) (ph : Nat) (pl : Nat) (ho : Int) (iox : Option Addr) (inx icx : Nat) (dox : Option Addr) (dnx dcx : Nat) (eox : Option Addr) (enx ecx : Nat) (lox : Option Addr) (lnx lcx : Nat) (vox : Option Addr) (vnx vcx : Nat) (cox : Option Addr) (ccx : Nat) (pox : Option Addr) (pcx : Nat) (ioy : Option Addr) (iny icy : Nat) (doy : Option Addr) (dny dcy : Nat) (eoy : Option Addr) (eny ecy : Nat) (loy : Option Addr) (lny lcy : Nat) (voy : Option Addr) (vny vcy : Nat) (coy : Option Addr) (cn ccy : Nat) (poy : Option Addr) (pn pcy : Nat) (copies : List Cpy) (peers : List Per) (A B : Array Value) (hA : A = #[.int .i64 kind, .int .i64 fr, .int .i64 to, .int .u64 (it : Int), .int .i64 ib, .int .i64 ir, .int .u32 (ii : Int), .int .u32 (br : Int), .int .u8 (bn : Int), .bool ai, .int .u32 (abr : Int), .int .u8 (abn : Int), .string av, .string va, .int .u64 (ti : Int), .int .i64 tc, .int .i64 m0, .int .i64 m1, .int .i64 m2, .slice iox inx icx, .int .u64 (id_ : Int), .int .u32 (ix : Int), .int .u32 (ro : Int), .int .i64 bu, .int .i64 re, .int .i64 of_, .int .u32 (inc : Int), .int .i64 vo_, .int .u32 (aro : Int), .int .u32 (ain : Int), .int .u32 (ave : Int), .slice dox dnx dcx, .int .i64 cs_, .int .u32 (cin : Int), .int .u32 (cve : Int), .slice eox enx ecx, .slice lox lnx lcx, .int .u32 (f0 : Int), .int .u32 (f1 : Int), .int .u32 (f2 : Int), .int .u32 (f3 : Int), .slice vox vnx vcx, .int .i64 az, .int .i64 as_, .slice cox cn ccx, .int .u64 (ph : Int), .int .u64 (pl : Int), .int .i64 ho, .slice pox pn pcx]) (hB : B = #[.int .i64 kind, .int .i64 fr, .int .i64 to, .int .u64 (it : Int), .int .i64 ib, .int .i64 ir, .int .u32 (ii : Int), .int .u32 (br : Int), .int .u8 (bn : Int), .bool ai, .int .u32 (abr : Int), .int .u8 (abn : Int), .string av, .string va, .int .u64 (ti : Int), .int .i64 tc, .int .i64 m0, .int .i64 m1, .int .i64 m2, .slice ioy iny icy, .int .u64 (id_ : Int), .int .u32 (ix : Int), .int .u32 (ro : Int), .int .i64 bu, .int .i64 re, .int .i64 of_, .int .u32 (inc : Int), .int .i64 vo_, .int .u32 (aro : Int), .int .u32 (ain : Int), .int .u32 (ave : Int), .slice doy dny dcy, .int .i64 cs_, .int .u32 (cin : Int), .int .u32 (cve : Int), .slice eoy eny ecy, .slice loy lny lcy, .int .u32 (f0 : Int), .int .u32 (f1 : Int), .int .u32 (f2 : Int), .int .u32 (f3 : Int), .slice voy vny vcy, .int .i64 az, .int .i64 as_, .slice coy cn ccy, .int .u64 (ph : Int), .int .u64 (pl : Int), .int .i64 ho, .slice poy pn pcy]) (w : World)
    (TX : ∀ w', Below w.heap.size w w' → Calls Tryz.prog 45 #[.agg #[.int .u64 (ti : Int), .int .i64 tc, .int .i64 m0, .int .i64 m1, .int .i64 m2, .slice iox inx icx], .agg #[.int .u64 (ti : Int), .int .i64 tc, .int .i64 m0, .int .i64 m1, .int .i64 m2, .slice ioy iny icy]] w' (Yes w'))
    (CP : ∀ w', Below w.heap.size w w' → Calls Tryz.prog 46 #[.agg #[.int .i64 cs_, .int .u32 (cin : Int), .int .u32 (cve : Int), .slice eox enx ecx, .slice lox lnx lcx, .int .u32 (f0 : Int), .int .u32 (f1 : Int), .int .u32 (f2 : Int), .int .u32 (f3 : Int), .slice vox vnx vcx], .agg #[.int .i64 cs_, .int .u32 (cin : Int), .int .u32 (cve : Int), .slice eoy eny ecy, .slice loy lny lcy, .int .u32 (f0 : Int), .int .u32 (f1 : Int), .int .u32 (f2 : Int), .int .u32 (f3 : Int), .slice voy vny vcy]] w' (Yes w'))
    (DA : ∀ w', Below w.heap.size w w' → Calls Tryz.prog 47 #[.slice dox dnx dcx, .slice doy dny dcy] w' (Yes w'))
    (s2 : SlIs cpyK.sz cpyK.is w (Here w) cox cn ccx copies) (t2 : SlIs cpyK.sz cpyK.is w (Here w) coy cn ccy copies)
    (s3 : SlIs perK.sz perK.is w (Here w) pox pn pcx peers) (t3 : SlIs perK.sz perK.is w (Here w) poy pn pcy peers) :
    Calls Tryz.prog 16 #[.agg A, .agg B] w (Yes w) := by
  have hcn : cn ≤ 9223372036854775807 := Nat.le_trans s2.2.1 (Nat.le_trans s2.2.2.1 (by decide))
  have hpn : pn ≤ 9223372036854775807 := Nat.le_trans s3.2.1 (Nat.le_trans s3.2.2.1 (by decide))
  have S2 := Lib.hid s2; have T2 := Lib.hid t2; have S3 := Lib.hid s3; have T3 := Lib.hid t3
  have TX := Lib.hid TX; have CP := Lib.hid CP; have DA := Lib.hid DA
  obtain ⟨w1, e1, hb, hs, hA1, hB1⟩ := two_boxes w A B 52 52
  have E1 := Lib.hid e1; have HB := Lib.hid hb; have HS := Lib.hid (show w.heap.size + 2 ≤ w1.heap.size by omega)
  have HA := Lib.hid (show ∀ (j : Nat) (u : Value), #[.int .i64 kind, .int .i64 fr, .int .i64 to, .int .u64 (it : Int), .int .i64 ib, .int .i64 ir, .int .u32 (ii : Int), .int .u32 (br : Int), .int .u8 (bn : Int), .bool ai, .int .u32 (abr : Int), .int .u8 (abn : Int), .string av, .string va, .int .u64 (ti : Int), .int .i64 tc, .int .i64 m0, .int .i64 m1, .int .i64 m2, .slice iox inx icx, .int .u64 (id_ : Int), .int .u32 (ix : Int), .int .u32 (ro : Int), .int .i64 bu, .int .i64 re, .int .i64 of_, .int .u32 (inc : Int), .int .i64 vo_, .int .u32 (aro : Int), .int .u32 (ain : Int), .int .u32 (ave : Int), .slice dox dnx dcx, .int .i64 cs_, .int .u32 (cin : Int), .int .u32 (cve : Int), .slice eox enx ecx, .slice lox lnx lcx, .int .u32 (f0 : Int), .int .u32 (f1 : Int), .int .u32 (f2 : Int), .int .u32 (f3 : Int), .slice vox vnx vcx, .int .i64 az, .int .i64 as_, .slice cox cn ccx, .int .u64 (ph : Int), .int .u64 (pl : Int), .int .i64 ho, .slice pox pn pcx][j]? = some u → w1.cell? ⟨w.heap.size, j, none⟩ = some u from hA ▸ hA1)
  have HBB := Lib.hid (show ∀ (j : Nat) (u : Value), #[.int .i64 kind, .int .i64 fr, .int .i64 to, .int .u64 (it : Int), .int .i64 ib, .int .i64 ir, .int .u32 (ii : Int), .int .u32 (br : Int), .int .u8 (bn : Int), .bool ai, .int .u32 (abr : Int), .int .u8 (abn : Int), .string av, .string va, .int .u64 (ti : Int), .int .i64 tc, .int .i64 m0, .int .i64 m1, .int .i64 m2, .slice ioy iny icy, .int .u64 (id_ : Int), .int .u32 (ix : Int), .int .u32 (ro : Int), .int .i64 bu, .int .i64 re, .int .i64 of_, .int .u32 (inc : Int), .int .i64 vo_, .int .u32 (aro : Int), .int .u32 (ain : Int), .int .u32 (ave : Int), .slice doy dny dcy, .int .i64 cs_, .int .u32 (cin : Int), .int .u32 (cve : Int), .slice eoy eny ecy, .slice loy lny lcy, .int .u32 (f0 : Int), .int .u32 (f1 : Int), .int .u32 (f2 : Int), .int .u32 (f3 : Int), .slice voy vny vcy, .int .i64 az, .int .i64 as_, .slice coy cn ccy, .int .u64 (ph : Int), .int .u64 (pl : Int), .int .i64 ho, .slice poy pn pcy][j]? = some u → w1.cell? ⟨w.heap.size + 1, j, none⟩ = some u from hB ▸ hB1)
  clear e1 hb hs hA1 hB1 s2 t2 s3 t3
  have a14 : A[14]? = some (.int .u64 (ti : Int)) := by rw [hA]; rfl
  have a15 : A[15]? = some (.int .i64 tc) := by rw [hA]; rfl
  have a16 : A[16]? = some (.int .i64 m0) := by rw [hA]; rfl
  have a17 : A[17]? = some (.int .i64 m1) := by rw [hA]; rfl
  have a18 : A[18]? = some (.int .i64 m2) := by rw [hA]; rfl
  have a19 : A[19]? = some (.slice iox inx icx) := by rw [hA]; rfl
  have b14 : B[14]? = some (.int .u64 (ti : Int)) := by rw [hB]; rfl
  have b15 : B[15]? = some (.int .i64 tc) := by rw [hB]; rfl
  have b16 : B[16]? = some (.int .i64 m0) := by rw [hB]; rfl
  have b17 : B[17]? = some (.int .i64 m1) := by rw [hB]; rfl
  have b18 : B[18]? = some (.int .i64 m2) := by rw [hB]; rfl
  have b19 : B[19]? = some (.slice ioy iny icy) := by rw [hB]; rfl
  clear hA hB
  go_enter Tryz.func16, Tryz.ntmps16
  go_wp2_with fail
  rw [E1.out]
  clear a14 b14 a15 b15 a16 b16 a17 b17 a18 b18 a19 b19
  refine (TX.out w1 HB.out).mono ?_
  rintro e w2 ⟨rfl, c2⟩
  have HB2 := Lib.hid (below_next HB.out c2)
  have HA2 := Lib.hid (cells_on c2 (by have := HS.out; omega) HA.out)
  have HBB2 := Lib.hid (cells_on c2 (by have := HS.out; omega) HBB.out)
  have HS2 := Lib.hid (show w.heap.size + 2 ≤ w2.heap.size by have := c2.size; have := HS.out; omega)
  have a32 := HA2.out 32 (.int .i64 cs_) rfl
  have a33 := HA2.out 33 (.int .u32 (cin : Int)) rfl
  have a34 := HA2.out 34 (.int .u32 (cve : Int)) rfl
  have a35 := HA2.out 35 (.slice eox enx ecx) rfl
  have a36 := HA2.out 36 (.slice lox lnx lcx) rfl
  have a37 := HA2.out 37 (.int .u32 (f0 : Int)) rfl
  have a38 := HA2.out 38 (.int .u32 (f1 : Int)) rfl
  have a39 := HA2.out 39 (.int .u32 (f2 : Int)) rfl
  have a40 := HA2.out 40 (.int .u32 (f3 : Int)) rfl
  have a41 := HA2.out 41 (.slice vox vnx vcx) rfl
  have b32 := HBB2.out 32 (.int .i64 cs_) rfl
  have b33 := HBB2.out 33 (.int .u32 (cin : Int)) rfl
  have b34 := HBB2.out 34 (.int .u32 (cve : Int)) rfl
  have b35 := HBB2.out 35 (.slice eoy eny ecy) rfl
  have b36 := HBB2.out 36 (.slice loy lny lcy) rfl
  have b37 := HBB2.out 37 (.int .u32 (f0 : Int)) rfl
  have b38 := HBB2.out 38 (.int .u32 (f1 : Int)) rfl
  have b39 := HBB2.out 39 (.int .u32 (f2 : Int)) rfl
  have b40 := HBB2.out 40 (.int .u32 (f3 : Int)) rfl
  have b41 := HBB2.out 41 (.slice voy vny vcy) rfl
  go_wp2_with fail
  clear a32 b32 a33 b33 a34 b34 a35 b35 a36 b36 a37 b37 a38 b38 a39 b39 a40 b40 a41 b41
  refine (CP.out w2 HB2.out).mono ?_
  rintro e w3 ⟨rfl, c3⟩
  have HB3 := Lib.hid (below_next HB2.out c3)
  have HA3 := Lib.hid (cells_on c3 (by have := HS2.out; omega) HA2.out)
  have HBB3 := Lib.hid (cells_on c3 (by have := HS2.out; omega) HBB2.out)
  have HS3 := Lib.hid (show w.heap.size + 2 ≤ w3.heap.size by have := c3.size; have := HS2.out; omega)
  have a31 := HA3.out 31 (.slice dox dnx dcx) rfl
  have b31 := HBB3.out 31 (.slice doy dny dcy) rfl
  go_wp2_with fail
  clear a31 b31
  refine (DA.out w3 HB3.out).mono ?_
  rintro e w4 ⟨rfl, c4⟩
  have HB4 := Lib.hid (below_next HB3.out c4)
  have HA4 := Lib.hid (cells_on c4 (by have := HS3.out; omega) HA3.out)
  have HBB4 := Lib.hid (cells_on c4 (by have := HS3.out; omega) HBB3.out)
  have HS4 := Lib.hid (show w.heap.size + 2 ≤ w4.heap.size by have := c4.size; have := HS3.out; omega)
  have a44 := HA4.out 44 (.slice cox cn ccx) rfl
  have a48 := HA4.out 48 (.slice pox pn pcx) rfl
  have b44 := HBB4.out 44 (.slice coy cn ccy) rfl
  have b48 := HBB4.out 48 (.slice poy pn pcy) rfl
  go_wp2_with fail
  clear a44 b44 a48 b48
  go_loopw [8, 9] (fun i s wr => ∃ k : Nat, k ≤ cn ∧ i = .int .i64 k ∧ Below w4.heap.size w4 wr) (fun i _ _ => cn - (intOf i).toNat)
  case atStart => exact ⟨0, Nat.zero_le _, rfl, Below.refl _ _⟩
  case round =>
    obtain ⟨k, hk, rfl, hb⟩ := hrel
    have a44 := cells_on hb (by have := HS4.out; omega) HA4.out 44 (.slice cox cn ccx) rfl
    have b44 := cells_on hb (by have := HS4.out; omega) HBB4.out 44 (.slice coy cn ccy) rfl
    by_cases hlt : k < cn
    · obtain ⟨x, hx⟩ := SlIs.lt (S2.out) hlt
      have hbw := below_next HB4.out hb
      obtain ⟨g1, o1, u1, rfl, p1, k1, r1⟩ := (SlIs.grow cpyK_fine hbw S2.out).2.2.2 k x hx
      obtain ⟨g2, o2, u2, rfl, p2, k2, r2⟩ := (SlIs.grow cpyK_fine hbw T2.out).2.2.2 k x hx
      have L1 := load_regrown r1 Tryz.underlying44 rfl (by rw [cpyK_fine.size _ _ _ _ k1]; kernel_rfl)
      have L2 := load_regrown r2 Tryz.underlying44 rfl (by rw [cpyK_fine.size _ _ _ _ k2]; kernel_rfl)
      have CI := Lib.hid (copy_regrown k1 k2)
      rw [show cpyK.sz = 10 from rfl] at L1 L2
      have a44r := cell_regrown a44
      have b44r := cell_regrown b44
      clear p1 p2 r1 r2 hx k1 k2 hbw
      go_wp2_with fail
      refine wp_region_quiet_below (by kernel_rfl) (by kernel_rfl) ?_
      repeat (go_big_quiet_step (fail))
      refine BigFrame.wpQuiet_want (by rfl) (fun K hK => quiet_value (.agg u1.toArray) (fun w' hw' => by obtain ⟨p, rfl⟩ := hw'; exact exec_load 44 (.tmp 70) rfl rfl (L1 p.d p.os)) (hK _ ?_))
      simp only [Act.put, List.setIfInBounds_toArray, List.set_cons_zero, List.set_cons_succ]
      repeat (go_big_quiet_step (fail))
      refine BigFrame.wpQuiet_want (by rfl) (fun K hK => quiet_value (.agg u2.toArray) (fun w' hw' => by obtain ⟨p, rfl⟩ := hw'; exact exec_load 44 (.tmp 75) rfl rfl (L2 p.d p.os)) (hK _ ?_))
      simp only [Act.put, List.setIfInBounds_toArray, List.set_cons_zero, List.set_cons_succ]
      repeat (go_big_quiet_step (exact CI.out _ _))
      refine wpQuiet_nil ?_
      intro _ hw'
      obtain ⟨⟨dq, osq⟩, hw''⟩ := hw'
      subst hw''
      have lk := below_regrown wr dq osq
      go_wp2_with fail
      go_roundw
      case rel => exact ⟨k + 1, by omega, by go_num, below_next hb lk⟩
      case measure => simp [intOf]; omega
    · obtain rfl : k = cn := by omega
      go_wp2_with fail
      have HB5 := Lib.hid (below_next HB4.out hb)
      have HA5 := Lib.hid (cells_on hb (by have := HS4.out; omega) HA4.out)
      have HBB5 := Lib.hid (cells_on hb (by have := HS4.out; omega) HBB4.out)
      have HS5 := Lib.hid (show w.heap.size + 2 ≤ wr.heap.size by have := hb.size; have := HS4.out; omega)
      clear a44 b44
      go_loopw [10] (fun i wq => ∃ j : Nat, j ≤ pn ∧ i = .int .i64 j ∧ Below wr.heap.size wr wq) (fun i _ => pn - (intOf i).toNat)
      case atStart => exact ⟨0, Nat.zero_le _, rfl, Below.refl _ _⟩
      case round =>
        obtain ⟨j, hj, rfl, hc⟩ := hrel
        have a48 := cells_on hc (by have := HS5.out; omega) HA5.out 48 (.slice pox pn pcx) rfl
        have b48 := cells_on hc (by have := HS5.out; omega) HBB5.out 48 (.slice poy pn pcy) rfl
        by_cases hlt : j < pn
        · obtain ⟨x, hx⟩ := SlIs.lt (S3.out) hlt
          have hbw := below_next HB5.out hc
          obtain ⟨g1, o1, u1, rfl, p1, ⟨c0, c1, rfl, ⟨rfl, _⟩, ⟨c2, c3, rfl, ⟨rfl, _⟩, ⟨rfl, _⟩⟩⟩, q1⟩ := (SlIs.grow perK_fine hbw S3.out).2.2.2 j x hx
          obtain ⟨g2, o2, u2, rfl, p2, ⟨c0, c1, rfl, ⟨rfl, _⟩, ⟨c2, c3, rfl, ⟨rfl, _⟩, ⟨rfl, _⟩⟩⟩, q2⟩ := (SlIs.grow perK_fine hbw T3.out).2.2.2 j x hx
          have e0 := cell_regrown (q1 0 _ rfl); have e1 := cell_regrown (q1 1 _ rfl); have e2 := cell_regrown (q1 2 _ rfl); have f0 := cell_regrown (q2 0 _ rfl); have f1 := cell_regrown (q2 1 _ rfl); have f2 := cell_regrown (q2 2 _ rfl)
          simp only [show perK.sz = 3 from rfl, Nat.add_zero] at e0 e1 e2 f0 f1 f2
          have a48r := cell_regrown a48; have b48r := cell_regrown b48
          clear p1 p2 q1 q2 hx hbw
          generalize x.node = s at *
          generalize x.pos.hi = t at *
          generalize x.pos.lo = u at *
          go_wp2_with fail
          refine wp_region_quiet_below (by kernel_rfl) (by kernel_rfl) ?_
          repeat (go_big_quiet_step (fail))
          refine wpQuiet_nil ?_
          intro _ hw'
          obtain ⟨⟨dq, osq⟩, hw''⟩ := hw'
          subst hw''
          have lk := below_regrown wr dq osq
          go_wp2_with fail
          go_roundw
          case rel => exact ⟨j + 1, by omega, by go_num, below_next hc lk⟩
          case measure => simp [intOf]; omega
        · obtain rfl : j = pn := by omega
          have HB6 := Lib.hid (below_next HB5.out hc)
          have HA6 := Lib.hid (cells_on hc (by have := HS5.out; omega) HA5.out)
          have HBB6 := Lib.hid (cells_on hc (by have := HS5.out; omega) HBB5.out)
          have HS6 := Lib.hid (show w.heap.size + 2 ≤ wr.heap.size by have := hc.size; have := HS5.out; omega)
          clear hb hc
          have hsz : w.heap.size + 1 < wr.heap.size := by have := HS6.out; omega
          have hsz0 : w.heap.size < wr.heap.size := by omega
          have a0 := HA6.out 0 (.int .i64 kind) rfl
          have a1 := HA6.out 1 (.int .i64 fr) rfl
          have a2 := HA6.out 2 (.int .i64 to) rfl
          have a3 := HA6.out 3 (.int .u64 (it : Int)) rfl
          have a4 := HA6.out 4 (.int .i64 ib) rfl
          have a5 := HA6.out 5 (.int .i64 ir) rfl
          have a6 := HA6.out 6 (.int .u32 (ii : Int)) rfl
          have a7 := HA6.out 7 (.int .u32 (br : Int)) rfl
          have a8 := HA6.out 8 (.int .u8 (bn : Int)) rfl
          have a9 := HA6.out 9 (.bool ai) rfl
          have a10 := HA6.out 10 (.int .u32 (abr : Int)) rfl
          have a11 := HA6.out 11 (.int .u8 (abn : Int)) rfl
          have a12 := HA6.out 12 (.string av) rfl
          have a13 := HA6.out 13 (.string va) rfl
          have a20 := HA6.out 20 (.int .u64 (id_ : Int)) rfl
          have a21 := HA6.out 21 (.int .u32 (ix : Int)) rfl
          have a22 := HA6.out 22 (.int .u32 (ro : Int)) rfl
          have a23 := HA6.out 23 (.int .i64 bu) rfl
          have a24 := HA6.out 24 (.int .i64 re) rfl
          have a25 := HA6.out 25 (.int .i64 of_) rfl
          have a26 := HA6.out 26 (.int .u32 (inc : Int)) rfl
          have a27 := HA6.out 27 (.int .i64 vo_) rfl
          have a28 := HA6.out 28 (.int .u32 (aro : Int)) rfl
          have a29 := HA6.out 29 (.int .u32 (ain : Int)) rfl
          have a30 := HA6.out 30 (.int .u32 (ave : Int)) rfl
          have a31 := HA6.out 31 (.slice dox dnx dcx) rfl
          have a42 := HA6.out 42 (.int .i64 az) rfl
          have a43 := HA6.out 43 (.int .i64 as_) rfl
          have a45 := HA6.out 45 (.int .u64 (ph : Int)) rfl
          have a46 := HA6.out 46 (.int .u64 (pl : Int)) rfl
          have a47 := HA6.out 47 (.int .i64 ho) rfl
          have b0 := HBB6.out 0 (.int .i64 kind) rfl
          have b1 := HBB6.out 1 (.int .i64 fr) rfl
          have b2 := HBB6.out 2 (.int .i64 to) rfl
          have b3 := HBB6.out 3 (.int .u64 (it : Int)) rfl
          have b4 := HBB6.out 4 (.int .i64 ib) rfl
          have b5 := HBB6.out 5 (.int .i64 ir) rfl
          have b6 := HBB6.out 6 (.int .u32 (ii : Int)) rfl
          have b7 := HBB6.out 7 (.int .u32 (br : Int)) rfl
          have b8 := HBB6.out 8 (.int .u8 (bn : Int)) rfl
          have b9 := HBB6.out 9 (.bool ai) rfl
          have b10 := HBB6.out 10 (.int .u32 (abr : Int)) rfl
          have b11 := HBB6.out 11 (.int .u8 (abn : Int)) rfl
          have b12 := HBB6.out 12 (.string av) rfl
          have b13 := HBB6.out 13 (.string va) rfl
          have b20 := HBB6.out 20 (.int .u64 (id_ : Int)) rfl
          have b21 := HBB6.out 21 (.int .u32 (ix : Int)) rfl
          have b22 := HBB6.out 22 (.int .u32 (ro : Int)) rfl
          have b23 := HBB6.out 23 (.int .i64 bu) rfl
          have b24 := HBB6.out 24 (.int .i64 re) rfl
          have b25 := HBB6.out 25 (.int .i64 of_) rfl
          have b26 := HBB6.out 26 (.int .u32 (inc : Int)) rfl
          have b27 := HBB6.out 27 (.int .i64 vo_) rfl
          have b28 := HBB6.out 28 (.int .u32 (aro : Int)) rfl
          have b29 := HBB6.out 29 (.int .u32 (ain : Int)) rfl
          have b30 := HBB6.out 30 (.int .u32 (ave : Int)) rfl
          have b31 := HBB6.out 31 (.slice doy dny dcy) rfl
          have b42 := HBB6.out 42 (.int .i64 az) rfl
          have b43 := HBB6.out 43 (.int .i64 as_) rfl
          have b45 := HBB6.out 45 (.int .u64 (ph : Int)) rfl
          have b46 := HBB6.out 46 (.int .u64 (pl : Int)) rfl
          have b47 := HBB6.out 47 (.int .i64 ho) rfl
          go_wp2_with fail
          go_ret
          exact ⟨rfl, below_alloc (below_alloc HB6.out _) _⟩
end Go.Proofs.YtngcbpgafjnfaaaGreatDoor


namespace Go.Proofs.YtngcbpgafjnfaaaGreatDoor
open Go.RowKit Go.Sort
set_option linter.unusedVariables false

theorem msg_same (cs ds : List Value) (m : Ms) (w : World) (hz : cs.length = 49) (hz' : ds.length = 49) (h1 : SlIn w (Here w) cs (slotsOf m)) (h2 : SlIn w (Here w) ds (slotsOf m)) :
    Calls Tryz.prog 16 #[.agg cs.toArray, .agg ds.toArray] w (Yes w) := by
  obtain ⟨iox, inx, icx, dox, dnx, dcx, eox, enx, ecx, lox, lnx, lcx, vox, vnx, vcx, cox, cnx, ccx, pox, pnx, pcx, e1, T1, K1, D1, C1, P1⟩ := msg_cells hz h1
  obtain ⟨ioy, iny, icy, doy, dny, dcy, eoy, eny, ecy, loy, lny, lcy, voy, vny, vcy, coy, cny, ccy, poy, pny, pcy, e2, T2, K2, D2, C2, P2⟩ := msg_cells hz' h2
  obtain rfl : cny = cnx := C2.1.symm.trans C1.1
  obtain rfl : pny = pnx := P2.1.symm.trans P1.1
  refine same_core (m.kind) (m.fr) (m.to) (m.inst.tx) (m.inst.bucket) (m.inst.replica) (m.inst.index) (m.ballot.round) (m.ballot.node) (m.accepted.is) (m.accepted.b.round) (m.accepted.b.node) (m.accepted.value) (m.value) (m.tx.id) (m.tx.client) (m.tx.mans.getD 0 0) (m.tx.mans.getD 1 0) (m.tx.mans.getD 2 0) (m.id) (m.index) (m.round) (m.bucket) (m.replica) (m.of) (m.inc) (m.vote) (m.answer.round) (m.answer.inc) (m.answer.ver) (m.copy.state) (m.copy.inc) (m.copy.ver) (m.copy.fences.getD 0 0) (m.copy.fences.getD 1 0) (m.copy.fences.getD 2 0) (m.copy.fences.getD 3 0) (m.arc.size0) (m.arc.size) (m.pos.hi) (m.pos.lo) (m.hops) iox inx icx dox dnx dcx eox enx ecx lox lnx lcx vox vnx vcx cox ccx pox pcx ioy iny icy doy dny dcy eoy eny ecy loy lny lcy voy vny vcy coy cny ccy poy pny pcy m.copies m.peers cs.toArray ds.toArray (by rw [e1]; rfl) (by rw [e2]; rfl) w ?_ ?_ ?_ C1 C2 P1 P2
  · intro w' b
    exact tx_same _ _ m.tx w' (txK_fine.grow b T1) (txK_fine.grow b T2)
  · intro w' b
    exact copy_same _ _ m.copy w' (cpyK_fine.grow b K1) (cpyK_fine.grow b K2)
  · intro w' b
    exact entries_same _ _ _ _ _ _ m.answer.data w' (SlIs.grow entK_fine b D1) (SlIs.grow entK_fine b D2)
end Go.Proofs.YtngcbpgafjnfaaaGreatDoor
