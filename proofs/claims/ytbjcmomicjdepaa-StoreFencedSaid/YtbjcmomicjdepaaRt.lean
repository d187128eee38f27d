/- Right: wasRead, areEntries, isLock. -/
import Derived.Test.YtbjcmomicjdepaaDt
namespace Go.Proofs.Ytbjcmomicjdepaa
open Go.RowKit Go.Sort
set_option linter.unusedVariables false
set_option linter.unusedSimpArgs false
set_option maxRecDepth 100000

def mk (s : ByteArray) : Bool := decide (1 ≤ s.size ∧ s.size ≤ 32)
def mv (s : ByteArray) : Bool := decide ((s.size : Int) ≤ 64)
/-- a text is not below another, as the walk has it -/
def gte (a b : ByteArray) : Bool := !(Op.bytesLess a.toList b.toList)
def okE (b : Int) (e : En) : Bool := mk e.k && (mv e.v && (kb e.k == b))
/-- entry j may stand where it stands -/
def prevE (es : List En) (e : En) : Nat → Bool
  | 0 => true
  | i + 1 => match es[i]? with
    | some d => !gte d.k e.k
    | none => true
def stE (b : Int) (es : List En) (j : Nat) : Bool := match es[j]? with
  | some e => okE b e && prevE es e j
  | none => true
/-- may a bucket hold these -/
def areB (b : Int) (es : List En) : Bool := decide (es.length ≤ 8) && (List.range es.length).all (stE b es)
/-- how many of the four were read -/
def nz (x : Int) : Nat := if x = 0 then 0 else 1
def cntTo (i : It) : Nat → Nat
  | 0 => 0
  | 1 => nz i.i0
  | 2 => nz i.i0 + nz i.i1
  | 3 => nz i.i0 + nz i.i1 + nz i.i2
  | _ => nz i.i0 + nz i.i1 + nz i.i2 + nz i.i3
def cnt4 (i : It) : Nat := nz i.i0 + nz i.i1 + nz i.i2 + nz i.i3
def readB (i : It) : Bool := decide (3 ≤ cnt4 i)
def rightB (i : It) : Bool := decide (0 ≤ i.bucket ∧ i.bucket < 64) && (decide (i.ver < 2147483647) && (readB i && (if i.write then areB i.bucket i.es else decide (i.es = []))))
def lockB (l : Lk) : Bool := decide (l.tx ≠ 0) && rightB l.it
theorem below_drewN (w : World) (n : Nat) : Below w.heap.size w (w.drewN n) := ⟨rfl, rfl, rfl, Nat.le_refl _, fun _ _ => rfl⟩
theorem mk_any (s : ByteArray) (hs : s.size ≤ maxLen) : Ret 64 #[.string s] (.returned (.bool (mk s))) := fun w => same_below (maykey_any s hs w)
theorem mv_any (s : ByteArray) (hs : s.size ≤ maxLen) : Ret 65 #[.string s] (.returned (.bool (mv s))) := fun w => same_below (mayvalue_any s hs w)

section
variable {s : Sd} {es : List En}
set_option maxHeartbeats 4000000 in
theorem entries_any (b : Int) (w : World) (h : EsR w s es) : Calls Try.prog 35 #[.int .i64 b, .slice s.ao es.length s.cap] w fun e w' => e = .returned (.bool (areB b es)) ∧ Below w.heap.size w w' := by
  have H := Lib.hid h
  obtain ⟨n, hn⟩ : ∃ n, es.length = n := ⟨_, rfl⟩
  have hmx : n ≤ maxLen := by rw [← hn]; exact h.len
  have hmi : (n : Int) ≤ 9223372036854775807 := by unfold maxLen at hmx; omega
  have HN := Lib.hid hn
  obtain ⟨ao, cap⟩ := s
  simp only
  clear h
  rw [hn]
  clear hn hmx
  by_cases h8 : n ≤ 8
  · have h8i : (n : Int) ≤ 8 := by omega
    go_enter Try.func35, Try.ntmps35
    go_wp2_with fail
    go_loopw [12] (fun v12 wr => ∃ k : Nat, v12 = .int .i64 (k : Int) ∧ k ≤ n ∧ Hid (∀ j, j < k → stE b es j = true) ∧ Hid (Below w.heap.size w wr)) (fun v12 _ => n - (intOf v12).toNat)
    case atStart => exact ⟨0, rfl, Nat.zero_le _, Lib.hid (fun j hj => by omega), Lib.hid (Below.refl _ _)⟩
    case round =>
      obtain ⟨k, rfl, hk, HALL, B⟩ := hrel
      by_cases hkn : k < n
      · obtain ⟨e, he⟩ : ∃ e, es[k]? = some e := ⟨_, List.getElem?_eq_getElem (by rw [HN.out]; exact hkn)⟩
        obtain ⟨g, o, rfl, hg, a0, a1⟩ := (H.out.below B.out).cells he
        have hki : (k : Int) < (n : Int) := by omega
        have hk0 : (0 : Int) ≤ (k : Int) := by omega
        have hsz := H.out.sz e (List.mem_of_getElem? he)
        have C1 := Lib.hid (mk_any e.k hsz.1)
        have C2 := Lib.hid (mv_any e.v hsz.2)
        have C3 := Lib.hid (keybucket_any e.k hsz.1)
        have HE := Lib.hid he
        have NO := Lib.hid (show stE b es k = false → areB b es = false from fun hf => by
          unfold areB
          rw [Bool.and_eq_false_iff]; right
          rw [List.all_eq_false]
          exact ⟨k, List.mem_range.2 (by rw [HN.out]; exact hkn), by rw [hf]; simp⟩)
        have HST := Lib.hid (show stE b es k = (okE b e && prevE es e k) from by unfold stE; rw [he])
        have b9 := below_next B.out (below_alloc (Below.refl wr.heap.size wr) (.cells #[.string e.k, .string e.v] 106))
        have HB9 := Lib.hid b9
        have HSTEP := Lib.hid (fun (w9 : World) (h9 : Below w.heap.size w w9) (i : Nat) (hi : k = i + 1) => (H.out.below h9).cells (j := i) (e := es[i]'(by have := HN.out; omega)) (List.getElem?_eq_getElem _))
        clear he hsz b9
        cases h1 : mk e.k with
        | false =>
          rw [h1] at C1
          go_wp2_with fail
          refine (C1.out _).mono ?_; rintro e1 w2 ⟨rfl, b2⟩
          have B2 := Lib.hid (below_next HB9.out b2)
          clear b2
          go_wp2_with fail
          go_ret
          exact ⟨ret_bool (NO.out (HST.out.trans (by unfold okE; rw [h1]; rfl))).symm, B2.out⟩
        | true =>
          rw [h1] at C1
          have q0 : (wr.alloc (.cells #[.string e.k, .string e.v] 106)).cell? ⟨wr.heap.size, 0, none⟩ = some (.string e.k) := by go_simp
          have q1 : (wr.alloc (.cells #[.string e.k, .string e.v] 106)).cell? ⟨wr.heap.size, 1, none⟩ = some (.string e.v) := by go_simp
          have ql : wr.heap.size < (wr.alloc (.cells #[.string e.k, .string e.v] 106)).heap.size := by simp
          go_upto_region 6 with (fail)
          generalize wr.alloc (.cells #[.string e.k, .string e.v] 106) = w1 at *
          generalize wr.heap.size = bx at *
          have Q1 := Lib.hid q1
          clear q1
          go_wp2_with fail
          refine (C1.out _).mono ?_; rintro e1 w2 ⟨rfl, b2⟩
          have B2 := Lib.hid (below_next HB9.out b2)
          have hl2 := b2.size
          have ql2 : bx < w2.heap.size := by omega
          have q1 : w2.cell? ⟨bx, 1, none⟩ = some (.string e.v) := (b2.cell ql).trans Q1.out
          replace q0 : w2.cell? ⟨bx, 0, none⟩ = some (.string e.k) := (b2.cell ql).trans q0
          clear b2 ql hl2 Q1
          cases h2 : mv e.v with
          | false =>
            rw [h2] at C2
            go_wp2_with fail
            refine (C2.out _).mono ?_; rintro e1 w3 ⟨rfl, b3⟩
            have B3 := Lib.hid (below_next B2.out b3)
            clear b3
            go_wp2_with fail
            go_ret
            exact ⟨ret_bool (NO.out (HST.out.trans (by unfold okE; rw [h1, h2]; rfl))).symm, B3.out⟩
          | true =>
            rw [h2] at C2
            go_wp2_with fail
            refine (C2.out _).mono ?_; rintro e1 w3 ⟨rfl, b3⟩
            have B3 := Lib.hid (below_next B2.out b3)
            have hl3 := b3.size
            have ql3 : bx < w3.heap.size := by omega
            replace q0 : w3.cell? ⟨bx, 0, none⟩ = some (.string e.k) := (b3.cell ql2).trans q0
            clear b3 ql2 hl3 q1
            go_wp2_with fail
            refine (C3.out _).mono ?_; rintro e1 w4 ⟨rfl, b4⟩
            have B4 := Lib.hid (below_next B3.out b4)
            have hl4 := b4.size
            have ql4 : bx < w4.heap.size := by omega
            replace q0 : w4.cell? ⟨bx, 0, none⟩ = some (.string e.k) := (b4.cell ql3).trans q0
            clear b4 ql3 hl4
            by_cases h3 : kb e.k = b
            · have h3b : (kb e.k != b) = false := by simp [h3]
              have HO := Lib.hid (show okE b e = true from by unfold okE; rw [h1, h2, h3]; simp)
              clear h3
              go_upto_region 8 with (fail)
              obtain rfl | ⟨m, rfl⟩ : k = 0 ∨ ∃ m, k = m + 1 := by cases k with | zero => exact .inl rfl | succ m => exact .inr ⟨m, rfl⟩
              · go_quiet (fail)
                go_wp2_with fail
                go_roundw
                case rel => exact ⟨1, by go_num, by omega, Lib.hid (fun j hj => by
                  obtain rfl : j = 0 := by omega
                  rw [HST.out, HO.out]; rfl), Lib.hid (below_next B4.out (below_drewN _ _))⟩
                case measure => simp [intOf]; omega
              · obtain ⟨g2, o2, e2, hg2, d0, d1⟩ := HSTEP.out w4 B4.out m rfl
                simp only [Option.some.injEq, Addr.mk.injEq, and_true] at e2
                obtain ⟨rfl, rfl⟩ := e2
                have he1 : (((m + 1 : Nat) : Int) - 1) = (m : Int) := by omega
                have hm0 : (0 : Int) ≤ (m : Int) := by omega
                have hmn : (m : Int) < (n : Int) := by omega
                have hpr : prevE es e (m + 1) = !gte (es[m]'(by have := HN.out; omega)).k e.k := by
                  show (match es[m]? with | some d => !gte d.k e.k | none => true) = _
                  rw [List.getElem?_eq_getElem (by have := HN.out; omega)]
                have HP := Lib.hid hpr
                have hki1 : (0 : Int) < ((m + 1 : Nat) : Int) := by omega
                clear hpr d1
                generalize es[m]'(by have := HN.out; omega) = d at *
                cases hg3 : gte d.k e.k with
                | true =>
                  have hg4 : (!Op.bytesLess d.k.toList e.k.toList) = true := hg3
                  have HG := Lib.hid hg3
                  clear hg3
                  go_quiet (fail)
                  go_wp2_with fail
                  go_ret
                  exact ⟨ret_bool (NO.out (HST.out.trans (by rw [HO.out, HP.out, HG.out]; rfl))).symm, below_next B4.out (below_drewN _ _)⟩
                | false =>
                  have hg4 : (!Op.bytesLess d.k.toList e.k.toList) = false := hg3
                  have HG := Lib.hid hg3
                  clear hg3
                  go_quiet (fail)
                  go_wp2_with fail
                  go_roundw
                  case rel => exact ⟨m + 1 + 1, by go_num, by omega, Lib.hid (fun j hj => by
                    rcases Nat.lt_or_ge j (m + 1) with h | h
                    · exact HALL.out j h
                    · obtain rfl : j = m + 1 := by omega
                      rw [HST.out, HO.out, HP.out, HG.out]; rfl), Lib.hid (below_next B4.out (below_drewN _ _))⟩
                  case measure => simp [intOf]; omega
            · have h3b : (kb e.k != b) = true := by simp [h3]
              have HO := Lib.hid (show okE b e = false from by unfold okE; rw [h1, h2]; simpa using h3)
              clear h3
              go_wp2_with fail
              go_ret
              exact ⟨ret_bool (NO.out (HST.out.trans (by rw [HO.out]; rfl))).symm, B4.out⟩
      · obtain rfl : n = k := by omega
        go_wp2_with fail
        go_ret
        refine ⟨ret_bool ?_, B.out⟩
        unfold areB
        rw [HN.out, decide_eq_true h8, Bool.true_and]
        symm
        rw [List.all_eq_true]
        exact fun j hj => HALL.out j (List.mem_range.1 hj)
  · have h8i : ¬ (n : Int) ≤ 8 := by omega
    go_enter Try.func35, Try.ntmps35
    go_wp2_with fail
    go_ret
    refine ⟨ret_bool ?_, Below.refl _ _⟩
    unfold areB
    rw [HN.out, decide_eq_false h8]; rfl
set_option maxHeartbeats 2000000 in
theorem wasread_any (i : It) : Ret 34 #[i.ag s] (.returned (.bool (readB i))) := by
  intro w
  obtain ⟨bk, ver, wt, es, i0, i1, i2, i3⟩ := i
  have hb := below_alloc (Below.refl w.heap.size w) (.cells #[.int .i64 bk, .int .u32 ver, .bool wt, .slice s.ao es.length s.cap, .int .u32 i0, .int .u32 i1, .int .u32 i2, .int .u32 i3] 26)
  have HB := Lib.hid hb
  clear hb
  simp only [It.ag]
  have x0 : ∀ w : World, (Instr.index 24 (.agg #[.int .u32 i0, .int .u32 i1, .int .u32 i2, .int .u32 i3]) (.int .i64 0)).run Try.prog w = .ok (.int .u32 i0) w := fun _ => by kernel_rfl
  have x1 : ∀ w : World, (Instr.index 24 (.agg #[.int .u32 i0, .int .u32 i1, .int .u32 i2, .int .u32 i3]) (.int .i64 1)).run Try.prog w = .ok (.int .u32 i1) w := fun _ => by kernel_rfl
  have x2 : ∀ w : World, (Instr.index 24 (.agg #[.int .u32 i0, .int .u32 i1, .int .u32 i2, .int .u32 i3]) (.int .i64 2)).run Try.prog w = .ok (.int .u32 i2) w := fun _ => by kernel_rfl
  have x3 : ∀ w : World, (Instr.index 24 (.agg #[.int .u32 i0, .int .u32 i1, .int .u32 i2, .int .u32 i3]) (.int .i64 3)).run Try.prog w = .ok (.int .u32 i3) w := fun _ => by kernel_rfl
  go_enter Try.func34, Try.ntmps34
  go_wp2_with fail
  obtain ⟨W, hW⟩ : ∃ W, W = w.alloc (.cells #[.int .i64 bk, .int .u32 ver, .bool wt, .slice s.ao es.length s.cap, .int .u32 i0, .int .u32 i1, .int .u32 i2, .int .u32 i3] 26) := ⟨_, rfl⟩
  rw [← hW] at HB ⊢
  clear hW
  go_loopw [3, 8] (fun v3 v8 wx => wx = W ∧ ∃ k : Nat, k ≤ 4 ∧ v8 = .int .i64 (k : Int) ∧ v3 = .int .i64 (cntTo ⟨bk, ver, wt, es, i0, i1, i2, i3⟩ k : Int)) (fun _ v8 _ => 4 - (intOf v8).toNat)
  case atStart => exact ⟨rfl, 0, by omega, rfl, rfl⟩
  case round =>
    obtain ⟨rfl, k, hk, rfl, rfl⟩ := hrel
    have hk5 : k = 0 ∨ k = 1 ∨ k = 2 ∨ k = 3 ∨ k = 4 := by omega
    have nzle : ∀ x, nz x ≤ 1 := fun x => by unfold nz; split <;> omega
    have n0 := nzle i0; have n1 := nzle i1; have n2 := nzle i2; have n3 := nzle i3
    clear nzle
    rcases hk5 with rfl | rfl | rfl | rfl | rfl
    · by_cases h0 : i0 = 0
      · have h0b : (i0 != 0) = false := by simp [h0]
        have e : cntTo ⟨bk, ver, wt, es, i0, i1, i2, i3⟩ 1 = cntTo ⟨bk, ver, wt, es, i0, i1, i2, i3⟩ 0 := by simp [cntTo, nz, h0]
        have hc : cntTo ⟨bk, ver, wt, es, i0, i1, i2, i3⟩ 0 ≤ 4 := by simp only [cntTo]; omega
        have E := Lib.hid e
        clear e h0 n0 n1 n2 n3
        generalize cntTo ⟨bk, ver, wt, es, i0, i1, i2, i3⟩ = c at *
        go_wp2_with fail
        go_roundw
        case rel => exact ⟨trivial, 1, by omega, rfl, by rw [E.out]⟩
        case measure => simp [intOf]
      · have h0b : (i0 != 0) = true := by simp [h0]
        have e : cntTo ⟨bk, ver, wt, es, i0, i1, i2, i3⟩ 1 = cntTo ⟨bk, ver, wt, es, i0, i1, i2, i3⟩ 0 + 1 := by simp [cntTo, nz, h0]
        have hc : cntTo ⟨bk, ver, wt, es, i0, i1, i2, i3⟩ 0 ≤ 4 := by simp only [cntTo]; omega
        have E := Lib.hid e
        clear e h0 n0 n1 n2 n3
        generalize cntTo ⟨bk, ver, wt, es, i0, i1, i2, i3⟩ = c at *
        go_wp2_with fail
        go_roundw
        case rel => exact ⟨trivial, 1, by omega, rfl, by rw [E.out]; go_num⟩
        case measure => simp [intOf]
    · by_cases h0 : i1 = 0
      · have h0b : (i1 != 0) = false := by simp [h0]
        have e : cntTo ⟨bk, ver, wt, es, i0, i1, i2, i3⟩ 2 = cntTo ⟨bk, ver, wt, es, i0, i1, i2, i3⟩ 1 := by simp [cntTo, nz, h0]
        have hc : cntTo ⟨bk, ver, wt, es, i0, i1, i2, i3⟩ 1 ≤ 4 := by simp only [cntTo]; omega
        have E := Lib.hid e
        clear e h0 n0 n1 n2 n3
        generalize cntTo ⟨bk, ver, wt, es, i0, i1, i2, i3⟩ = c at *
        go_wp2_with fail
        go_roundw
        case rel => exact ⟨trivial, 2, by omega, rfl, by rw [E.out]⟩
        case measure => simp [intOf]
      · have h0b : (i1 != 0) = true := by simp [h0]
        have e : cntTo ⟨bk, ver, wt, es, i0, i1, i2, i3⟩ 2 = cntTo ⟨bk, ver, wt, es, i0, i1, i2, i3⟩ 1 + 1 := by simp [cntTo, nz, h0]
        have hc : cntTo ⟨bk, ver, wt, es, i0, i1, i2, i3⟩ 1 ≤ 4 := by simp only [cntTo]; omega
        have E := Lib.hid e
        clear e h0 n0 n1 n2 n3
        generalize cntTo ⟨bk, ver, wt, es, i0, i1, i2, i3⟩ = c at *
        go_wp2_with fail
        go_roundw
        case rel => exact ⟨trivial, 2, by omega, rfl, by rw [E.out]; go_num⟩
        case measure => simp [intOf]
    · by_cases h0 : i2 = 0
      · have h0b : (i2 != 0) = false := by simp [h0]
        have e : cntTo ⟨bk, ver, wt, es, i0, i1, i2, i3⟩ 3 = cntTo ⟨bk, ver, wt, es, i0, i1, i2, i3⟩ 2 := by simp [cntTo, nz, h0]
        have hc : cntTo ⟨bk, ver, wt, es, i0, i1, i2, i3⟩ 2 ≤ 4 := by simp only [cntTo]; omega
        have E := Lib.hid e
        clear e h0 n0 n1 n2 n3
        generalize cntTo ⟨bk, ver, wt, es, i0, i1, i2, i3⟩ = c at *
        go_wp2_with fail
        go_roundw
        case rel => exact ⟨trivial, 3, by omega, rfl, by rw [E.out]⟩
        case measure => simp [intOf]
      · have h0b : (i2 != 0) = true := by simp [h0]
        have e : cntTo ⟨bk, ver, wt, es, i0, i1, i2, i3⟩ 3 = cntTo ⟨bk, ver, wt, es, i0, i1, i2, i3⟩ 2 + 1 := by simp [cntTo, nz, h0]
        have hc : cntTo ⟨bk, ver, wt, es, i0, i1, i2, i3⟩ 2 ≤ 4 := by simp only [cntTo]; omega
        have E := Lib.hid e
        clear e h0 n0 n1 n2 n3
        generalize cntTo ⟨bk, ver, wt, es, i0, i1, i2, i3⟩ = c at *
        go_wp2_with fail
        go_roundw
        case rel => exact ⟨trivial, 3, by omega, rfl, by rw [E.out]; go_num⟩
        case measure => simp [intOf]
    · by_cases h0 : i3 = 0
      · have h0b : (i3 != 0) = false := by simp [h0]
        have e : cntTo ⟨bk, ver, wt, es, i0, i1, i2, i3⟩ 4 = cntTo ⟨bk, ver, wt, es, i0, i1, i2, i3⟩ 3 := by simp [cntTo, nz, h0]
        have hc : cntTo ⟨bk, ver, wt, es, i0, i1, i2, i3⟩ 3 ≤ 4 := by simp only [cntTo]; omega
        have E := Lib.hid e
        clear e h0 n0 n1 n2 n3
        generalize cntTo ⟨bk, ver, wt, es, i0, i1, i2, i3⟩ = c at *
        go_wp2_with fail
        go_roundw
        case rel => exact ⟨trivial, 4, by omega, rfl, by rw [E.out]⟩
        case measure => simp [intOf]
      · have h0b : (i3 != 0) = true := by simp [h0]
        have e : cntTo ⟨bk, ver, wt, es, i0, i1, i2, i3⟩ 4 = cntTo ⟨bk, ver, wt, es, i0, i1, i2, i3⟩ 3 + 1 := by simp [cntTo, nz, h0]
        have hc : cntTo ⟨bk, ver, wt, es, i0, i1, i2, i3⟩ 3 ≤ 4 := by simp only [cntTo]; omega
        have E := Lib.hid e
        clear e h0 n0 n1 n2 n3
        generalize cntTo ⟨bk, ver, wt, es, i0, i1, i2, i3⟩ = c at *
        go_wp2_with fail
        go_roundw
        case rel => exact ⟨trivial, 4, by omega, rfl, by rw [E.out]; go_num⟩
        case measure => simp [intOf]
    · have hc : cntTo ⟨bk, ver, wt, es, i0, i1, i2, i3⟩ 4 = cnt4 ⟨bk, ver, wt, es, i0, i1, i2, i3⟩ := rfl
      rw [hc]
      have h4 : cnt4 ⟨bk, ver, wt, es, i0, i1, i2, i3⟩ ≤ 4 := by simp only [cnt4]; omega
      have HR := Lib.hid (show readB ⟨bk, ver, wt, es, i0, i1, i2, i3⟩ = decide (3 ≤ cnt4 ⟨bk, ver, wt, es, i0, i1, i2, i3⟩) from rfl)
      clear hc n0 n1 n2 n3
      generalize cnt4 ⟨bk, ver, wt, es, i0, i1, i2, i3⟩ = c at *
      go_wp2_with fail
      go_ret
      exact ⟨ret_bool (by rw [HR.out]; simp only [decide_eq_decide]; omega), HB.out⟩
theorem item_cells {w : World} {bx : Nat} {bk ver : Int} {wt : Bool} {v : Value} {i0 i1 i2 i3 : Int} (h : w.heap[bx]? = some (.cells #[.int .i64 bk, .int .u32 ver, .bool wt, v, .int .u32 i0, .int .u32 i1, .int .u32 i2, .int .u32 i3] 26 (0, 0))) :
    w.cell? ⟨bx, 0, none⟩ = some (.int .i64 bk) ∧ w.cell? ⟨bx, 1, none⟩ = some (.int .u32 ver) ∧ w.cell? ⟨bx, 2, none⟩ = some (.bool wt) ∧ w.cell? ⟨bx, 3, none⟩ = some v ∧ w.cell? ⟨bx, 4, none⟩ = some (.int .u32 i0) ∧ w.cell? ⟨bx, 5, none⟩ = some (.int .u32 i1) ∧ w.cell? ⟨bx, 6, none⟩ = some (.int .u32 i2) ∧ w.cell? ⟨bx, 7, none⟩ = some (.int .u32 i3) :=
  ⟨cell_of_row w bx 0 _ _ (0, 0) h, cell_of_row w bx 1 _ _ (0, 0) h, cell_of_row w bx 2 _ _ (0, 0) h, cell_of_row w bx 3 _ _ (0, 0) h, cell_of_row w bx 4 _ _ (0, 0) h, cell_of_row w bx 5 _ _ (0, 0) h, cell_of_row w bx 6 _ _ (0, 0) h, cell_of_row w bx 7 _ _ (0, 0) h⟩
set_option maxHeartbeats 2000000 in
theorem right_out (i : It) (h : ¬ (0 ≤ i.bucket ∧ i.bucket < 64)) : Ret 14 #[i.ag s] (.returned (.bool false)) := by
  intro w
  obtain ⟨bk, ver, wt, es, i0, i1, i2, i3⟩ := i
  have r0 := heap_alloc_new w (.cells #[.int .i64 bk, .int .u32 ver, .bool wt, .slice s.ao es.length s.cap, .int .u32 i0, .int .u32 i1, .int .u32 i2, .int .u32 i3] 26)
  have C := Lib.hid (homes_out bk h)
  clear h
  simp only [It.ag]
  go_enter Try.func14, Try.ntmps14
  go_upto_region 1 with (fail)
  have hlt : w.heap.size < (w.alloc (.cells #[.int .i64 bk, .int .u32 ver, .bool wt, .slice s.ao es.length s.cap, .int .u32 i0, .int .u32 i1, .int .u32 i2, .int .u32 i3] 26)).heap.size := by simp
  have HB := Lib.hid (below_alloc (Below.refl w.heap.size w) (.cells #[.int .i64 bk, .int .u32 ver, .bool wt, .slice s.ao es.length s.cap, .int .u32 i0, .int .u32 i1, .int .u32 i2, .int .u32 i3] 26))
  generalize w.alloc (.cells #[.int .i64 bk, .int .u32 ver, .bool wt, .slice s.ao es.length s.cap, .int .u32 i0, .int .u32 i1, .int .u32 i2, .int .u32 i3] 26) = w1 at *
  generalize hbx : w.heap.size = bx at r0 hlt ⊢
  obtain ⟨a0, a1, a2, a3, a4, a5, a6, a7⟩ := item_cells r0
  go_wp2_with fail
  refine (C.out _).mono ?_; rintro e w2 ⟨rfl, b2⟩
  have B2 := Lib.hid (below_alloc (below_next HB.out b2) (.cells (ints4 0 0 0 0) 80))
  have B1 := Lib.hid b2
  clear b2 a0 a1 a2 a3 a4 a5 a6 a7
  go_wp2_with fail
  go_ret
  exact ⟨rfl, by first | exact B2.out | (rw [← hbx]; exact B2.out)⟩
set_option maxHeartbeats 2000000 in
theorem right_in (w : World) (i : It) (h : EsR w s i.es) (h0 : 0 ≤ i.bucket) (h1 : i.bucket < 64) : Calls Try.prog 14 #[i.ag s] w fun e w' => e = .returned (.bool (rightB i)) ∧ Below w.heap.size w w' := by
  obtain ⟨bk, ver, wt, es, i0, i1, i2, i3⟩ := i
  have r0 := heap_alloc_new w (.cells #[.int .i64 bk, .int .u32 ver, .bool wt, .slice s.ao es.length s.cap, .int .u32 i0, .int .u32 i1, .int .u32 i2, .int .u32 i3] 26)
  have C := Lib.hid (homes_in bk h0 h1)
  have C2 := Lib.hid (wasread_any (s := s) ⟨bk, ver, wt, es, i0, i1, i2, i3⟩)
  have C3 := Lib.hid (fun (w' : World) (b : Below w.heap.size w w') => entries_any (s := s) (es := es) bk w' (h.below b))
  have HR := Lib.hid (show rightB ⟨bk, ver, wt, es, i0, i1, i2, i3⟩ = (decide (ver < 2147483647) && (readB ⟨bk, ver, wt, es, i0, i1, i2, i3⟩ && (if wt then areB bk es else decide (es = [])))) from by
    unfold rightB
    have : decide (0 ≤ bk ∧ bk < 64) = true := by simpa using ⟨h0, h1⟩
    simp only [this, Bool.true_and])
  have HE := Lib.hid (show decide (es = []) = decide (es.length = 0) from by cases es <;> simp)
  generalize readB ⟨bk, ver, wt, es, i0, i1, i2, i3⟩ = rd at *
  generalize areB bk es = ar at *
  obtain ⟨len, hlen⟩ : ∃ len, es.length = len := ⟨_, rfl⟩
  have hmx : (len : Int) ≤ 9223372036854775807 := by have := h.len; simp only [hlen] at this; unfold maxLen at this; omega
  simp only [It.ag] at C2
  simp only [hlen] at C2 C3 HE r0 ⊢
  clear h h0 h1
  simp only [It.ag]
  go_enter Try.func14, Try.ntmps14
  go_upto_region 1 with (fail)
  have hlt : w.heap.size < (w.alloc (.cells #[.int .i64 bk, .int .u32 ver, .bool wt, .slice s.ao len s.cap, .int .u32 i0, .int .u32 i1, .int .u32 i2, .int .u32 i3] 26)).heap.size := by simp
  have HB := Lib.hid (below_alloc (Below.refl w.heap.size w) (.cells #[.int .i64 bk, .int .u32 ver, .bool wt, .slice s.ao len s.cap, .int .u32 i0, .int .u32 i1, .int .u32 i2, .int .u32 i3] 26))
  generalize w.alloc (.cells #[.int .i64 bk, .int .u32 ver, .bool wt, .slice s.ao len s.cap, .int .u32 i0, .int .u32 i1, .int .u32 i2, .int .u32 i3] 26) = w1 at *
  generalize hbx : w.heap.size = bx at r0 hlt ⊢
  obtain ⟨a0, a1, a2, a3, a4, a5, a6, a7⟩ := item_cells r0
  go_wp2_with fail
  refine (C.out _).mono ?_; rintro e w2 ⟨rfl, b2⟩
  have B2 := Lib.hid (below_alloc (below_next HB.out b2) (.cells (ints4 bk ((bk + 16) % 64) ((bk + 32) % 64) ((bk + 48) % 64)) 80))
  have b2' := below_alloc b2 (.cells (ints4 bk ((bk + 16) % 64) ((bk + 32) % 64) ((bk + 48) % 64)) 80)
  have R0 := Lib.hid (row_keep r0 (Keep.of_below b2' []) (by simp))
  have hl2 := b2'.size
  clear b2 a0 a1 a2 a3 a4 a5 a6 a7 b2' r0
  go_upto_region 2 with (fail)
  generalize w2.alloc (.cells (ints4 bk ((bk + 16) % 64) ((bk + 32) % 64) ((bk + 48) % 64)) 80) = w3 at *
  obtain ⟨a0, a1, a2, a3, a4, a5, a6, a7⟩ := item_cells R0.out
  by_cases hv : ver < 2147483647
  · have hv2 : decide (ver < 2147483647) = true := by simpa using hv
    rw [hv2, Bool.true_and] at HR
    clear hv2
    go_wp2_with fail
    refine (C2.out _).mono ?_; rintro e w4 ⟨rfl, b4⟩
    have B4 := Lib.hid (below_next B2.out b4)
    have R1 := Lib.hid (row_keep R0.out (Keep.of_below b4 []) (by simp))
    clear b4 a0 a1 a2 a3 a4 a5 a6 a7 R0
    obtain ⟨a0, a1, a2, a3, a4, a5, a6, a7⟩ := item_cells R1.out
    cases rd with
    | false =>
      go_wp2_with fail
      go_ret
      exact ⟨ret_bool (by rw [HR.out]; rfl), by first | exact B4.out | (rw [← hbx]; exact B4.out)⟩
    | true =>
      cases wt with
      | false =>
        go_wp2_with fail
        go_ret
        exact ⟨ret_bool (by rw [HR.out]; simp only [Bool.true_and, Bool.false_eq_true, if_false]; rw [HE.out, Bool.eq_iff_iff]; simp), by first | exact B4.out | (rw [← hbx]; exact B4.out)⟩
      | true =>
        go_wp2_with fail
        refine (C3.out _ (by first | exact B4.out | (rw [hbx]; exact B4.out) | (rw [← hbx]; exact B4.out))).mono ?_; rintro e w5 ⟨rfl, b5⟩
        have B5 := Lib.hid (below_next B4.out b5)
        clear b5
        go_wp2_with fail
        go_ret
        exact ⟨ret_bool (by rw [HR.out]; simp), by first | exact B5.out | (rw [← hbx]; exact B5.out)⟩
  · have hv2 : decide (ver < 2147483647) = false := by simpa using hv
    have hv3 : 2147483647 ≤ ver := by omega
    rw [hv2, Bool.false_and] at HR
    clear hv2
    go_wp2_with fail
    go_ret
    exact ⟨ret_bool (by rw [HR.out]), by first | exact B2.out | (rw [← hbx]; exact B2.out)⟩
theorem right_any (w : World) (i : It) (h : EsR w s i.es) : Calls Try.prog 14 #[i.ag s] w fun e w' => e = .returned (.bool (rightB i)) ∧ Below w.heap.size w w' := by
  by_cases hb : 0 ≤ i.bucket ∧ i.bucket < 64
  · exact right_in w i h hb.1 hb.2
  · have : rightB i = false := by unfold rightB; rw [decide_eq_false hb, Bool.false_and]
    rw [this]
    exact right_out i hb w
end
end Go.Proofs.Ytbjcmomicjdepaa
