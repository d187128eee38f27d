/- The document's Learn. -/
import Derived.Test.YtokmchkoojeadaaRb
import Derived.Test.YtokmchkoojeadaaFg
import Derived.Test.YtokmchkoojeadaaTw
namespace Go.Proofs.Ytokmchkoojeadaa
open Go.RowKit Go.Sort
set_option linter.unusedVariables false
set_option linter.unusedSimpArgs false
set_option maxRecDepth 100000
/-- what Learn leaves -/
def Learned (w w' : World) (B b : Nat) (ao : Option Addr) (s p c : Pe) (M : List Pe) : Prop := ∃ ao' cap', DbW w' B b ao' cap' s p c M ∧ Keep (tbB b ao) w w' ∧ ∀ q ∈ tbB b ao', q ∈ tbB b ao ∨ w.heap.size ≤ q
section
variable {B b cap n xc : Nat} {ao xo : Option Addr} {s p c : Pe} {F L : List Pe}
set_option maxHeartbeats 1600000 in
theorem dlearn_low (i : Int) (w : World) (h : DbW w B b ao cap s p c F) (hi : i < 1) : Calls Try.prog 25 #[.pointer (some ⟨b, 0, none⟩), .int .i64 i, .slice xo n xc] w fun e w' => e = .returned (.int .i64 1) ∧ Below w.heap.size w w' := by
  obtain ⟨fl_, hfl⟩ : ∃ x, F.length = x := ⟨_, rfl⟩
  have t9 := h.row.at_ 9
  simp only [rowT, List.getElem?_toArray, List.getElem?_cons_succ, List.getElem?_cons_zero] at t9
  rw [hfl] at t9
  have hlt := (Array.getElem?_eq_some_iff.1 h.row).1
  have k1 : decide (i < 1) = true := decide_eq_true hi
  clear h
  go_enter Try.func25, Try.ntmps25
  go_wp2_with fail
  go_ret
  exact ⟨rfl, Below.refl _ _⟩
set_option maxHeartbeats 1600000 in
theorem dlearn_high (i : Int) (w : World) (h : DbW w B b ao cap s p c F) (hi : 4 ≤ i) : Calls Try.prog 25 #[.pointer (some ⟨b, 0, none⟩), .int .i64 i, .slice xo n xc] w fun e w' => e = .returned (.int .i64 1) ∧ Below w.heap.size w w' := by
  obtain ⟨fl_, hfl⟩ : ∃ x, F.length = x := ⟨_, rfl⟩
  have t9 := h.row.at_ 9
  simp only [rowT, List.getElem?_toArray, List.getElem?_cons_succ, List.getElem?_cons_zero] at t9
  rw [hfl] at t9
  have hlt := (Array.getElem?_eq_some_iff.1 h.row).1
  have k1 : decide (i < 1) = false := decide_eq_false (by omega)
  have k2 : decide (3 < i) = true := decide_eq_true (by omega)
  clear h
  go_enter Try.func25, Try.ntmps25
  go_wp2_with fail
  go_ret
  exact ⟨rfl, Below.refl _ _⟩
set_option maxHeartbeats 1600000 in
theorem dlearn_few (i : Int) (w : World) (h : DbW w B b ao cap s p c F) (h1 : 1 ≤ i) (h4 : i < 4) (hi : (F.length : Int) < i) : Calls Try.prog 25 #[.pointer (some ⟨b, 0, none⟩), .int .i64 i, .slice xo n xc] w fun e w' => e = .returned (.int .i64 1) ∧ Below w.heap.size w w' := by
  obtain ⟨fl_, hfl⟩ : ∃ x, F.length = x := ⟨_, rfl⟩
  have t9 := h.row.at_ 9
  simp only [rowT, List.getElem?_toArray, List.getElem?_cons_succ, List.getElem?_cons_zero] at t9
  rw [hfl] at t9
  have hlt := (Array.getElem?_eq_some_iff.1 h.row).1
  have k1 : decide (i < 1) = false := decide_eq_false (by omega)
  have k2 : decide (3 < i) = false := decide_eq_false (by omega)
  have k3 : decide ((fl_ : Int) < i) = true := decide_eq_true (by omega)
  clear h
  go_enter Try.func25, Try.ntmps25
  go_wp2_with fail
  go_ret
  exact ⟨rfl, Below.refl _ _⟩
set_option maxHeartbeats 1600000 in
theorem dlearn_many (i : Int) (w : World) (h : DbW w B b ao cap s p c F) (h1 : 1 ≤ i) (h4 : i < 4) (hi : i ≤ (F.length : Int)) (hn : 4 < n) : Calls Try.prog 25 #[.pointer (some ⟨b, 0, none⟩), .int .i64 i, .slice xo n xc] w fun e w' => e = .returned (.int .i64 1) ∧ Below w.heap.size w w' := by
  obtain ⟨fl_, hfl⟩ : ∃ x, F.length = x := ⟨_, rfl⟩
  have t9 := h.row.at_ 9
  simp only [rowT, List.getElem?_toArray, List.getElem?_cons_succ, List.getElem?_cons_zero] at t9
  rw [hfl] at t9
  have hlt := (Array.getElem?_eq_some_iff.1 h.row).1
  have k1 : decide (i < 1) = false := decide_eq_false (by omega)
  have k2 : decide (3 < i) = false := decide_eq_false (by omega)
  have k3 : decide ((fl_ : Int) < i) = false := decide_eq_false (by omega)
  have k4 : decide ((4 : Int) < (n : Int)) = true := decide_eq_true (by omega)
  have k5 : (4 : Int) < (n : Int) := by omega
  clear h
  go_enter Try.func25, Try.ntmps25
  go_wp2_with fail
  go_ret
  exact ⟨rfl, Below.refl _ _⟩
set_option maxHeartbeats 4000000 in
theorem dlearn_bad (i : Int) (w : World) (h : DbW w B b ao cap s p c F) (h1 : 1 ≤ i) (h4 : i < 4) (hi : i ≤ (F.length : Int)) (hr : PsRd w xo L) (hn : L.length = n) (hn4 : n ≤ 4) (hm : mayTell L = false) : Calls Try.prog 25 #[.pointer (some ⟨b, 0, none⟩), .int .i64 i, .slice xo n xc] w fun e w' => e = .returned (.int .i64 1) ∧ Below w.heap.size w w' := by
  obtain ⟨fl_, hfl⟩ : ∃ x, F.length = x := ⟨_, rfl⟩
  have t9 := h.row.at_ 9
  simp only [rowT, List.getElem?_toArray, List.getElem?_cons_succ, List.getElem?_cons_zero] at t9
  rw [hfl] at t9
  have hlt := (Array.getElem?_eq_some_iff.1 h.row).1
  have k1 : decide (i < 1) = false := decide_eq_false (by omega)
  have k2 : decide (3 < i) = false := decide_eq_false (by omega)
  have k3 : decide ((fl_ : Int) < i) = false := decide_eq_false (by omega)
  have k4 : decide ((4 : Int) < (n : Int)) = false := decide_eq_false (by omega)
  have k5 : ¬ (4 : Int) < (n : Int) := by omega
  have HR := Lib.hid hr; have HN := Lib.hid hn; have HM := Lib.hid hm
  have hnn : (n : Int) ≤ 4 := by omega
  clear h hr hn hm hfl
  go_enter Try.func25, Try.ntmps25
  go_wp2_with fail
  clear t9 hlt k1 k2 k3 k4 k5
  go_loopw [7] (fun v7 wr => ∃ j : Nat, v7 = .int .i64 (j : Int) ∧ j ≤ n ∧ Hid (∀ (q : Nat) (y : Pe), q < j → L[q]? = some y → isN y.n = true) ∧ wr = w) (fun v7 _ => n - (intOf v7).toNat)
  case atStart => exact ⟨0, rfl, Nat.zero_le _, Lib.hid (fun q y hq => by omega), rfl⟩
  case round =>
    obtain ⟨j, rfl, hj, HALL, rfl⟩ := hrel
    rename World => w
    have hj0 : (0 : Int) ≤ (j : Int) := by omega
    by_cases hjn : j < n
    · have hji : (j : Int) < (n : Int) := by omega
      obtain ⟨y, hy⟩ : ∃ y, L[j]? = some y := ⟨_, List.getElem?_eq_getElem (by rw [HN.out]; exact hjn)⟩
      obtain ⟨gx, ox, rfl, hgx, hc⟩ := HR.out j y hy
      have y0 := hc 0 (by omega)
      simp only [List.getElem?_cons_zero, Nat.add_zero] at y0
      have NA := rnode_any y.n
      obtain ⟨bv, hbv⟩ : ∃ q, isN y.n = q := ⟨_, rfl⟩
      rw [hbv] at NA
      have HBV := Lib.hid hbv; have HY := Lib.hid hy
      replace NA := Lib.hid NA
      clear hc hbv hy
      go_wp2_with fail
      refine (NA.out _).mono ?_; rintro e w2 ⟨rfl, rfl⟩
      clear y0
      cases bv
      · go_wp2_with fail
        go_ret
        exact ⟨rfl, Below.refl _ _⟩
      · go_wp2_with fail
        go_roundw
        case rel => exact ⟨j + 1, by go_num, by omega, Lib.hid (fun q z hq hz => by
          rcases Nat.lt_or_ge q j with e | e
          · exact HALL.out q z e hz
          · obtain rfl : q = j := by omega
            rw [HY.out] at hz; cases hz; exact HBV.out), by first | trivial | rfl⟩
        case measure => simp [intOf]; omega
    · have hji : ¬ (j : Int) < (n : Int) := by omega
      obtain rfl : n = j := by omega
      exfalso
      have h := HM.out
      unfold mayTell at h
      rw [decide_eq_true (show L.length ≤ 4 by rw [HN.out]; omega), Bool.true_and] at h
      have h2 : (L.all fun p => isN p.n) = true := List.all_eq_true.2 fun z hz => by
        obtain ⟨q, hq⟩ := List.getElem?_of_mem hz
        exact HALL.out q z (by rw [← HN.out]; exact (List.getElem?_eq_some_iff.1 hq).1) hq
      rw [h2] at h; cases h
set_option maxHeartbeats 16000000 in
theorem dlearn_yes (i : Nat) (w : World) (h : DbW w B b ao cap s p c F) (hi1 : 1 ≤ i) (hi4 : i < 4) (hiF : i ≤ F.length) (hF : F.length ≤ 1000) (hr : PsRd w xo L) (hn : L.length = n) (hn4 : n ≤ 4) (hm : mayTell L = true) :
    Calls Try.prog 25 #[.pointer (some ⟨b, 0, none⟩), .int .i64 (i : Int), .slice xo n xc] w fun e w' =>
      e = .returned (.int .i64 0) ∧ Learned w w' B b ao s p c (learnt s F i L) := by
  obtain ⟨i0, hi0, hz0, hz1, hz2⟩ := info_parts peer_info
  have HI0 := Lib.hid hi0; have HZ0 := Lib.hid hz0; have HZ1 := Lib.hid hz1; have HZ2 := Lib.hid hz2
  obtain ⟨g, hao, _, hcap, hgB, hgl⟩ := owns_none h.own (by omega)
  subst hao
  obtain ⟨fl_, hfl⟩ : ∃ x, F.length = x := ⟨_, rfl⟩
  have t9 := h.row.at_ 9
  simp only [rowT, List.getElem?_toArray, List.getElem?_cons_succ, List.getElem?_cons_zero] at t9
  rw [hfl] at t9
  have hlt := (Array.getElem?_eq_some_iff.1 h.row).1
  have H := Lib.hid h; have HR := Lib.hid hr; have HN := Lib.hid hn; have HM := Lib.hid hm; have HFL := Lib.hid hfl; have HCAP := Lib.hid hcap
  have HI := Lib.hid (show 1 ≤ i ∧ i < 4 ∧ i ≤ fl_ ∧ fl_ ≤ 1000 from ⟨hi1, hi4, by omega, by omega⟩)
  have k1 : decide ((i : Int) < 1) = false := decide_eq_false (by omega)
  have k2 : decide (3 < (i : Int)) = false := decide_eq_false (by omega)
  have k3 : decide ((fl_ : Int) < (i : Int)) = false := decide_eq_false (by omega)
  have k4 : decide ((4 : Int) < (n : Int)) = false := decide_eq_false (by omega)
  have k5 : ¬ (4 : Int) < (n : Int) := by omega
  have k5b : ¬ (4 < n) := by omega
  have k6 : ¬ (3 : Int) < (i : Int) := by omega
  have k7 : ¬ (fl_ : Int) < (i : Int) := by omega
  have hnn : (n : Int) ≤ 4 := by omega
  clear h hr hn hm hfl hi0 hz0 hz1 hz2 hcap hgB hgl hF hiF hi1 hi4 hn4
  go_enter Try.func25, Try.ntmps25
  go_wp2_with fail
  clear t9 hlt k1 k2 k3 k4 k5 k5b k6 k7
  go_loopw [7] (fun v7 wr => ∃ j : Nat, v7 = .int .i64 (j : Int) ∧ j ≤ n ∧ Hid (∀ (q : Nat) (y : Pe), q < j → L[q]? = some y → isN y.n = true) ∧ wr = w) (fun v7 _ => n - (intOf v7).toNat)
  case atStart => exact ⟨0, rfl, Nat.zero_le _, Lib.hid (fun q y hq => by omega), rfl⟩
  case round =>
    obtain ⟨j, rfl, hj, HALL, rfl⟩ := hrel
    rename World => w
    have hj0 : (0 : Int) ≤ (j : Int) := by omega
    by_cases hjn : j < n
    · have hji : (j : Int) < (n : Int) := by omega
      obtain ⟨y, hy⟩ : ∃ y, L[j]? = some y := ⟨_, List.getElem?_eq_getElem (by rw [HN.out]; exact hjn)⟩
      obtain ⟨gx, ox, rfl, hgx, hc⟩ := HR.out j y hy
      have y0 := hc 0 (by omega)
      simp only [List.getElem?_cons_zero, Nat.add_zero] at y0
      have NA := rnode_any y.n
      obtain ⟨bv, hbv⟩ : ∃ q, isN y.n = q := ⟨_, rfl⟩
      rw [hbv] at NA
      have HBV := Lib.hid hbv; have HY := Lib.hid hy
      replace NA := Lib.hid NA
      clear hc hbv hy
      go_wp2_with fail
      refine (NA.out _).mono ?_; rintro e w2 ⟨rfl, rfl⟩
      clear y0
      cases bv
      · exfalso
        have h := HM.out
        unfold mayTell at h
        rw [Bool.and_eq_true] at h
        have := List.all_eq_true.1 h.2 y (List.mem_of_getElem? HY.out)
        rw [HBV.out] at this; cases this
      · go_wp2_with fail
        go_roundw
        case rel => exact ⟨j + 1, by go_num, by omega, Lib.hid (fun q z hq hz => by
          rcases Nat.lt_or_ge q j with e | e
          · exact HALL.out q z e hz
          · obtain rfl : q = j := by omega
            rw [HY.out] at hz; cases hz; exact HBV.out), by first | trivial | rfl⟩
        case measure => simp [intOf]; omega
    · have hji : ¬ (j : Int) < (n : Int) := by omega
      obtain rfl : n = j := by omega
      have t9 := H.out.row.at_ 9
      simp only [rowT, List.getElem?_toArray, List.getElem?_cons_succ, List.getElem?_cons_zero] at t9
      rw [HFL.out] at t9
      have hlt := (Array.getElem?_eq_some_iff.1 H.out.row).1
      have hile : i ≤ F.length := by have := HI.out; have := HFL.out; omega
      have hlen : (F.take i).length = i := by rw [List.length_take]; omega
      have HLEN := Lib.hid hlen
      have HOW := Lib.hid (show w.ownsRow B 26 3 (.slice (some ⟨g, 0, none⟩) (F.take i).length cap) (F.take i).length (fl Pe.list (F.take i)) from by
        rw [hlen, ← fl_take pe_len F i]; exact owns_take H.out.own i hile)
      have HCUT := Lib.hid (run_cuth w g fl_ cap i (by have := HCAP.out; have := HFL.out; have := HI.out; omega))
      have NEWS := Lib.hid (show ∀ (j : Nat) (u : Value), (fl Pe.list (F.take i))[j]? = some u → w.cell? ((⟨g, 0, none⟩ : Addr).add j) = some u from fun j u hu => by
        have hj : j < (F.take i).length * 3 := by have := (List.getElem?_eq_some_iff.1 hu).1; rwa [fl_len pe_len] at this
        have hadd : (⟨g, 0, none⟩ : Addr).add j = ⟨g, j, none⟩ := by unfold Addr.add; split <;> simp_all
        rw [hadd]
        obtain ⟨x, hx⟩ : ∃ x, (F.take i)[j / 3]? = some x := ⟨_, List.getElem?_eq_getElem (by omega)⟩
        have h2 := owns_px HOW.out hx (q := j % 3) (by omega)
        rw [show j / 3 * 3 + j % 3 = j by omega] at h2
        rw [h2, ← hu]
        have h3 := fl_at pe_len (F.take i) (j / 3) (j % 3) (by omega)
        rw [show j / 3 * 3 + j % 3 = j by omega, hx] at h3
        exact h3.symm)
      have ONE := Lib.hid (show ∀ u ∈ fl Pe.list (F.take i), u.oneCell' = true from fun u hu => by
        obtain ⟨x, _, hx⟩ := List.mem_flatMap.1 hu
        exact pe_one x u hx)
      have HXL := Lib.hid (show (fl Pe.list (F.take i)).length = i * 3 from by rw [fl_len pe_len, hlen])
      have k6 : (0 : Int) ≤ (i : Int) := by omega
      have k7 : (i : Int) ≤ (fl_ : Int) := by have := HI.out; omega
      have k8 : (fl_ : Int) ≤ 1000 := by have := HI.out; omega
      go_upto_region 11 with (first
        | (refine wpList_value rfl _ (exec_slice (w := w) (vx := .slice (some ⟨g, 0, none⟩) fl_ cap) (lv := none) (hv := some (.int .i64 (i : Int))) 39 (.tmp 48) none (some (.tmp 49)) rfl rfl rfl rfl HCUT.out) ?_)
        | (at_builtin; refine wpList_append_lies _ rfl (.tmp 44) (.tmp 50) 39 rfl w.heap.size 26 i0 _ 3 24 Try.underlying39 HI0.out HZ0.out HZ1.out HZ2.out rfl (by decide) (.slice none 0 0) 0 [] rfl (World.ownsRow_nil _ _ _ _) ⟨g, 0, none⟩ i cap (fl Pe.list (F.take i)) rfl HXL.out NEWS.out ONE.out (by have := HI.out; omega) (by have := HI.out; unfold maxLen; omega) (by have := HI.out; omega) (by simp) _ rfl ?_; intro ga ca w2 own2 gr2 at2 lt2))
      have k2 : Keep [] w w2 := by have := keep_grown (ao := none) (n := 0) (cap := 0) gr2; exact this
      have b2 := k2.below (Nat.le_refl _) (fun q hq => by cases hq)
      rw [Nat.zero_add, List.nil_append] at own2
      have hga : w.heap.size ≤ ga := (owns_blk own2 ga (by simp [blk])).1
      have HGA := Lib.hid hga
      have HO2 := Lib.hid (show w2.ownsRow w.heap.size 26 3 (.slice (some ⟨ga, 0, none⟩) (F.take i).length ca) (F.take i).length (fl Pe.list (F.take i)) from by rw [hlen]; exact own2)
      have H2 := Lib.hid (H.out.below b2); have HR2 := Lib.hid (HR.out.below b2); have HB2 := Lib.hid b2
      clear own2 gr2 at2 lt2 k2 b2 hga t9 hlt HCUT NEWS ONE HXL k7 k8
      obtain ⟨k, hk⟩ : ∃ k : Nat, i = k + 1 := ⟨i - 1, by have := HI.out; omega⟩
      have hik : (i : Int) - 1 = (k : Int) := by omega
      have HK := Lib.hid hk
      obtain ⟨f, hf⟩ : ∃ f, F[k]? = some f := ⟨_, List.getElem?_eq_getElem (by have := HI.out; have := HFL.out; omega)⟩
      have HF := Lib.hid hf
      have hft : (F.take i)[k]? = some f := by rw [List.getElem?_take, if_pos (by omega)]; exact hf
      have a1 := cell_regrown (owns_px HO2.out hft (q := 1) (by omega)); have a2 := cell_regrown (owns_px HO2.out hft (q := 2) (by omega))
      have t1 := H2.out.row.at_ 1; have t2 := H2.out.row.at_ 2
      simp only [rowT, List.getElem?_toArray, List.getElem?_cons_succ, List.getElem?_cons_zero] at t1 t2
      replace t1 := cell_regrown t1; replace t2 := cell_regrown t2
      have k0 : (0 : Int) ≤ (k : Int) := by omega
      have k7 : (k : Int) < (i : Int) := by omega
      have hi4 : (i : Int) < 4 := by have := HI.out; omega
      clear hk hf hft hile
      by_cases hin : i ≤ n
      · obtain ⟨x, hx⟩ : ∃ x, L[k]? = some x := ⟨_, List.getElem?_eq_getElem (by have := HN.out; have := HK.out; omega)⟩
        obtain ⟨gx, ox, rfl, hgx, hc⟩ := HR2.out k x hx
        have y1 := cell_regrown (hc 1 (by omega)); have y2 := cell_regrown (hc 2 (by omega))
        have HXX := Lib.hid hx
        have i1 : decide ((i : Int) ≤ (n : Int)) = true := decide_eq_true (by omega)
        have i3 : decide (i ≤ n) = true := decide_eq_true hin
        have i4 : (i : Int) ≤ (n : Int) := by omega
        have i2 : (k : Int) < (n : Int) := by omega
        have CB := Lib.hid (fun d os => Calls.regrown_of (rbetween_any f.h f.l x.h x.l s.h s.l (grow (redrawn w2 d) os)))
        obtain ⟨bt, hbt⟩ : ∃ y, btw f.h f.l x.h x.l s.h s.l = y := ⟨_, rfl⟩
        rw [hbt] at CB
        have HBT := Lib.hid hbt
        clear hx hc hbt hgx
        refine wp_region_quiet_below (by kernel_rfl) (by kernel_rfl) ?_
        repeat (go_big_quiet_step (exact CB.out _ _))
        refine wpQuiet_nil ?_
        intro _ hw'
        obtain ⟨⟨dq, osq⟩, hw''⟩ := hw'
        subst hw''
        have lk := below_regrown w2 dq osq
        have H3 := Lib.hid (H2.out.below lk); have HR3 := Lib.hid (HR2.out.below lk)
        have HO3 := Lib.hid (owns_keep HO2.out (Keep.of_below lk []) (by simp))
        have HB3 := Lib.hid (HB2.out.trans (lk.mono HB2.out.size))
        clear lk a1 a2 t1 t2 y1 y2 CB i1 i3
        generalize grow (redrawn w2 dq) osq = w3 at *
        cases bt with
        | false =>
          have e : learnt s F i L = F.take i := by
            unfold learnt
            rw [show i - 1 = k by have := HK.out; omega, HF.out, HXX.out]
            simp only [HBT.out, Bool.false_eq_true, if_false, List.append_nil]
          have HE := Lib.hid e
          clear e
          have t9 := (DbR.below (w := w3) (w' := w3) (H3.out.row) (by first | exact Below.refl _ _ | exact HB34.out)).at_ 9
          simp only [rowT, List.getElem?_toArray, List.getElem?_cons_succ, List.getElem?_cons_zero] at t9
          have hrow := DbR.below (w := w3) (w' := w3) (H3.out.row) (by first | exact Below.refl _ _ | exact HB34.out)
          have f9 := frozen_of_row w3 b 9 _ _ hrow
          have hlt := (Array.getElem?_eq_some_iff.1 hrow).1
          have HROW := Lib.hid hrow
          clear hrow
          go_wp2_with fail
          go_ret
          rw [HE.out]
          have kc := Keep.setCell w3 ⟨b, 9, none⟩ (.slice (some ⟨ga, 0, none⟩) i ca)
          refine ⟨rfl, _, _, ⟨?_, H.out.base, owns_base (owns_keep (show w3.ownsRow w.heap.size 26 3 (.slice (some ⟨ga, 0, none⟩) (F.take i).length ca) (F.take i).length (fl Pe.list (F.take i)) from HO3.out) kc (blk_own _ _ _ fun q hq hm => by simp only [List.mem_singleton] at hm; have := (owns_blk (show w3.ownsRow w.heap.size 26 3 (.slice (some ⟨ga, 0, none⟩) (F.take i).length ca) (F.take i).length (fl Pe.list (F.take i)) from HO3.out) q hq).1; have := (Array.getElem?_eq_some_iff.1 H.out.row).1; omega)) (Nat.le_of_lt (Nat.lt_of_le_of_lt H.out.base (Array.getElem?_eq_some_iff.1 H.out.row).1)), fun hm => by have := (owns_blk (show w3.ownsRow w.heap.size 26 3 (.slice (some ⟨ga, 0, none⟩) (F.take i).length ca) (F.take i).length (fl Pe.list (F.take i)) from HO3.out) b hm).1; have := (Array.getElem?_eq_some_iff.1 H.out.row).1; omega⟩, ((Keep.of_below HB3.out _).trans (kc.mono (fun q hq => .inl (by simp only [List.mem_singleton] at hq; rw [hq]; exact List.mem_cons_self ..)))), fun q hq => ?_⟩
          · exact (by rw [HLEN.out]; exact heap_setCell_same w3 b 9 _ _ _ HROW.out)
          · rcases List.mem_cons.1 hq with rfl | hq
            · exact .inl (List.mem_cons_self ..)
            · exact .inr (owns_blk (show w3.ownsRow w.heap.size 26 3 (.slice (some ⟨ga, 0, none⟩) (F.take i).length ca) (F.take i).length (fl Pe.list (F.take i)) from HO3.out) q hq).1
        | true =>
          have e : learnt s F i L = F.take i ++ [x] := by
            unfold learnt
            rw [show i - 1 = k by have := HK.out; omega, HF.out, HXX.out]
            simp only [HBT.out, if_true]
          have HE := Lib.hid e
          clear e
          obtain ⟨gx2, ox2, e2, hgx, hc⟩ := HR3.out k x HXX.out
          cases e2
          have y0 := hc 0 (by omega); have y1 := hc 1 (by omega); have y2 := hc 2 (by omega)
          simp only [List.getElem?_cons_succ, List.getElem?_cons_zero, Nat.add_zero] at y0 y1 y2
          have HO3b := Lib.hid (show (w3.alloc (.cells #[.int .i64 x.n, .int .u64 x.h, .int .u64 x.l] 26)).ownsRow w.heap.size 26 3 (.slice (some ⟨ga, 0, none⟩) i ca) i (fl Pe.list (F.take i)) from by have q := HO3.out.alloc (.cells #[.int .i64 x.n, .int .u64 x.h, .int .u64 x.l] 26); rw [HLEN.out] at q; exact q)
          have hwB := HB3.out.size
          clear hgx hc
          go_upto_region 13 with (at_builtin; refine wpList_append_lies _ rfl (.tmp 76) (.tmp 82) 39 rfl w.heap.size 26 i0 _ 3 24 Try.underlying39 HI0.out HZ0.out HZ1.out HZ2.out rfl (by decide) (.slice (some ⟨ga, 0, none⟩) i ca) i (fl Pe.list (F.take i)) rfl HO3b.out ⟨w3.heap.size, 0, none⟩ 1 1 x.list rfl rfl (World.news_of_block (cs := #[.int .i64 x.n, .int .u64 x.h, .int .u64 x.l]) (t := 26) (fr := (0, 0)) (heap_alloc_new w3 _)) (fun u hu => pe_one x u hu) (by decide) (by have := HI.out; unfold maxLen; omega) (by have := HI.out; omega) (by simp; omega) _ rfl ?_; intro gb cb w4 own4 gr4 at4 lt4)
          have ba := below_alloc (Below.refl w3.heap.size w3) (.cells #[.int .i64 x.n, .int .u64 x.h, .int .u64 x.l] 26)
          have kg : Keep (blk (some (⟨ga, 0, none⟩ : Addr))) (w3.alloc (.cells #[.int .i64 x.n, .int .u64 x.h, .int .u64 x.l] 26)) w4 := keep_grown gr4
          have HB4 := Lib.hid ((HB3.out.trans (ba.mono hwB)).trans (kg.below (by simp; omega) (fun q hq => by simp only [blk, List.mem_singleton] at hq; have := HGA.out; omega)))
          have hx9 : (F.take i ++ [x]).length = i + 1 := by rw [List.length_append, HLEN.out]; rfl
          have HX9 := Lib.hid hx9
          have HO4 := Lib.hid (show w4.ownsRow w.heap.size 26 3 (.slice (some ⟨gb, 0, none⟩) (F.take i ++ [x]).length cb) (F.take i ++ [x]).length (fl Pe.list (F.take i ++ [x])) from by
            rw [hx9, show fl Pe.list (F.take i ++ [x]) = fl Pe.list (F.take i) ++ x.list by simp [fl]]; exact own4)
          have HROWK := Lib.hid (show DbR w4 b s p c (.slice (some ⟨g, 0, none⟩) F.length cap) from row_keep (row_keep H3.out.row (Keep.of_below ba []) (by simp)) kg (by simp only [blk, List.mem_singleton]; have := HGA.out; have := (Array.getElem?_eq_some_iff.1 H.out.row).1; omega))
          clear own4 gr4 at4 lt4 ba kg y0 y1 y2 hx9
          have t9 := HROWK.out.at_ 9
          simp only [rowT, List.getElem?_toArray, List.getElem?_cons_succ, List.getElem?_cons_zero] at t9
          have f9 := frozen_of_row w4 b 9 _ _ HROWK.out
          have hlt := (Array.getElem?_eq_some_iff.1 HROWK.out).1
          go_wp2_with fail
          go_ret
          rw [HE.out]
          have kc := Keep.setCell w4 ⟨b, 9, none⟩ (.slice (some ⟨gb, 0, none⟩) (i + 1) cb)
          refine ⟨rfl, _, _, ⟨?_, H.out.base, owns_base (owns_keep HO4.out kc (blk_own _ _ _ fun q hq hm => by simp only [List.mem_singleton] at hm; have := (owns_blk HO4.out q hq).1; have := (Array.getElem?_eq_some_iff.1 H.out.row).1; omega)) (Nat.le_of_lt (Nat.lt_of_le_of_lt H.out.base (Array.getElem?_eq_some_iff.1 H.out.row).1)), fun hm => by have := (owns_blk HO4.out b hm).1; have := (Array.getElem?_eq_some_iff.1 H.out.row).1; omega⟩, ((Keep.of_below HB4.out _).trans (kc.mono (fun q hq => .inl (by simp only [List.mem_singleton] at hq; rw [hq]; exact List.mem_cons_self ..)))), fun q hq => ?_⟩
          · exact (by rw [HX9.out]; exact heap_setCell_same w4 b 9 _ _ _ HROWK.out)
          · rcases List.mem_cons.1 hq with rfl | hq
            · exact .inl (List.mem_cons_self ..)
            · exact .inr (owns_blk HO4.out q hq).1
      · have i1 : decide ((i : Int) ≤ (n : Int)) = false := decide_eq_false (by omega)
        have i3 : decide (i ≤ n) = false := decide_eq_false hin
        refine wp_region_quiet_below (by kernel_rfl) (by kernel_rfl) ?_
        repeat (go_big_quiet_step (fail))
        refine wpQuiet_nil ?_
        intro _ hw'
        obtain ⟨⟨dq, osq⟩, hw''⟩ := hw'
        subst hw''
        have lk := below_regrown w2 dq osq
        have H3 := Lib.hid (H2.out.below lk); have HR3 := Lib.hid (HR2.out.below lk)
        have HO3 := Lib.hid (owns_keep HO2.out (Keep.of_below lk []) (by simp))
        have HB3 := Lib.hid (HB2.out.trans (lk.mono HB2.out.size))
        clear lk a1 a2 t1 t2 i1 i3
        generalize grow (redrawn w2 dq) osq = w3 at *
        have e : learnt s F i L = F.take i := by
          unfold learnt
          rw [show i - 1 = k by have := HK.out; omega, HF.out, List.getElem?_eq_none (by have := HN.out; have := HK.out; omega)]
          simp
        have HE := Lib.hid e
        clear e
        have t9 := (DbR.below (w := w3) (w' := w3) (H3.out.row) (by first | exact Below.refl _ _ | exact HB34.out)).at_ 9
        simp only [rowT, List.getElem?_toArray, List.getElem?_cons_succ, List.getElem?_cons_zero] at t9
        have hrow := DbR.below (w := w3) (w' := w3) (H3.out.row) (by first | exact Below.refl _ _ | exact HB34.out)
        have f9 := frozen_of_row w3 b 9 _ _ hrow
        have hlt := (Array.getElem?_eq_some_iff.1 hrow).1
        have HROW := Lib.hid hrow
        clear hrow
        go_wp2_with fail
        go_ret
        rw [HE.out]
        have kc := Keep.setCell w3 ⟨b, 9, none⟩ (.slice (some ⟨ga, 0, none⟩) i ca)
        refine ⟨rfl, _, _, ⟨?_, H.out.base, owns_base (owns_keep (show w3.ownsRow w.heap.size 26 3 (.slice (some ⟨ga, 0, none⟩) (F.take i).length ca) (F.take i).length (fl Pe.list (F.take i)) from HO3.out) kc (blk_own _ _ _ fun q hq hm => by simp only [List.mem_singleton] at hm; have := (owns_blk (show w3.ownsRow w.heap.size 26 3 (.slice (some ⟨ga, 0, none⟩) (F.take i).length ca) (F.take i).length (fl Pe.list (F.take i)) from HO3.out) q hq).1; have := (Array.getElem?_eq_some_iff.1 H.out.row).1; omega)) (Nat.le_of_lt (Nat.lt_of_le_of_lt H.out.base (Array.getElem?_eq_some_iff.1 H.out.row).1)), fun hm => by have := (owns_blk (show w3.ownsRow w.heap.size 26 3 (.slice (some ⟨ga, 0, none⟩) (F.take i).length ca) (F.take i).length (fl Pe.list (F.take i)) from HO3.out) b hm).1; have := (Array.getElem?_eq_some_iff.1 H.out.row).1; omega⟩, ((Keep.of_below HB3.out _).trans (kc.mono (fun q hq => .inl (by simp only [List.mem_singleton] at hq; rw [hq]; exact List.mem_cons_self ..)))), fun q hq => ?_⟩
        · exact (by rw [HLEN.out]; exact heap_setCell_same w3 b 9 _ _ _ HROW.out)
        · rcases List.mem_cons.1 hq with rfl | hq
          · exact .inl (List.mem_cons_self ..)
          · exact .inr (owns_blk (show w3.ownsRow w.heap.size 26 3 (.slice (some ⟨ga, 0, none⟩) (F.take i).length ca) (F.take i).length (fl Pe.list (F.take i)) from HO3.out) q hq).1
end
end Go.Proofs.Ytokmchkoojeadaa
