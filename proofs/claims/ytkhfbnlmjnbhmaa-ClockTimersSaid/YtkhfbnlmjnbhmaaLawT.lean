/- ClockTimers: the walk. -/
import Derived.Test.YtkhfbnlmjnbhmaaTimers
import Derived.Deep.Cut
import Derived.Deep.CutRange
namespace Go.Proofs.Ytkhfbnlmjnbhmaa
open Go.RowKit Go.Sort
set_option linter.unusedVariables false

set_option maxRecDepth 10000 in
set_option maxHeartbeats 8000000 in
theorem clockTimers_law (ao1 : Option Addr) (m1 cap1 : Nat) (l1 : List Int) (hl1 : l1.length = m1) (hc1 : m1 ≤ cap1) (hm1 : cap1 ≤ maxLen) (hz1 : m1 ≤ 17592186043904)
    (ao2 : Option Addr) (m2 cap2 : Nat) (l2 : List Int) (hl2 : l2.length = m2) (hc2 : m2 ≤ cap2) (hm2 : cap2 ≤ maxLen) (hz2 : m2 ≤ 17592186043904) (W : World) (hr1 : Rd W ao1 l1) (hr2 : Rd W ao2 l2) :
    Calls Try.prog 5 #[.slice ao1 m1 cap1, .slice ao2 m2 cap2] W (LawOk W) := by
  have HR1 := Lib.hid hr1; have HR2 := Lib.hid hr2; have HL1 := Lib.hid hl1; have HL2 := Lib.hid hl2
  obtain ⟨n, hn⟩ : ∃ n, n = min m1 256 := ⟨_, rfl⟩
  have hn1 : n ≤ m1 := by omega
  have hn2 : n ≤ 256 := by omega
  have hmin : (if (256 : Int) < (m1 : Int) then (256 : Int) else (m1 : Int)) = (n : Int) := by split <;> omega
  obtain ⟨dl, hdl⟩ : ∃ dl : Nat → Nat, dl = fun j => pk (bt l1 j) 300 := ⟨_, rfl⟩
  have HDL : Hid (∀ j, dl j < 300) := Lib.hid (fun j => by rw [hdl]; exact pk_lt _ (by omega))
  have HPK : Hid (∀ j w, Calls Try.prog 16 #[.int .i64 (bt l1 j), .int .i64 ((300 : Nat) : Int)] w fun e w' => e = .returned (.int .i64 (dl j : Int)) ∧ w = w') := Lib.hid (fun j w => by rw [hdl]; exact pick_any _ 300 (hr1.byte j) (by omega) (by omega) w)
  have HMIN := Lib.hid hmin
  clear hdl hr1 hr2 hl1 hl2 hn hmin hc1 hc2 hm1 hm2
  go_enter Try.func5, Try.ntmps5
  go_wp2_with fail
  refine (awake_any W).mono ?_; rintro e w1 ⟨rfl, b1⟩
  have B1 := Lib.hid b1; clear b1
  go_wp2_with fail
  refine (new_yes 1000 0 (by omega) (by omega) (by omega) w1).mono ?_; rintro e w2 ⟨hc, Bc0, rfl, h2, b2⟩
  have B2 := Lib.hid (below_next B1.out b2)
  have HC2 := Lib.hid (h2.base B1.out.size)
  clear h2 b2
  simp only [Nat.zero_mul] at HC2
  have hmin := HMIN.out
  go_wp2_with fail
  clear hmin
  go_loopw [9, 10] (fun s i wr => ∃ k Bc ao cap, k ≤ n ∧ i = .int .i64 ((k : Nat) : Int) ∧ s = .slice ao k cap ∧ Own wr W.heap.size ao k cap (dlist dl k) ∧ Clk wr W.heap.size hc Bc 1000 0 k (mkS dl k) ∧ (∀ q ∈ Bc, q ∉ blk ao) ∧ Below W.heap.size W wr) (fun _ i _ => n - (intOf i).toNat)
  case atStart => exact ⟨0, Bc0, none, 0, by omega, rfl, rfl, Own.nil _ _, HC2.out, by simp [blk], B2.out⟩
  case round =>
    clear HC2 B1 B2
    obtain ⟨k, Bc, aod, capd, hk, rfl, rfl, hoo, hcc, hap, hb⟩ := hrel
    have HO := Lib.hid hoo; have HC := Lib.hid hcc; have HAO := Lib.hid hap; have HB := Lib.hid hb
    clear hoo hcc hap hb
    by_cases hlt : k < n
    · obtain ⟨g, o, rfl, hg, hcell⟩ := (HR1.out.below (HB.out.mono (Nat.le_refl _))).at_ k (by rw [HL1.out]; omega)
      have hdk := HDL.out k
      obtain ⟨dk, hdke⟩ : ∃ dk, dl k = dk := ⟨_, rfl⟩
      have PK := Lib.hid (HPK.out k)
      have HDK := Lib.hid hdke
      rw [hdke] at PK hdk
      clear hdke
      go_wp2_with fail
      refine (PK.out _).mono ?_; rintro e w3 ⟨rfl, rfl⟩
      clear hcell
      go_wp2_with (at_builtin; refine wpList_app rfl (.tmp 43) (.tmp 49) rfl rfl (HO.out.below (below_alloc (Below.refl _ _) _)) rfl (Own.one wr 0 (dk : Int) (by unfold okI; omega) (by omega)).rd rfl (by have := HB.out.size; simp; omega) (by omega) ?_; intro ao4 cap4 w4 own4 kp4 nb4; have k4 := (Keep.of_below (below_alloc (Below.refl _ wr) _) (blk aod)).trans kp4; obtain ⟨g4, o4, hao4, hg4, hgs4, c4, _⟩ := own4.at_ k (by omega); subst hao4; rw [bt_append_right (by rw [dlist_len]; exact Nat.le_refl _), dlist_len, Nat.sub_self] at c4; change w4.cell? _ = some (u8v (dk : Int)) at c4)
      have hc4 := HC.out.keep k4 (fun q hq hm => HAO.out q hq hm)
      have hnb : ∀ q ∈ blk (some ⟨g4, o4, none⟩), q ∉ Bc := fun q hq hm => by
        rcases nb4 q hq with h | h
        · exact HAO.out q hm h
        · have e1 := (HC.out.blocks q hm).2; simp at h; omega
      have own4' : Own w4 W.heap.size (some ⟨g4, o4, none⟩) (k + 1) cap4 (dlist dl (k + 1)) := by rw [dlist_succ, HDK.out]; exact own4
      have B4 := Lib.hid (HB.out.trans (k4.below HB.out.size (fun q hq => (HO.out.lt_size q hq).1)))
      have HO4 := Lib.hid own4'; have HC4 := Lib.hid hc4; have HNB := Lib.hid hnb
      clear own4 own4' hc4 hnb kp4 nb4 k4 c4
      refine (set_yes w4 k dk (by omega) (by omega) (by omega) HC4.out (.inr (by rw [mk_len]; omega))).mono ?_; rintro e w5 ⟨rfl, Bc', h5, t5⟩
      have h5' : Clk w5 W.heap.size hc Bc' 1000 0 (k + 1) (mkS dl (k + 1)) := by
        rw [mk_wo] at h5
        rw [mk_succ, HDK.out]; exact h5
      have HC5 := Lib.hid h5'; have HO5 := Lib.hid (HO4.out.keep t5.keep (fun q hq => HNB.out q hq))
      have HA5 := Lib.hid (t5.apart (Cs := blk (some ⟨g4, o4, none⟩)) (fun q hq hm => HNB.out q hm hq) (fun q hq => (HO4.out.lt_size q hq).2))
      have B5 := Lib.hid (B4.out.trans (t5.keep.below B4.out.size (fun q hq => (HC4.out.blocks q hq).1)))
      clear h5 h5' t5 HC4 HO4 B4
      go_wp2_with fail
      go_roundw
      case rel => exact ⟨k + 1, Bc', some ⟨g4, o4, none⟩, cap4, by omega, by go_num, rfl, HO5.out, HC5.out, HA5.out, B5.out⟩
      case measure => simp [intOf]; omega
    · obtain rfl : k = n := by omega
      obtain ⟨i0, hi0, hz0, hzz1, hzz2⟩ := info_parts bool_info
      have HZ2 := Lib.hid hzz2
      clear hzz2 HPK
      have hgtx : wr.heap.size ∉ Bc := fun hm => by have := (HC.out.blocks _ hm).2; omega
      have hgty : wr.heap.size ∉ blk aod := fun hm => by have := (HO.out.lt_size _ hm).2; omega
      have hwsz := HB.out.size
      obtain ⟨n, hnk⟩ : ∃ n, n = k := ⟨k, rfl⟩
      subst hnk
      go_wp2_with (at_make; refine wpList_make_full _ rfl _ _ 48 rfl W.heap.size 4 i0 (.bool false) 1 Try.underlying48 hi0 hz0 hzz1 .i64 .i64 _ _ n rfl rfl rfl rfl (by rw [HZ2.out]; omega) (by unfold maxLen; omega) hwsz ?_; intro w6 hown6 hgrow6)
      have b6 : Below wr.heap.size wr w6 := (Below.refl wr.heap.size wr).grown hgrow6 (Nat.le_refl _) (by intro k hk; cases hk)
      have hl6 : wr.heap.size < w6.heap.size := (owns_blk hown6 wr.heap.size (by simp [blk])).2
      have e9 : (madeCells (Value.bool false).cells (n * 1)).toList = bl (fun _ => false) n := bl_made
      rw [e9] at hown6
      clear e9
      have HC6 := Lib.hid (HC.out.below b6); have HO6 := Lib.hid (HO.out.below b6); have HB6 := Lib.hid (HB.out.trans (b6.mono hwsz)); have HT6 := Lib.hid hown6
      have HAT : Hid (∀ q ∈ Bc, q ∉ blk (some ⟨wr.heap.size, 0, none⟩)) := Lib.hid (fun q hq hm => by simp [blk] at hm; subst hm; exact hgtx hq)
      have HAOT := Lib.hid hgty
      have hgtB0 := hwsz
      clear hgrow6 hown6 b6 hgtx hgty hwsz HC HO HB hi0 hz0 hzz1
      generalize wr.heap.size = gt at *
      go_loopw [12, 13] (fun c i wr => ∃ k M milli S tf, k ≤ m2 + 1 ∧ k ≤ 600 ∧ i = .int .i64 ((k : Nat) : Int) ∧ c = .int .i64 ((M : Nat) : Int) ∧ milli ≤ k * 400000 ∧ Clk wr W.heap.size hc Bc 1000 milli n S ∧ Own wr W.heap.size aod n capd (dlist dl n) ∧ wr.ownsRow W.heap.size 4 1 (.slice (some ⟨gt, 0, none⟩) n n) n (bl tf n) ∧ Left dl n S tf M ∧ (k = m2 + 1 → S = []) ∧ Below W.heap.size W wr) (fun _ i _ => 600 - (intOf i).toNat)
      case atStart => exact ⟨0, 0, 0, mkS dl n, fun _ => false, by omega, by omega, rfl, rfl, by omega, HC6.out, HO6.out, HT6.out, Left.start dl n, by omega, HB6.out⟩
      case round =>
        clear HC6 HO6 HT6 HB6
        obtain ⟨k, M, milli, S, tf, hkm, hk6, rfl, rfl, hmk, hcc, hoo, htt, hlf, hem, hbb⟩ := hrel
        have HC := Lib.hid hcc; have HO := Lib.hid hoo; have HT := Lib.hid htt; have HLF := Lib.hid hlf; have HEM0 := Lib.hid hem; have HB := Lib.hid hbb
        have hMn : M ≤ 256 := by have := hlf.sum; omega
        clear hcc hoo htt hlf hem hbb
        by_cases h600 : k < 600
        · by_cases hkle : k ≤ m2
          · go_upto_if 75 with (fail)
            go_cut [14] from 68 to 80 (fun s wx => ∃ p : Nat, s = .int .i64 (p : Int) ∧ p ≤ 400 ∧ (k = m2 → p = 400) ∧ wx = wr)
            case first =>
              by_cases hlt1 : k < m2
              · have hr := HR2.out.below (HB.out.mono (Nat.le_refl _))
                obtain ⟨g2, o2, rfl, hg2, hcell2⟩ := hr.at_ k (by rw [HL2.out]; exact hlt1)
                have PK := Lib.hid (pick_any (bt l2 k) 60 (hr.byte k) (by omega) (by omega))
                have hp1' := pk_lt (bt l2 k) (n := 60) (by omega)
                clear hr
                generalize pk (bt l2 k) 60 = p at *
                generalize bt l2 k = cc at *
                go_wp2_with fail
                refine (PK.out _).mono ?_; rintro e w3 ⟨rfl, rfl⟩
                go_wp2_with fail
                go_meet
                case rel => exact ⟨p, rfl, by omega, fun h => by omega, rfl⟩
              · go_wp2_with fail
                go_meet
                case rel => exact ⟨400, rfl, by omega, fun h => rfl, rfl⟩
            case rest =>
              obtain ⟨p, rfl, hp1, hp2, rfl⟩ := hcut
              go_wp2_with fail
              refine (pass_any _ (p : Int) (by unfold okI; omega) HC.out).mono ?_; rintro e w4 ⟨he, hc4, t4⟩
              obtain ⟨y1, y2⟩ := pass_yes (rate := 1000) (milli := milli) (k := p) (by omega) (by omega)
              rw [y1] at he
              rw [y2] at hc4
              subst he
              have HC4 := Lib.hid hc4; have HO4 := Lib.hid (HO.out.keep t4.keep (fun q hq hm => HAO.out q hm hq)); have HT4 := Lib.hid (owns_keep HT.out t4.keep (blk_own _ _ _ (fun q hq hm => HAT.out q hm hq))); have B4 := Lib.hid (HB.out.trans (t4.keep.below HB.out.size (fun q hq => (HC.out.blocks q hq).1)))
              clear hc4 t4 y1 y2 HC HO HT HB
              obtain ⟨mi, hmi⟩ : ∃ mi, milli + p * 1000 = mi := ⟨_, rfl⟩
              rw [hmi] at HC4
              have hml : mi ≤ (k + 1) * 400000 := by omega
              have hlast : k = m2 → 400000 ≤ mi := fun h => by have := hp2 h; omega
              clear hmi hp1 hp2
              obtain ⟨now, hnow⟩ : ∃ now, mi / 1000 = now := ⟨_, rfl⟩
              have hnow2 : now ≤ 1000000000 := by omega
              have hlast2 : k = m2 → 400 ≤ now := fun h => by have := hlast h; omega
              have NW := Lib.hid (now_any w4 HC4.out)
              have DU := Lib.hid (due_any w4 HC4.out)
              rw [hnow] at NW DU
              have HDF : Hid (DF now S (dues now S.length S)) := Lib.hid (by obtain ⟨gm, ao, cap, l, f, _, h1⟩ := HC4.out; exact dues_df _ _ _ (Nat.le_refl _) h1.hs.dist)
              have hfew : S.length ≤ 256 := by obtain ⟨gm, ao, cap, l, f, _, h1⟩ := HC4.out; have := h1.hp.few; have := h1.hs.len; omega
              clear hnow hlast
              obtain ⟨D, hD⟩ : ∃ D, dues now S.length S = D := ⟨_, rfl⟩
              rw [hD] at DU HDF
              clear hD
              obtain ⟨A, hA⟩ : ∃ A, D.1.length = A := ⟨_, rfl⟩
              have HA := Lib.hid hA
              rw [hA] at DU
              have hA256 : A ≤ 256 := by have := HDF.out.len; omega
              clear hA
              go_wp2_with fail
              refine NW.out.mono ?_; rintro e w5 ⟨rfl, rfl⟩
              go_wp2_with fail
              refine DU.out.mono ?_; rintro e w5 ⟨v5, rfl, own5, hc5, hk5⟩
              obtain ⟨aol, capl, rfl, hlel, hmxl⟩ := owns_shape own5
              have HC5 := Lib.hid hc5; have HO5 := Lib.hid (HO4.out.keep hk5 (fun q hq hm => HAO.out q hm hq)); have HT5 := Lib.hid (owns_keep HT4.out hk5 (blk_own _ _ _ (fun q hq hm => HAT.out q hm hq))); have B5 := Lib.hid (B4.out.trans (hk5.below B4.out.size (fun q hq => (HC4.out.blocks q hq).1)))
              have HL5 := Lib.hid own5
              have HAL : Hid (gt ∉ blk aol) := Lib.hid (fun hm => by have e1 := (owns_blk own5 gt hm).1; have e2 := (owns_blk HT4.out gt (by simp [blk])).2; omega)
              clear own5 hc5 hk5 NW DU HC4 HO4 HT4 B4
              go_wp2_with fail
              go_loopw [12, 17] (fun c i wr => ∃ j tf', j ≤ A ∧ i = .int .i64 ((j : Nat) : Int) ∧ c = .int .i64 ((M + j : Nat) : Int) ∧ wr.ownsRow W.heap.size 4 1 (.slice (some ⟨gt, 0, none⟩) n n) n (bl tf' n) ∧ (∀ q, q < n → tf' q = (tf q || inS (D.1.take j) q)) ∧ Own wr W.heap.size aod n capd (dlist dl n) ∧ wr.ownsRow w4.heap.size 32 1 (.slice aol A capl) A (idc D.1) ∧ Clk wr W.heap.size hc Bc 1000 mi n D.2 ∧ Below W.heap.size W wr) (fun _ i _ => A - (intOf i).toNat)
              case atStart => exact ⟨0, tf, by omega, rfl, rfl, HT5.out, fun q hq => by simp [inS], HO5.out, HL5.out, HC5.out, B5.out⟩
              case round =>
                clear HC5 HO5 HT5 B5 HL5
                obtain ⟨j, tf', hj, rfl, rfl, ht, htf, hoo, hll, hcc, hbb⟩ := hrel
                have HT := Lib.hid ht; have HTF := Lib.hid htf; have HO := Lib.hid hoo; have HL := Lib.hid hll; have HC := Lib.hid hcc; have HB := Lib.hid hbb
                clear ht htf hoo hll hcc hbb
                by_cases hjA : j < A
                · have hjl : j < D.1.length := by rw [HA.out]; exact hjA
                  obtain ⟨f1, f2, f3, f4, f5⟩ := HLF.out.at_ HDF.out hjl
                  obtain ⟨gl, rfl, hgl, _, z0⟩ := owns_at1 HL.out HA.out j hjA
                  obtain ⟨u, hu⟩ : ∃ u, (tm D.1 j).1 = u := ⟨_, rfl⟩
                  have HU := Lib.hid hu
                  rw [hu] at f1 f2 f3 f4 f5 z0
                  rw [← HTF.out u f1] at f5
                  have HF2 := Lib.hid f2; have HF3 := Lib.hid f3
                  obtain ⟨gd, od, hde, hgdB, hgd, dc, _⟩ := HO.out.at_ u f1
                  subst hde
                  rw [dlist_bt f1] at dc
                  obtain ⟨g9, vt, hte, hgt, hgtB, hvt, tc, tfr⟩ := owns_cell1 HT.out u f1
                  obtain rfl : gt = g9 := by cases hte; rfl
                  rw [bl_at f1] at hvt
                  obtain rfl : Value.bool (tf' u) = vt := Option.some.inj hvt
                  rw [f5] at tc
                  clear hvt hte hu f2 f3 f5
                  have hu256 : u < 256 := by omega
                  have hdu := HDL.out u
                  obtain ⟨du, hdue⟩ : ∃ du, dl u = du := ⟨_, rfl⟩
                  have HDU := Lib.hid hdue
                  rw [hdue] at dc f4 hdu
                  clear hdue
                  have FIN := Lib.hid (fun w' b => fin_put (w' := w') b HT.out HTF.out hjl HU.out f1 HO.out HL.out HC.out HB.out HAT.out HAOT.out HAL.out hgtB0)
                  have tc9 : ∀ w', Below wr.heap.size wr w' → w'.cell? ⟨gt, u, none⟩ = some (.bool false) ∧ w'.frozen? ⟨gt, u, none⟩ = false := fun w' b => ⟨(b.cell (p := ⟨gt, u, none⟩) hgt).trans tc, (World.frozen?_of_block (w := wr) (a := ⟨gt, u, none⟩) (b.block gt hgt)).trans tfr⟩
                  have TC9 := Lib.hid tc9; clear tc9
                  have rl := cell_regrown z0; have rd := cell_regrown dc
                  by_cases hj0 : j = 0
                  · have hg0 : decide (0 < (j : Int)) = false := by simp; omega
                    have hg0n : decide (0 < j) = false := by simp; omega
                    have HJ0 := Lib.hid hj0; clear hj0
                    go_wp2_with fail
                    refine wp_region_quiet_below (by kernel_rfl) (by kernel_rfl) ?_
                    repeat (go_big_quiet_step (fail))
                    refine wpQuiet_nil ?_
                    intro _ hw'
                    obtain ⟨⟨dq, osq⟩, hw''⟩ := hw'
                    subst hw''
                    have lk := below_regrown wr dq osq
                    obtain ⟨tf2, r1, r2, r3, r4, r5, r6⟩ := FIN.out _ lk
                    obtain ⟨c9, f9⟩ := TC9.out _ lk
                    have R1 := Lib.hid r1; have R2 := Lib.hid r2; have R3 := Lib.hid r3; have R4 := Lib.hid r4; have R5 := Lib.hid r5; have R6 := Lib.hid r6
                    clear r1 r2 r3 r4 r5 r6 rl rd lk z0 dc tc tfr hg0
                    generalize grow (redrawn wr dq) osq = w7 at *
                    go_wp2_with fail
                    go_roundw
                    case rel => exact ⟨j + 1, tf2, by omega, by go_num, by go_num, R1.out, R2.out, R3.out, R4.out, R5.out, R6.out⟩
                    case measure => simp [intOf]; omega
                  · obtain ⟨i, hji⟩ : ∃ i, j = i + 1 := ⟨j - 1, by omega⟩
                    have hprev := HDF.out.next (i := i) (by omega)
                    obtain ⟨v1, v2, v3, v4, _⟩ := HLF.out.at_ HDF.out (i := i) (by omega)
                    obtain ⟨gl', e, _, _, y0⟩ := owns_at1 HL.out HA.out i (by omega)
                    obtain rfl : gl = gl' := by cases e; rfl
                    rw [← hji, bef_iff, v2, HF2.out, v3, HF3.out, HDU.out] at hprev
                    obtain ⟨a, ha⟩ : ∃ a, (tm D.1 i).1 = a := ⟨_, rfl⟩
                    rw [ha] at v1 v4 y0 hprev
                    clear v2 v3 ha e
                    obtain ⟨gd', od', hde', _, _, ac, _⟩ := HO.out.at_ a v1
                    obtain ⟨rfl, rfl⟩ : gd = gd' ∧ od = od' := by cases hde'; exact ⟨rfl, rfl⟩
                    rw [dlist_bt v1] at ac
                    clear hde'
                    have hda := HDL.out a
                    obtain ⟨da, hdae⟩ : ∃ da, dl a = da := ⟨_, rfl⟩
                    rw [hdae] at ac hprev hda v4
                    clear hdae
                    have ra := cell_regrown y0; have rda := cell_regrown ac
                    have hg1 : decide (0 < (j : Int)) = true := by simp; omega
                    have hg1n : decide (0 < j) = true := by simp; omega
                    have hj1 : (j : Int) - 1 = (i : Int) := by omega
                    have hj2 : IntKind.i64.wrap ((j : Int) - 1) = (i : Int) := by rw [hj1]; exact IntWalk.i64_in _ (by omega)
                    have HJI := Lib.hid hji; clear hji hj0
                    have ha256 : a < 256 := by omega
                    by_cases hlt2 : da < du
                    · have e1 : decide ((du : Int) < (da : Int)) = false := by simp; omega
                      have e2 : ((da : Int) == (du : Int)) = false := by rw [beq_eq_false_iff_ne]; omega
                      have e1n : decide (du < da) = false := by simp; omega
                      have e2n : (da == du) = false := by rw [beq_eq_false_iff_ne]; omega
                      clear hprev
                      go_wp2_with fail
                      refine wp_region_quiet_below (by kernel_rfl) (by kernel_rfl) ?_
                      repeat (go_big_quiet_step (fail))
                      refine wpQuiet_nil ?_
                      intro _ hw'
                      obtain ⟨⟨dq, osq⟩, hw''⟩ := hw'
                      subst hw''
                      have lk := below_regrown wr dq osq
                      obtain ⟨tf2, r1, r2, r3, r4, r5, r6⟩ := FIN.out _ lk
                      obtain ⟨c9, f9⟩ := TC9.out _ lk
                      have R1 := Lib.hid r1; have R2 := Lib.hid r2; have R3 := Lib.hid r3; have R4 := Lib.hid r4; have R5 := Lib.hid r5; have R6 := Lib.hid r6
                      clear r1 r2 r3 r4 r5 r6 rl rd lk z0 dc tc tfr ra rda y0 ac hg1 hj1 hj2 e1 e2
                      generalize grow (redrawn wr dq) osq = w7 at *
                      go_wp2_with fail
                      go_roundw
                      case rel => exact ⟨j + 1, tf2, by omega, by go_num, by go_num, R1.out, R2.out, R3.out, R4.out, R5.out, R6.out⟩
                      case measure => simp [intOf]; omega
                    · have hdd : da = du := by omega
                      have hau : a < u := by omega
                      subst hdd
                      have e3 : decide ((u : Int) < (a : Int)) = false := by simp; omega
                      have e3n : decide (u < a) = false := by simp; omega
                      clear hprev
                      go_wp2_with fail
                      refine wp_region_quiet_below (by kernel_rfl) (by kernel_rfl) ?_
                      repeat (go_big_quiet_step (fail))
                      refine wpQuiet_nil ?_
                      intro _ hw'
                      obtain ⟨⟨dq, osq⟩, hw''⟩ := hw'
                      subst hw''
                      have lk := below_regrown wr dq osq
                      obtain ⟨tf2, r1, r2, r3, r4, r5, r6⟩ := FIN.out _ lk
                      obtain ⟨c9, f9⟩ := TC9.out _ lk
                      have R1 := Lib.hid r1; have R2 := Lib.hid r2; have R3 := Lib.hid r3; have R4 := Lib.hid r4; have R5 := Lib.hid r5; have R6 := Lib.hid r6
                      clear r1 r2 r3 r4 r5 r6 rl rd lk z0 dc tc tfr ra rda y0 ac hg1 hj1 hj2 e3
                      generalize grow (redrawn wr dq) osq = w7 at *
                      go_wp2_with fail
                      go_roundw
                      case rel => exact ⟨j + 1, tf2, by omega, by go_num, by go_num, R1.out, R2.out, R3.out, R4.out, R5.out, R6.out⟩
                      case measure => simp [intOf]; omega
                · obtain rfl : j = A := by omega
                  have hTK : D.1.take j = D.1 := List.take_of_length_le (by rw [HA.out]; exact Nat.le_refl _)
                  have HTF2 : Hid (∀ q, q < n → tf' q = (tf q || inS D.1 q)) := Lib.hid (fun q hq => by have := HTF.out q hq; rwa [hTK] at this)
                  clear hTK
                  go_wp2_with fail
                  go_loop [19] (fun s => ∃ i : Nat, i ≤ n ∧ s = .int .i64 (i : Int)) (fun s => n - (intOf s).toNat)
                  case atStart => exact ⟨0, by omega, rfl⟩
                  case round =>
                    obtain ⟨i, hi, rfl⟩ := hrel
                    by_cases hin : i < n
                    · obtain ⟨g9, vt, hte, hgt, hgtB, hvt, tc, tfr⟩ := owns_cell1 HT.out i hin
                      obtain rfl : gt = g9 := by cases hte; rfl
                      rw [bl_at hin] at hvt
                      obtain rfl : Value.bool (tf' i) = vt := Option.some.inj hvt
                      have hlater := fun h => HLF.out.later HDF.out hin (by rw [← HTF2.out i hin]; exact h)
                      obtain ⟨gd, od, hde, hgdB, hgd, dc, _⟩ := HO.out.at_ i hin
                      subst hde
                      rw [dlist_bt hin] at dc
                      have hdu := HDL.out i
                      clear hvt hte
                      cases hb : tf' i
                      · have hnl := hlater hb
                        rw [hb] at tc
                        obtain ⟨du, hdue⟩ : ∃ du, dl i = du := ⟨_, rfl⟩
                        rw [hdue] at dc hnl hdu
                        have e1 : decide ((du : Int) ≤ (now : Int)) = false := by simp; omega
                        clear hlater hb hdue
                        go_wp2_with fail
                        go_round
                        case rel => exact ⟨i + 1, by omega, by go_num⟩
                        case measure => simp [intOf]; omega
                      · rw [hb] at tc
                        clear hlater hb dc
                        go_wp2_with fail
                        go_round
                        case rel => exact ⟨i + 1, by omega, by go_num⟩
                        case measure => simp [intOf]; omega
                    · obtain rfl : i = n := by omega
                      have HLF2 : Hid (Left dl i D.2 tf' (M + j)) := Lib.hid (by
                        have h1 := HLF.out.done HDF.out
                        rw [HA.out] at h1
                        exact ⟨h1.sub, fun q hq => by rw [HTF2.out q hq]; exact h1.told q hq, h1.sum⟩)
                      have HEM : Hid (k = m2 → D.2 = []) := Lib.hid (fun h => HLF.out.empty HDF.out (fun q hq => by have e1 := HDL.out q; have e2 := hlast2 h; omega))
                      go_wp2_with fail
                      go_roundw
                      case rel => exact ⟨k + 1, M + j, mi, D.2, tf', by omega, by omega, by go_num, by go_num, hml, HC.out, HO.out, HT.out, HLF2.out, fun h => HEM.out (by omega), HB.out⟩
                      case measure => simp [intOf]; omega
          · have hkm1 : k = m2 + 1 := by omega
            have hS := HEM0.out hkm1
            subst hS
            have hsum := HLF.out.sum
            have hMn2 : M = n := by simpa using hsum
            subst hMn2
            have CT := Lib.hid (count_any wr HC.out)
            clear HEM0 hsum
            go_wp2_with fail
            refine CT.out.mono ?_; rintro e w3 ⟨rfl, rfl⟩
            go_wp2_with fail
            go_ret
            exact ⟨rfl, HB.out⟩
        · have hsum := HLF.out.sum
          have CT := Lib.hid (count_any wr HC.out)
          by_cases hm6 : 600 ≤ m2
          · have hkle : k ≤ m2 := by omega
            obtain ⟨L, hL⟩ : ∃ L, S.length = L := ⟨_, rfl⟩
            rw [hL] at hsum CT
            have hcnt : (M : Int) + (L : Int) = (n : Int) := by omega
            have hcb : (((M : Int) + (L : Int)) == (n : Int)) = true := by rw [hcnt]; simp
            clear hL HEM0
            go_wp2_with fail
            refine CT.out.mono ?_; rintro e w3 ⟨rfl, rfl⟩
            go_wp2_with fail
            go_ret
            exact ⟨rfl, HB.out⟩
          · have hS := HEM0.out (by omega)
            subst hS
            have hMn2 : M = n := by simpa using hsum
            subst hMn2
            have hknle : ¬ k ≤ m2 := by omega
            clear HEM0 hsum
            go_wp2_with fail
            refine CT.out.mono ?_; rintro e w3 ⟨rfl, rfl⟩
            go_wp2_with fail
            go_ret
            exact ⟨rfl, HB.out⟩
end Go.Proofs.Ytkhfbnlmjnbhmaa
