/- Due of the document's clock. -/
import Derived.Test.YtkhfbnlmjnbhmaaSame
namespace Go.Proofs.Ytkhfbnlmjnbhmaa
open Go.RowKit Go.Sort
set_option linter.unusedVariables false

/-- the first that is due next -/
theorem first_ex {S : List Tm} (hd : Dist S) (h0 : 0 < S.length) : ∃ p, p < S.length ∧ (tm S p).2.1 = nextD S ∧ (∀ j, j < p → (tm S j).2.1 ≠ nextD S) ∧ Min S (tm S p) := by
  obtain ⟨x, hx⟩ := min_ex h0
  obtain ⟨i, hi, hix⟩ := List.mem_iff_getElem.1 hx.mem
  have e : tm S i = x := by simp [tm, hi, hix]
  refine ⟨i, hi, by rw [e, nextD_of hd hx], fun j hj hn => ?_, by rw [e]; exact hx⟩
  have hlt : (tm S j).2.2 < (tm S i).2.2 := by
    have h1 := List.pairwise_iff_getElem.1 hd j i (by omega) hi hj
    have e1 : tm S j = S[j] := by simp [tm, show j < S.length by omega]
    have e2 : tm S i = S[i] := by simp [tm, hi]
    rw [e1, e2]; exact h1.2
  have h2 := hx.le _ (tm_mem (l := S) (j := j) (by omega))
  rw [← e, bef_not] at h2
  rw [nextD_of hd hx, ← e] at hn
  omega

theorem Turned.on {Bs Bc T : List Nat} {w w1 w2 : World} (h : Turned Bs Bc w w1) (k : Keep T w1 w2) (hT : ∀ q ∈ T, w.heap.size ≤ q) : Turned Bs Bc w w2 :=
  ⟨((h.keep.mono (T := Bs ++ T) (fun q hq => .inl (List.mem_append_left _ hq))).trans (k.mono (fun q hq => .inl (List.mem_append_right _ hq)))).mono (fun q hq => by
    rcases List.mem_append.1 hq with h1 | h1
    · exact .inl h1
    · exact .inr (hT q h1)), h.new⟩

set_option maxRecDepth 10000 in
set_option maxHeartbeats 8000000 in
theorem rdue_any {B hb rate milli : Nat} {S : List Tm} {Bs : List Nat} (w : World) (h : Rf w B hb Bs rate milli S) :
    Calls Try.prog 29 #[.pointer (some ⟨hb, 0, none⟩)] w fun e w' => ∃ v Bs', e = .returned v ∧ w'.ownsRow w.heap.size 32 1 v (dues (milli / 1000) S.length S).1.length (idc (dues (milli / 1000) S.length S).1) ∧
      Rf w' B hb Bs' rate milli (dues (milli / 1000) S.length S).2 ∧ Turned Bs Bs' w w' := by
  have HBL := Lib.hid (fun q hq => (h.blocks q hq).2)
  have HC := Lib.hid h
  have hfew : S.length ≤ 256 := by obtain ⟨ao, cap, _, h1⟩ := h; exact h1.few
  obtain ⟨i0, hi0, hz0, hz1, hz2⟩ := info_parts u64_info
  have HI0 := Lib.hid hi0; have HZ0 := Lib.hid hz0; have HZ1 := Lib.hid hz1; have HZ2 := Lib.hid hz2
  clear h hi0 hz0 hz1 hz2
  generalize hnow : milli / 1000 = now at *
  have HNOW := Lib.hid hnow; clear hnow
  obtain ⟨D, hD⟩ : ∃ D, dues now S.length S = D := ⟨_, rfl⟩
  rw [hD]
  have HD := Lib.hid hD; clear hD
  go_enter Try.func29, Try.ntmps29
  go_wp2_with fail
  go_loopw [3, 4] (fun s n wr => ∃ acc S' Bc, n = .int .i64 ((acc.length : Nat) : Int) ∧ wr.ownsRow w.heap.size 32 1 s acc.length (idc acc) ∧ Rf wr B hb Bc rate milli S' ∧ D = (acc ++ (dues now S'.length S').1, (dues now S'.length S').2) ∧ Turned Bs Bc w wr ∧ (∀ g, s.ownBlock = some g → g ∉ Bc) ∧ acc.length + S'.length = S.length) (fun _ n _ => 257 - (intOf n).toNat)
  case atStart => exact ⟨[], S, Bs, rfl, World.ownsRow_nil _ _ _ _, HC.out, by rw [← HD.out]; rfl, Turned.refl _ _, (fun g h => by cases h), by simp⟩
  case round =>
    clear HC HD
    obtain ⟨acc, S', Bc, rfl, hown, hc, hdu, hk, hap, hlen⟩ := hrel
    obtain ⟨ao1, cap1, rfl, hle1, hmx1⟩ := owns_shape hown
    have HC := Lib.hid hc; have HOWN := Lib.hid hown; have HDU := Lib.hid hdu; have HK := Lib.hid hk; have HAP := Lib.hid hap
    have C1 := Lib.hid (rnext_any wr hc)
    have C2 := Lib.hid (rnow_any wr hc)
    rw [HNOW.out] at C2
    clear hown hdu hk hap
    obtain ⟨A, hA⟩ : ∃ A, acc.length = A := ⟨_, rfl⟩
    have HA := Lib.hid hA
    rw [hA] at hlen hle1 HOWN
    simp only [hA]
    have hA257 : A ≤ 256 := by omega
    clear hA
    by_cases h0 : 0 < S'.length
    · obtain ⟨ao, cap, rfl, hW⟩ := hc
      obtain ⟨p, hpl, hpd, hpf, hpm⟩ := first_ex hW.dist h0
      obtain ⟨b0, hb0⟩ : ∃ b, decide (0 < S'.length) = b := ⟨_, rfl⟩
      rw [hb0] at C1
      have hb0' : b0 = true := by rw [← hb0]; simpa using h0
      subst hb0'
      clear hb0
      have HMIN := Lib.hid hpm; have HDST := Lib.hid hW.dist; have HPF := Lib.hid hpf; have HPD := Lib.hid hpd
      have hok := hW.ok _ (tm_mem hpl)
      have k2 := hW.k2
      have hlt := hW.hlt
      have HAT := Lib.hid (fun j hj => owns_at2 hW.own rfl j hj)
      have HOK := Lib.hid (fun j (hj : j < S'.length) => (hW.ok _ (tm_mem hj)).2)
      have HWW := Lib.hid hW
      obtain ⟨d, hd⟩ : ∃ d, nextD S' = d := ⟨_, rfl⟩
      rw [hd] at C1 HPF HPD
      have hdx : d ≤ 1099511627776 := by have := hok.2; rw [HPD.out] at this; exact this
      have hx1 := hok.1
      clear hW hpm hpf hpd hd hok
      obtain ⟨L, hL⟩ : ∃ L, S'.length = L := ⟨_, rfl⟩
      have HL := Lib.hid hL
      rw [hL] at h0 hlen hpl k2 HAT HOK
      have hLw : L ≤ 256 := by omega
      clear hL
      by_cases hdue : d ≤ now
      · go_wp2_with fail
        refine C1.out.mono ?_; rintro e w1 ⟨rfl, rfl⟩
        go_wp2_with fail
        refine C2.out.mono ?_; rintro e w1 ⟨rfl, rfl⟩
        go_wp2_with fail
        go_loop [3, 7] (fun o s => ∃ i : Nat, i ≤ p ∧ s = .int .i64 (i : Int) ∧ o = .slice ao1 A cap1) (fun _ s => p - (intOf s).toNat)
        case atStart => exact ⟨0, by omega, rfl, rfl⟩
        case round =>
          obtain ⟨i, hi, rfl, rfl⟩ := hrel
          obtain ⟨g, rfl, hg, hgb, y0, y1⟩ := HAT.out i (by omega)
          by_cases hip : i < p
          · have hne := HPF.out i hip
            have hdi := HOK.out i (by omega)
            obtain ⟨a, ha⟩ : ∃ a, (tm S' i).2.1 = a := ⟨_, rfl⟩
            rw [ha] at y1 hne hdi
            have hbe : ((a : Int) == (d : Int)) = false := by rw [beq_eq_false_iff_ne]; omega
            clear ha
            go_wp2_with fail
            go_round
            case rel => exact ⟨i + 1, by omega, by go_num, rfl⟩
            case measure => simp [intOf]; omega
          · obtain rfl : i = p := by omega
            rw [HPD.out] at y1
            obtain ⟨x, hx⟩ : ∃ x, tm S' i = x := ⟨_, rfl⟩
            rw [hx] at y0 hx1 HMIN HPD
            have hxd := HPD.out
            clear hx HPF
            have hsw : w.heap.size ≤ wr.heap.size := HK.out.keep.size
            have HAPB : Hid (∀ q ∈ hb :: blk (some ⟨g, 0, none⟩), q ∉ blk ao1) := Lib.hid (fun q hq hm => by
              cases ao1 with
              | none => simp [blk] at hm
              | some a => simp [blk] at hm; subst hm; exact HAP.out a.block rfl hq)
            have HBK : Hid (∀ q ∈ blk ao1, w.heap.size ≤ q) := Lib.hid (fun q hq => (owns_blk HOWN.out q hq).1)
            have HBC : Hid (∀ q ∈ hb :: blk (some ⟨g, 0, none⟩), q < wr.heap.size) := Lib.hid (fun q hq => (HC.out.blocks q hq).2)
            go_wp2_with (at_builtin; refine wpList_append_lies _ rfl (.tmp 44) (.tmp 53) 49 rfl w.heap.size 32 i0 (.int .u64 0) 1 8 Try.underlying49 HI0.out HZ0.out HZ1.out HZ2.out rfl (by omega) (.slice ao1 A cap1) A (idc acc) rfl (HOWN.out.alloc _) ⟨wr.heap.size, 0, none⟩ 1 1 [.int .u64 (x.1 : Int)] rfl rfl (World.news_of_block (cs := #[.int .u64 (x.1 : Int)]) (t := 32) (fr := (0, 0)) (heap_alloc_new wr _)) (by simp [Value.oneCell']) (by omega) (by unfold maxLen; omega) (by omega) (by simp; omega) (wr.heap.size + 1) (by simp) ?_; intro gg cap4 w4 hown4 hgrow4 hat4 hlt4; have kg := (Keep.of_below (below_alloc (Below.refl _ wr) _) (blk ao1)).trans (keep_grown hgrow4); have RW4 := HWW.out.keep kg HAPB.out; have k24 := RW4.k2; have y04 := (kg.cell (a := ⟨g, i * 2, none⟩) hg (HAPB.out g (by simp [blk]))).trans y0; rw [HL.out] at k24; have hl4 := RW4.hlt)
            have hgB : gg ∉ hb :: blk (some ⟨g, 0, none⟩) := by
              intro hm
              rcases hat4 with h | h
              · refine HAPB.out gg hm ?_
                cases ao1 with
                | none => cases h
                | some a => simp [Value.ownBlock] at h; simp [blk, h]
              · have := HBC.out gg hm; omega
            have HK4 := Lib.hid (HK.out.on kg HBK.out)
            have HO4 := Lib.hid hown4; have HR4 : Hid (Rf w4 B hb (hb :: blk (some ⟨g, 0, none⟩)) rate milli S') := Lib.hid ⟨_, _, rfl, RW4⟩
            clear kg RW4 hown4 hgrow4 hat4 y0 y1 k2
            refine (rstop_any w4 x.1 hx1 HR4.out).mono ?_; rintro e w5 ⟨rfl, Bc', h5, t5⟩
            have ho5 := owns_keep HO4.out t5.keep (blk_own _ _ _ (fun q hq hm => by simp [blk] at hq; subst hq; exact hgB hm))
            have hap5 : ∀ g', (Value.slice (some ⟨gg, 0, none⟩) (A + 1) cap4).ownBlock = some g' → g' ∉ Bc' := by
              intro g' hg' hm
              have e : gg = g' := by simpa [Value.ownBlock] using hg'
              subst e
              rcases t5.new gg hm with h | h
              · exact hgB h
              · omega
            have HO5 := Lib.hid ho5; have HR5 := Lib.hid h5; have HAP5 := Lib.hid hap5; have HK5 := Lib.hid (HK4.out.trans t5)
            have hwl := wo_len HDST.out HMIN.out.mem
            have HDU5 : Hid (D = ((acc ++ [x]) ++ (dues now (wo S' x.1).length (wo S' x.1)).1, (dues now (wo S' x.1).length (wo S' x.1)).2)) := Lib.hid (by
              rw [HDU.out, dues_step HDST.out HMIN.out (by omega), List.append_assoc]; rfl)
            have HLN : Hid ((acc ++ [x]).length = A + 1) := Lib.hid (by rw [List.length_append, HA.out]; rfl)
            have HLN2 : Hid ((acc ++ [x]).length + (wo S' x.1).length = S.length) := Lib.hid (by rw [HLN.out]; have := HL.out; omega)
            clear ho5 h5 hap5 t5 hgB k24 y04 hwl
            go_wp2_with fail
            go_roundw
            case rel => exact ⟨acc ++ [x], wo S' x.1, Bc', by rw [HLN.out]; go_num, by rw [HLN.out, idc_app]; exact HO5.out, HR5.out, HDU5.out, HK5.out, HAP5.out, HLN2.out⟩
            case measure => simp [intOf]; omega
      · have HDU4 : Hid (D = (acc, S')) := Lib.hid (by rw [HDU.out, dues_stop HDST.out HMIN.out (by rw [HPD.out]; exact hdue)]; simp)
        clear k2
        go_wp2_with fail
        refine C1.out.mono ?_; rintro e w1 ⟨rfl, rfl⟩
        go_wp2_with fail
        refine C2.out.mono ?_; rintro e w1 ⟨rfl, rfl⟩
        go_wp2_with fail
        go_ret
        rw [HDU4.out]
        exact ⟨_, _, rfl, by rw [HA.out]; exact HOWN.out, HC.out, HK.out⟩
    · have hs0 : S' = [] := List.eq_nil_of_length_eq_zero (by omega)
      subst hs0
      have HDU4 : Hid (D = (acc, [])) := Lib.hid (by rw [HDU.out, dues_nil]; simp)
      clear hc
      go_wp2_with fail
      refine C1.out.mono ?_; rintro e w1 ⟨rfl, rfl⟩
      go_wp2_with fail
      go_ret
      rw [HDU4.out]
      exact ⟨_, _, rfl, by rw [HA.out]; exact HOWN.out, HC.out, HK.out⟩
end Go.Proofs.Ytkhfbnlmjnbhmaa
