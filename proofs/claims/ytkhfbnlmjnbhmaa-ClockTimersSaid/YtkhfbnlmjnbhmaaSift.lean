/- rise, sink: a hole that moves. -/
import Derived.Test.YtkhfbnlmjnbhmaaPut
namespace Go.Proofs.Ytkhfbnlmjnbhmaa
open Go.RowKit Go.Sort
set_option linter.unusedVariables false

/-- the list l with a hole at i, out of l0 with a hole at i0 -/
structure St (t : Tm) (l0 : List Tm) (i0 : Nat) (f0 : Nat → Option Nat) (l : List Tm) (i : Nat) (f : Nat → Option Nat) : Prop where
  len : l.length = l0.length
  hi : i < l.length
  hh : HH l i
  perm : (l.set i t).Perm (l0.set i0 t)
  fwd : ∀ j, j < l.length → j ≠ i → f (tm l j).1 = some j
  dom : ∀ id, (f id).isSome = (f0 id).isSome
theorem St.move {t : Tm} {l0 : List Tm} {i0 : Nat} {f0 : Nat → Option Nat} {l : List Tm} {i : Nat} {f : Nat → Option Nat} (h : St t l0 i0 f0 l i f) (p : Nat) (hp : p < l.length) (hne : p ≠ i) (hh : HH (l.set i (tm l p)) p) :
    St t l0 i0 f0 (l.set i (tm l p)) p (upd f (tm l p).1 (some i)) := by
  have hi := h.hi
  refine ⟨by rw [List.length_set]; exact h.len, by rw [List.length_set]; exact hp, hh, (perm_move l i p t hi hp hne.symm).trans h.perm, fun j hj hjp => ?_, fun id => ?_⟩
  · rw [List.length_set] at hj
    rw [tm_set _ _ _ _ hi]
    by_cases e : j = i
    · subst e; rw [if_pos rfl, upd_same]
    · rw [if_neg e]
      have h1 := h.fwd j hj e
      have h2 := h.fwd p hp hne
      rw [upd_other _ _ (fun e2 => by rw [e2, h2] at h1; cases h1; exact hjp rfl)]
      exact h1
  · by_cases e : id = (tm l p).1
    · subst e
      rw [upd_same, ← h.dom, h.fwd p hp hne]; rfl
    · rw [upd_other _ _ e]; exact h.dom id
theorem St.isS {t : Tm} {l0 : List Tm} {i0 : Nat} {f0 : Nat → Option Nat} {l : List Tm} {i : Nat} {f : Nat → Option Nat} (h : St t l0 i0 f0 l i f) (p : Nat) (hp : p < l.length) (hne : p ≠ i) : (f (tm l p).1).isSome = true := by rw [h.fwd p hp hne]; rfl

abbrev clo (t : Tm) : Value := .func (.func 35) #[agT t] #[]

set_option maxHeartbeats 4000000 in
theorem rise_any {B hb gm n : Nat} {ao : Option Addr} {cap : Nat} {l0 : List Tm} {f0 : Nat → Option Nat} (w : World) (t : Tm) (i0 : Nat) (ht : okT t) (hn : n ≤ 256) (hw : HpW w B hb gm n ao cap l0 f0) (h0 : St t l0 i0 f0 l0 i0 f0) :
    Calls Try.prog 38 #[.pointer (some ⟨hb, 2, none⟩), .int .i64 (i0 : Int), clo t] w fun e w' => ∃ (l : List Tm) (i : Nat) (f : Nat → Option Nat), e = .returned (.int .i64 (i : Int)) ∧ HpW w' B hb gm n ao cap l f ∧ St t l0 i0 f0 l i f ∧ (i = 0 ∨ bef t (tm l ((i - 1) / 2)) = false) ∧ Keep (gm :: blk ao) w w' := by
  have H0 := Lib.hid h0
  have HW0 := Lib.hid hw
  clear h0 hw
  have HT := Lib.hid ht; clear ht
  go_enter Try.func38, Try.ntmps38
  go_wp2_with fail
  go_loopw [1] (fun s wr => ∃ l i f, s = .int .i64 ((i : Nat) : Int) ∧ HpW wr B hb gm n ao cap l f ∧ St t l0 i0 f0 l i f ∧ Keep (gm :: blk ao) w wr) (fun s _ => (intOf s).toNat)
  case atStart => exact ⟨l0, i0, f0, rfl, HW0.out, H0.out, Keep.refl _ _⟩
  case round =>
    clear HW0 H0
    obtain ⟨l, i, f, rfl, hw, hs, hk⟩ := hrel
    have hf := hw.few
    have hi := hs.hi
    have c2 := hw.cl
    by_cases hpos : 0 < i
    · obtain ⟨p, hp⟩ : ∃ p, p = (i - 1) / 2 := ⟨_, rfl⟩
      have hpl : p < l.length := by omega
      have hpi : p < i := by omega
      obtain ⟨g, rfl, hg, hgb, hn1, hn2, x0, x1, x2⟩ := hw.at_ p hpl
      have C := Lib.hid (before_any t (tm l p) HT.out (hw.fits p hpl))
      have HP := Lib.hid (put_any wr (tm l p) i hw hi (hw.fits p hpl) hn)
      have hq : ((i : Int) - 1) / 2 = (p : Int) := by omega
      have HS := Lib.hid hs; have HK := Lib.hid hk; have HW := Lib.hid hw; have HPE := Lib.hid hp
      clear hs hk hw hp
      cases hb : bef t (tm l p) <;> rw [hb] at C
      · go_wp2_with fail
        refine (C.out _).mono ?_; rintro e w3 ⟨rfl, b3⟩
        have HB := Lib.hid b3; have HBB := Lib.hid hb; clear b3 hb c2 x0 x1 x2
        go_wp2_with fail
        go_ret
        exact ⟨l, i, f, rfl, HW.out.below HB.out, HS.out, .inr (by rw [← HPE.out]; exact HBB.out), HK.out.trans (Keep.of_below HB.out _)⟩
      · go_wp2_with fail
        refine (C.out _).mono ?_; rintro e w3 ⟨rfl, b3⟩
        clear hb
        have hw3 := HW.out.below b3
        have c2' := hw3.cl
        obtain ⟨g', e, hg3, _, _, _, y0, y1, y2⟩ := hw3.at_ p hpl
        obtain rfl : g = g' := by cases e; rfl
        have HP := Lib.hid (put_any w3 (tm l p) i hw3 hi (hw3.fits p hpl) hn)
        have HB := Lib.hid b3; clear b3 c2 x0 x1 x2 e hw3
        go_wp2_with fail
        refine HP.out.mono ?_; rintro e w4 ⟨rfl, h4, k4⟩
        have hsome := HS.out.isS p hpl (by omega)
        rw [if_pos hsome] at h4
        have HW4 := Lib.hid h4; have HK4 := Lib.hid k4
        clear h4 k4 hsome c2' y0 y1 y2
        go_wp2_with fail
        go_roundw
        case rel => exact ⟨_, p, _, by go_num, HW4.out, HS.out.move p hpl (by omega) (by rw [HPE.out]; exact HS.out.hh.rise hpos hi), (HK.out.trans (Keep.of_below HB.out _)).trans HK4.out⟩
        case measure => simp [intOf]; omega
    · obtain rfl : i = 0 := by omega
      have HS := Lib.hid hs; have HK := Lib.hid hk; have HW := Lib.hid hw
      clear hs hk hw c2
      go_wp2_with fail
      go_ret
      exact ⟨l, 0, f, rfl, HW.out, HS.out, .inl rfl, HK.out⟩

set_option maxHeartbeats 4000000 in
theorem sink_any {B hb gm n : Nat} {ao : Option Addr} {cap : Nat} {l0 : List Tm} {f0 : Nat → Option Nat} (w : World) (t : Tm) (i0 : Nat) (ht : okT t) (hn : n ≤ 256) (hw : HpW w B hb gm n ao cap l0 f0) (h0 : St t l0 i0 f0 l0 i0 f0)
    (hup : i0 = 0 ∨ bef t (tm l0 ((i0 - 1) / 2)) = false) :
    Calls Try.prog 37 #[.pointer (some ⟨hb, 2, none⟩), .int .i64 (i0 : Int), clo t] w fun e w' => ∃ (l : List Tm) (i : Nat) (f : Nat → Option Nat), e = .returned (.int .i64 (i : Int)) ∧ HpW w' B hb gm n ao cap l f ∧ St t l0 i0 f0 l i f ∧ Hp (l.set i t) ∧ Keep (gm :: blk ao) w w' := by
  have H0 := Lib.hid h0
  have HW0 := Lib.hid hw
  have HU0 := Lib.hid hup
  clear h0 hw hup
  have HT := Lib.hid ht; clear ht
  go_enter Try.func37, Try.ntmps37
  go_wp2_with fail
  go_loopw [1] (fun s wr => ∃ l i f, s = .int .i64 ((i : Nat) : Int) ∧ HpW wr B hb gm n ao cap l f ∧ St t l0 i0 f0 l i f ∧ (i = 0 ∨ bef t (tm l ((i - 1) / 2)) = false) ∧ Keep (gm :: blk ao) w wr) (fun s _ => l0.length - (intOf s).toNat)
  case atStart => exact ⟨l0, i0, f0, rfl, HW0.out, H0.out, HU0.out, Keep.refl _ _⟩
  case round =>
    clear HW0 H0 HU0
    obtain ⟨l, i, f, rfl, hw, hs, hu, hk⟩ := hrel
    have hf := hw.few
    have hi := hs.hi
    have hlen := Lib.hid hs.len
    have CB := Lib.hid (below_any wr i hw hi)
    obtain ⟨b1, b2, b3⟩ := blw_le l i
    have HM := Lib.hid (fun k h0 h1 h2 => blw_min (l := l) (i := i) k h0 h1 h2)
    have HN := Lib.hid (fun h => blw_none (l := l) (i := i) h)
    generalize blw l i = b at *
    have HS := Lib.hid hs; have HK := Lib.hid hk; have HW := Lib.hid hw; have HU := Lib.hid hu; have HBI := Lib.hid b3
    clear hs hk hw hu b3
    go_wp2_with fail
    refine CB.out.mono ?_; rintro e w2 ⟨rfl, bl2⟩
    have hw2 := HW.out.below bl2
    have k2 := HK.out.trans (Keep.of_below bl2 _)
    clear CB HW HK bl2
    have c2 := hw2.cl
    by_cases hlt : b < l.length
    · obtain ⟨g, rfl, hg, hgb, hn1, hn2, x0, x1, x2⟩ := hw2.at_ b hlt
      have C := Lib.hid (before_any t (tm l b) HT.out (hw2.fits b hlt))
      have HW := Lib.hid hw2; have HK := Lib.hid k2
      clear hw2 k2
      cases hb : bef t (tm l b) <;> rw [hb] at C
      · have HBB := Lib.hid hb; clear hb
        go_wp2_with fail
        refine (C.out _).mono ?_; rintro e w3 ⟨rfl, b3⟩
        have hw3 := HW.out.below b3
        have c2' := hw3.cl
        obtain ⟨g', e, hg3, _, _, _, y0, y1, y2⟩ := hw3.at_ b hlt
        obtain rfl : g = g' := by cases e; rfl
        have HP := Lib.hid (put_any w3 (tm l b) i hw3 hi (hw3.fits b hlt) hn)
        have HB := Lib.hid b3; clear b3 c2 x0 x1 x2 e hw3
        go_wp2_with fail
        refine HP.out.mono ?_; rintro e w4 ⟨rfl, h4, k4⟩
        have hsome := HS.out.isS b hlt (by omega)
        rw [if_pos hsome] at h4
        have HW4 := Lib.hid h4; have HK4 := Lib.hid k4
        clear h4 k4 hsome c2' y0 y1 y2
        go_wp2_with fail
        go_roundw
        case rel => exact ⟨_, b, _, by go_num, HW4.out, HS.out.move b hlt (by omega) (HS.out.hh.sink hlt (by omega) HBI.out (fun k h0 h1 h2 => HM.out k h0 h1 h2)), .inr (by rw [HBI.out, tm_set _ _ _ _ hi, if_pos rfl]; exact HBB.out), (HK.out.trans (Keep.of_below HB.out _)).trans HK4.out⟩
        case measure => have := hlen.out; simp [intOf]; omega
      · have HBB := Lib.hid hb; clear hb
        go_wp2_with fail
        refine (C.out _).mono ?_; rintro e w3 ⟨rfl, b3⟩
        have HB := Lib.hid b3; clear b3 c2 x0 x1 x2
        go_wp2_with fail
        go_ret
        exact ⟨l, i, f, rfl, HW.out.below HB.out, HS.out, HS.out.hh.fill hi HU.out (fun k h0 h1 h2 => nb_of (HM.out k h0 h1 h2) HBB.out), HK.out.trans (Keep.of_below HB.out _)⟩
    · have HW := Lib.hid hw2; have HK := Lib.hid k2
      clear hw2 k2
      go_wp2_with fail
      go_ret
      exact ⟨l, i, f, rfl, HW.out, HS.out, HS.out.hh.fill hi HU.out (fun k h0 h1 h2 => by have := HN.out (by omega); omega), HK.out⟩
end Go.Proofs.Ytkhfbnlmjnbhmaa
