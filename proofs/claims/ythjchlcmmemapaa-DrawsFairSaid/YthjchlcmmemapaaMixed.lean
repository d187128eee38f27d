/- mixed, picked of the statements. -/
import Derived.Test.YthjchlcmmemapaaOrd2
namespace Go.Proofs.Ythjchlcmmemapaa
open Go.RowKit Go.Sort
set_option linter.unusedVariables false

/-- two generators at one state -/
structure Both (w : World) (B g1 g2 s : Nat) : Prop where
  one : Gen w B g1 s
  two : Gen w B g2 s
  ne : g1 ≠ g2
theorem Both.below {w w' : World} {B g1 g2 s : Nat} (h : Both w B g1 g2 s) (b : Below w.heap.size w w') : Both w' B g1 g2 s := ⟨h.one.below b, h.two.below b, h.ne⟩
theorem Both.keep {w w' : World} {B g1 g2 s : Nat} {S : List Nat} (h : Both w B g1 g2 s) (k : Keep S w w') (h1 : g1 ∉ S) (h2 : g2 ∉ S) : Both w' B g1 g2 s := ⟨h.one.keep k h1, h.two.keep k h2, h.ne⟩
/-- the two have gone on alike, nothing else turned -/
def Went (B g1 g2 : Nat) (w : World) (e : Ending) (w' : World) : Prop := ∃ s', e = .returned (.bool true) ∧ Both w' B g1 g2 s' ∧ Keep [g1, g2] w w'

theorem Keep.wide {S T : List Nat} {w w' : World} (h : Keep S w w') (hs : ∀ k ∈ S, k ∈ T) : Keep T w w' := h.mono fun k hk => .inl (hs k hk)

set_option maxHeartbeats 4000000 in
theorem mixed_no (B g1 g2 s : Nat) (n : Int) (hn : n < 0 ∨ 1000 < n) (w : World) (hb : Both w B g1 g2 s) :
    Calls Try.prog 16 #[.pointer (some ⟨g1, 0, none⟩), .pointer (some ⟨g2, 0, none⟩), .int .i64 n] w (Went B g1 g2 w) := by
  have O := Lib.hid (order_no (some ⟨g1, 0, none⟩) n (.inr hn) w)
  have HB := Lib.hid hb
  clear hb
  rcases hn with hn | hn
  · go_enter Try.func16, Try.ntmps16
    go_wp2_with fail
    refine O.out.mono ?_; rintro e w1 ⟨rfl, rfl⟩
    go_wp2_with fail
    go_ret
    exact ⟨s, rfl, HB.out, Keep.refl _ _⟩
  · go_enter Try.func16, Try.ntmps16
    go_wp2_with fail
    refine O.out.mono ?_; rintro e w1 ⟨rfl, rfl⟩
    go_wp2_with fail
    go_ret
    exact ⟨s, rfl, HB.out, Keep.refl _ _⟩

set_option maxHeartbeats 4000000 in
theorem mixed_yes (B g1 g2 s n : Nat) (hn : n ≤ 1000) (w : World) (hb : Both w B g1 g2 s) :
    Calls Try.prog 16 #[.pointer (some ⟨g1, 0, none⟩), .pointer (some ⟨g2, 0, none⟩), .int .i64 (n : Int)] w (Went B g1 g2 w) := by
  have O := Lib.hid (order_yes B g1 s n hn w hb.one)
  have HB := Lib.hid hb
  have hl1 := hb.one.lt; have hl2 := hb.two.lt; have hne := hb.ne
  have hL := (ordF_perm s n).len
  obtain ⟨F, hF⟩ : ∃ F, ordF s n = F := ⟨_, rfl⟩
  have HR := Lib.hid (fun w' hg => rorder_any B g2 s n hn w' hg)
  rw [hF] at O HR hL
  have HL := Lib.hid hL
  clear hb hF hL
  go_enter Try.func16, Try.ntmps16
  go_wp2_with fail
  refine O.out.mono ?_; rintro e w1 ⟨ao, cap, rfl, ho1, hg1, k1⟩
  have hs1 := k1.size
  have hq1 := ho1.lt_size
  have hg2 := HB.out.two.keep k1 (by simpa using fun h => hne h.symm)
  have HO1 := Lib.hid ho1; have HG1 := Lib.hid hg1; have K1 := Lib.hid k1; have HG2 := Lib.hid hg2; have HQ1 := Lib.hid hq1
  clear ho1 hg1 k1 hg2 hq1
  go_wp2_with fail
  refine (HR.out w1 HG2.out).mono ?_; rintro e w2 ⟨bo, cap2, rfl, ho2, hg2, k2⟩
  have hs2 := k2.size
  have ho12 := HO1.out.keep k2 (fun q hq hm => by rw [List.mem_singleton] at hm; subst hm; have := (HQ1.out _ hq).1; omega)
  have hg12 := HG1.out.keep k2 (by simpa using hne)
  have kk := (K1.out.wide (T := [g1, g2]) (by simp)).trans (k2.wide (T := [g1, g2]) (by simp))
  have HO2 := Lib.hid ho2; have HG2 := Lib.hid hg2; have HO12 := Lib.hid ho12; have HG12 := Lib.hid hg12; have KK := Lib.hid kk
  clear ho2 hg2 k2 ho12 hg12 kk HO1 HG1 K1
  go_wp2_with fail
  refine (same_any n (by omega) F.2 HL.out ao bo cap cap2 w2 HO12.out.rd HO2.out.rd).mono ?_; rintro e w3 ⟨rfl, b3⟩
  have ho3 := HO12.out.below b3
  have hb3 : Both w3 B g1 g2 F.1 := ⟨HG12.out.below b3, HG2.out.below b3, hne⟩
  have k3 := KK.out.trans (Keep.of_below b3 _)
  have hs3 := b3.size
  have HO3 := Lib.hid ho3; have HB3 := Lib.hid hb3; have K3 := Lib.hid k3
  clear ho3 hb3 k3 b3 HO12 HG12 HO2 HG2 KK
  go_wp2_with fail
  go_loopw [10] (fun i wr => ∃ (k : Nat) (U : List Int), k ≤ n ∧ i = .int .i64 (k : Int) ∧ Own wr w.heap.size ao n cap U ∧ Keep (blk ao) w3 wr) (fun i _ => n - (intOf i).toNat)
  case atStart => exact ⟨0, _, by omega, rfl, HO3.out, Keep.refl _ _⟩
  case round =>
    obtain ⟨k, U, hk, rfl, ho, hkp⟩ := hrel
    have HO := Lib.hid ho; have HK := Lib.hid hkp
    clear ho hkp
    by_cases hlt : k < n
    · obtain ⟨gu, ou, rfl, hgu, hgus, hcell, hfr⟩ := HO.out.at_ k hlt
      go_wp2_with fail
      go_roundw
      case rel => exact ⟨k + 1, _, by omega, by go_num, HO.out.set k (-1) hlt (by unfold okI; omega), HK.out.trans (show Keep (blk (some ⟨gu, ou, none⟩)) _ _ from Keep.setCell _ ⟨gu, ou + k, none⟩ _)⟩
      case measure => simp [intOf]; omega
    · obtain rfl : n = k := by omega
      have hsr := HK.out.size
      go_wp2_with (at_builtin; refine wpList_app rfl (.tmp 44) (.tmp 45) rfl rfl (HO.out.below (below_alloc (Below.refl _ _) _)) rfl (Own.two wr 0 (-1) (-1) (by unfold okI; omega) (by unfold okI; omega) (by omega)).rd rfl (by simp; omega) (by omega) ?_; intro ao2 cap3 w5 hown5 hk5 hn5)
      go_ret
      have kc := (HK.out.trans (Keep.of_below (below_alloc (Below.refl _ _) _) _)).trans hk5
      have hno : ∀ q ∈ blk ao, w.heap.size ≤ q := fun q hq => (HO.out.lt_size q hq).1
      refine ⟨F.1, rfl, HB3.out.keep kc (fun h => by have := hno _ h; omega) (fun h => by have := hno _ h; omega), ?_⟩
      exact ((K3.out.wide (T := [g1, g2] ++ blk ao) (fun q hq => List.mem_append_left _ hq)).trans (kc.wide (T := [g1, g2] ++ blk ao) (fun q hq => List.mem_append_right _ hq))).mono (fun q hq => by
        rcases List.mem_append.1 hq with h | h
        · exact .inl h
        · exact .inr (hno q h))
end Go.Proofs.Ythjchlcmmemapaa
