/- set. -/
import Derived.Test.YtkhfbnlmjnbhmaaSetH
namespace Go.Proofs.Ytkhfbnlmjnbhmaa
open Go.RowKit Go.Sort
set_option linter.unusedVariables false

theorem timer_info : (Try.prog.info? 66).map (fun i => (i.zero, i.size, i.bytes)) = some (some (.agg #[.int .u64 0, .int .i64 0, .int .u64 0]), 3, 24) := by kernel_rfl
abbrev boxo (t : Tm) : Obj := .cells #[.int .u64 (t.1 : Int), .int .i64 (t.2.1 : Int), .int .u64 (t.2.2 : Int)] 66
/-- the other cells of the clock's block stay -/
structure Side (hb : Nat) (w w' : World) : Prop where
  cell : ∀ q, q ≠ 2 → w'.cell? ⟨hb, q, none⟩ = w.cell? ⟨hb, q, none⟩
  frozen : ∀ q, w'.frozen? ⟨hb, q, none⟩ = w.frozen? ⟨hb, q, none⟩
theorem Side.of_keep {T : List Nat} {hb : Nat} {w w' : World} (k : Keep T w w') (hlt : hb < w.heap.size) (hn : hb ∉ T) : Side hb w w' := ⟨fun q _ => k.cell hlt hn, fun q => k.frozen hlt hn⟩
theorem Side.trans {hb : Nat} {a b c : World} (h : Side hb a b) (k : Side hb b c) : Side hb a c := ⟨fun q hq => (k.cell q hq).trans (h.cell q hq), fun q => (k.frozen q).trans (h.frozen q)⟩
theorem Side.set (hb : Nat) (w : World) (v : Value) : Side hb w (w.setCell ⟨hb, 2, none⟩ v) := ⟨fun q hq => World.cell?_setCell_other _ _ _ _ (fun e => hq (by cases e; rfl)), fun q => World.frozen?_setCell _ _ _ _⟩
/-- the list grown by one, its header laid anew -/
theorem HpW.grow {w w1 w2 : World} {B hb gm n : Nat} {ao : Option Addr} {cap : Nat} {l : List Tm} {f : Nat → Option Nat} (h : HpW w B hb gm n ao cap l f) (t : Tm) (ht : okT t) (hroom : l.length < 256) {g cap' : Nat}
    (hown : w1.ownsRow B 66 3 (.slice (some ⟨g, 0, none⟩) (l.length + 1) cap') (l.length + 1) (fl c3 l ++ c3 t)) (k : Keep (blk ao) w w1) (hat : some g = ao.map (·.block) ∨ w.heap.size ≤ g) (hg : g < w1.heap.size)
    (h2 : w2 = w1.setCell ⟨hb, 2, none⟩ (.slice (some ⟨g, 0, none⟩) (l.length + 1) cap')) :
    HpW w2 B hb gm n (some ⟨g, 0, none⟩) cap' (l ++ [t]) f ∧ Keep (hb :: gm :: blk ao) w w2 ∧ (∀ q ∈ blk (some ⟨g, 0, none⟩), q ∈ blk ao ∨ w.heap.size ≤ q) ∧ Side hb w w2 := by
  have hgs : g ∈ blk ao ∨ w.heap.size ≤ g := by
    rcases hat with e | e
    · left
      cases ao with
      | none => cases e
      | some a => simp at e; simp [blk, e]
    · exact .inr e
  have hml := h.map.lt
  have hl := h.hlt
  have ngh : g ≠ hb := fun e => by rcases hgs with h1 | h1; exact h.nhr (e ▸ h1); omega
  have ngm : g ≠ gm := fun e => by rcases hgs with h1 | h1; exact h.ngr (e ▸ h1); omega
  have hlen : (l ++ [t]).length = l.length + 1 := by simp
  have k2 : Keep [hb] w1 w2 := by subst h2; exact Keep.setCell w1 ⟨hb, 2, none⟩ _
  have hl1 : hb < w1.heap.size := Nat.lt_of_lt_of_le hl k.size
  have cl1 : w1.cell? ⟨hb, 2, none⟩ = some (.slice ao l.length cap) := (k.cell hl h.nhr).trans h.cl
  have cm1 : w1.cell? ⟨hb, 3, none⟩ = some (.map (some gm)) := (k.cell hl h.nhr).trans h.cm
  have fr1 : w1.frozen? ⟨hb, 2, none⟩ = false := (k.frozen hl h.nhr).trans h.fr
  have hs2 := k2.size
  refine ⟨⟨?_, ?_, ?_, by omega, h.base, h.gbase, ?_, (h.map.keep k h.ngr).keep k2 (by simpa using h.nhg.symm), h.nhg, by simpa [blk] using ngh.symm, by simpa [blk] using ngm.symm, ?_, by rw [hlen]; omega⟩, ?_, fun q hq => ?_, (Side.of_keep k hl h.nhr).trans (by subst h2; exact Side.set _ _ _)⟩
  · rw [hlen]; subst h2; go_simp
  · subst h2; go_simp
  · subst h2; go_simp
  · rw [hlen, fl_app, fl_one]
    exact owns_keep hown k2 (blk_own _ _ _ (by simpa [blk] using ngh))
  · intro x hx
    rcases List.mem_append.1 hx with h1 | h1
    · exact h.ok x h1
    · simp at h1; subst h1; exact ht
  · exact (k.mono (fun q hq => .inl (by simp [hq]))).trans (k2.mono (fun q hq => .inl (by simp at hq; simp [hq])))
  · simp [blk] at hq; subst hq; exact hgs

set_option maxHeartbeats 4000000 in
theorem set_any {B hb gm : Nat} {ao : Option Addr} {cap : Nat} {l S : List Tm} {f : Nat → Option Nat} (w : World) (t : Tm) (ht : okT t) (hw : HpW w B hb gm l.length ao cap l f) (hs : HS l f S) (hser : ∀ x ∈ S, x.2.2 < t.2.2) (hroom : inS S t.1 = true ∨ l.length < 256) :
    Calls Try.prog 31 #[.pointer (some ⟨hb, 2, none⟩), agT t] w fun e w' => e = .returned (.tuple #[]) ∧ ∃ ao' cap' l' f', HpW w' B hb gm l'.length ao' cap' l' f' ∧ HS l' f' (wo S t.1 ++ [t]) ∧ Keep (hb :: gm :: blk ao) w w' ∧ (∀ g ∈ blk ao', g ∈ blk ao ∨ w.heap.size ≤ g) ∧ Side hb w w' := by
  have hb1 : Below w.heap.size w (w.alloc (boxo t)) := below_alloc (Below.refl _ _) _
  have hw1 := hw.below hb1
  obtain ⟨c, hr, hc⟩ := (hw1.below (Below.refl _ _).drew).map.look t.1 ht.1
  have hbx := BoxT.new w t
  have hng : w.heap.size ∉ hb :: gm :: blk ao := by
    have h0 := hw.hlt
    have h1 := hw.map.lt
    have h2 := owns_blk hw.own
    simp only [List.mem_cons, not_or]
    refine ⟨by omega, by omega, fun h => ?_⟩
    have := (h2 _ h).2
    omega
  have hf := hw.few
  have hbl := hw.hlt; have hnhg := hw.nhg; have hnhr := hw.nhr
  clear hw
  have HB1 := Lib.hid hb1; have HW1 := Lib.hid hw1; have HBX := Lib.hid hbx; have HT := Lib.hid ht; have HS0 := Lib.hid hs; have HSER := Lib.hid hser; have HNG := Lib.hid hng
  have c3 := hw1.cm
  obtain ⟨q0, q1, q2, q3⟩ := hbx
  clear hb1 hw1 ht hs hser hng
  have HC := Lib.hid hc; clear hc
  go_enter Try.func31, Try.ntmps31
  go_wp2_with fail
  generalize w.alloc (boxo t) = W at *
  generalize hbxe : w.heap.size = bx at *
  have HBE := Lib.hid hbxe; clear hbxe
  cases hft : f t.1 with
  | some i =>
    rw [hft] at hr
    have HF := Lib.hid hft; clear hft
    obtain rfl := HC.out i HF.out
    simp only [Option.isSome_some, if_true] at hr
    go_region
    have hwz := HW1.out.below (Below.refl _ W).drew
    have hbz := BoxT.below HBX.out (Below.refl _ W).drew
    have hdz : Below W.heap.size W W.drew := (Below.refl _ W).drew
    generalize World.drew W = wz at *
    clear hr q0 q1 q2 q3 c3
    obtain ⟨q0, q1, q2, q3⟩ := hbz
    have HWZ := Lib.hid hwz; have HDZ := Lib.hid hdz; clear hwz hdz
    have hq := HS0.out.at_ HF.out
    have HP := Lib.hid (settle_any wz t c HT.out (by omega) HWZ.out (HS0.out.st_in HF.out) ((HS0.out.perm_in HF.out).map (·.1) |>.nodup_iff.2 (dist_ids (dist_put HS0.out.dist t HSER.out))))
    go_wp2_with fail
    refine HP.out.mono ?_; rintro e w2 ⟨rfl, l', f', h2, full, k2⟩
    go_wp2_with fail
    go_end0
    have hlen : l'.length = l.length := by rw [full.perm.length_eq, List.length_set]
    have kk := (Keep.of_below (HBE.out ▸ HB1.out) (gm :: blk ao)).trans ((Keep.of_below HDZ.out (gm :: blk ao)).trans k2)
    rw [HF.out] at h2
    simp only [Option.isSome_some, if_true] at h2
    rw [← hlen] at h2
    exact ⟨rfl, ao, cap, l', f', h2, HS0.out.put_in HF.out HSER.out full, kk.mono (fun q hq => .inl (List.mem_cons_of_mem _ hq)), fun g hg => .inl hg, Side.of_keep kk (HBE.out ▸ hbl) (by simp; exact ⟨hnhg, hnhr⟩)⟩
  | none =>
    rw [hft] at hr
    have HF := Lib.hid hft; clear hft
    simp only [Option.isSome_none, Bool.false_eq_true, if_false] at hr
    go_region
    have hwz := HW1.out.below (Below.refl _ W).drew
    have hbz := BoxT.below HBX.out (Below.refl _ W).drew
    have hdz : Below W.heap.size W W.drew := (Below.refl _ W).drew
    generalize World.drew W = wz at *
    clear hr q0 q1 q2 q3 c3 HBX HW1
    obtain ⟨q0, q1, q2, q3⟩ := hbz
    have hkz := (Keep.of_below (HBE.out ▸ HB1.out) []).trans (Keep.of_below hdz [])
    have HWZ := Lib.hid hwz; have HKZ := Lib.hid hkz; clear hwz hdz hkz
    have c2 := HWZ.out.cl
    have fr := HWZ.out.fr
    have hlz := HWZ.out.hlt
    obtain ⟨i0, hi0, hz0, hz1, hz2⟩ := info_parts timer_info
    have HI0 := Lib.hid hi0; have HZ0 := Lib.hid hz0; have HZ1 := Lib.hid hz1; have HZ2 := Lib.hid hz2
    clear hi0 hz0 hz1 hz2
    go_wp2_with fail
    have hl256 : l.length < 256 := by
      rcases hroom with h | h
      · rw [← HS0.out.dom, HF.out] at h; cases h
      · exact h
    have hBz : B ≤ wz.heap.size := by have := HWZ.out.base; omega
    clear hroom
    go_region_law ((refine step_append_lies _ (by rfl) (.tmp 27) (.tmp 29) 57 (by rfl) B 66 i0 _ 3 24 Try.underlying57 HI0.out HZ0.out HZ1.out HZ2.out rfl (by omega) (.slice ao l.length cap) l.length (fl c3 l) (by rfl) ((HWZ.out.own.alloc _).drew) ⟨wz.heap.size, 0, none⟩ 1 1 (c3 t) (by rfl) (by rfl) (World.news_of_block (cs := #[.int .u64 (t.1 : Int), .int .i64 (t.2.1 : Int), .int .u64 (t.2.2 : Int)]) (t := 66) (fr := (0, 0)) (heap_alloc_new wz _)) (by simp [Value.oneCell', c3]) (by omega) (by unfold maxLen; omega) (by omega) (by simp; omega) (wz.heap.size + 1) (by simp) ?_; intro gg cap1 w1 hown1 hgrow hat hlt1; have kg := (Keep.of_below ((below_alloc (Below.refl _ wz) _).drew) (blk ao)).trans (keep_grown hgrow); have cl1 := (kg.cell hlz HWZ.out.nhr).trans HWZ.out.cl; have fr1 := (kg.frozen hlz HWZ.out.nhr).trans HWZ.out.fr))
    all_goals
      have hat' : some gg = ao.map (·.block) ∨ wz.heap.size ≤ gg := by
        rcases hat with h | h
        · left; rw [← h]; cases ao <;> rfl
        · right; omega
      generalize hw2 : w1.setCell _ _ = w2
      obtain ⟨h2, k2, hb2, sd2⟩ := HWZ.out.grow t HT.out hl256 hown1 kg hat' hlt1 hw2.symm
      obtain ⟨z0, z1, z2, z3⟩ := BoxT.keep (t := t) (bx := bx) ⟨q0, q1, q2, q3⟩ k2 HNG.out
      have hk2 := (HKZ.out.mono (T := hb :: gm :: blk ao) (by simp)).trans k2
      have hsz := HKZ.out.size
      have HSD := Lib.hid ((Side.of_keep HKZ.out (HBE.out ▸ hbl) (by simp)).trans sd2); have HB2 := Lib.hid hb2; have HK2 := Lib.hid hk2; have HW2 := Lib.hid h2
      clear hw2 hb2 hk2 h2 sd2 k2 q0 q1 q2 q3 cl1 fr1 kg hat hat' hgrow hown1 c2 fr
      have hids : Ids ((l ++ [t]).set l.length t) := by rw [set_last]; exact Ids.perm (HS0.out.perm_new HF.out) (dist_ids (dist_put HS0.out.dist t HSER.out))
      have HP := Lib.hid (settle_any w2 t l.length HT.out (by omega) HW2.out (HS0.out.st_new t) hids)
      clear hids
      go_wp2_with fail
      refine HP.out.mono ?_; rintro e w3 ⟨rfl, l', f', h3, full, k3⟩
      go_wp2_with fail
      go_end0
      have hlen : l'.length = l.length + 1 := by rw [full.perm.length_eq, List.length_set, List.length_append]; rfl
      rw [HF.out] at h3
      simp only [Option.isSome_none, Bool.false_eq_true, if_false] at h3
      rw [← hlen] at h3
      have kk : Keep (hb :: gm :: (blk ao ++ [gg])) w w3 := (HK2.out.mono (T := hb :: gm :: (blk ao ++ [gg])) (fun q hq => .inl (by simp at hq ⊢; rcases hq with h | h | h <;> simp [h]))).trans (k3.mono (fun q hq => .inl (by simp [blk] at hq ⊢; rcases hq with h | h <;> simp [h])))
      refine ⟨rfl, _, cap1, l', f', h3, HS0.out.put_new HF.out HSER.out full, kk.mono (fun q hq => ?_), fun q hq => ?_, HSD.out.trans (Side.of_keep k3 HW2.out.hlt (by have h1 := HW2.out.nhg; have h2 := HW2.out.nhr; simp only [List.mem_cons, not_or]; exact ⟨h1, h2⟩))⟩
      · simp only [List.mem_cons, List.mem_append, List.not_mem_nil, or_false] at hq ⊢
        rcases hq with h | h | h | h
        · exact .inl (.inl h)
        · exact .inl (.inr (.inl h))
        · exact .inl (.inr (.inr h))
        · rcases HB2.out q (by simp [blk, h]) with h1 | h1
          · exact .inl (.inr (.inr h1))
          · right; omega
      · rcases HB2.out q hq with h1 | h1
        · exact .inl h1
        · right; omega
end Go.Proofs.Ytkhfbnlmjnbhmaa
