/- ProposerOneValue: the walk. -/
import Derived.Test.YtgfalpiifgoonaaSet
import Derived.Test.YtgfalpiifgoonaaStAny
namespace Go.Proofs.Ytgfalpiifgoonaa
open Go.RowKit Go.Sort
set_option linter.unusedVariables false
set_option linter.unusedSectionVars false
set_option linter.unusedSimpArgs false
set_option maxRecDepth 100000
theorem EvsRd.fn {W : World} {ao : Option Addr} {len : Nat} (h : EvsRd W ao len) : ∃ sc : Nat → Evn, ∀ k, k < len → ∃ g o, ao = some ⟨g, o, none⟩ ∧ (sc k).Ok ∧ g < W.heap.size ∧ AtE W g o 4 k (cE (sc k)) := by
  refine ⟨fun k => if hk : k < len then Classical.choose (Classical.choose_spec (Classical.choose_spec (h k hk))) else ⟨0, 0, 0, nov⟩, fun k hk => ?_⟩
  have := Classical.choose_spec (Classical.choose_spec (Classical.choose_spec (h k hk)))
  refine ⟨_, _, this.1, ?_⟩
  simp only [dif_pos hk]
  exact this.2
section
variable {w w' : World} {B xb n c d : Nat} {tg tg' : Nat → Nat} {H : Hd} {vote : ByteArray} {x : PX} {U : List Nat}
theorem owns_at {e : TypeId} {z m : Nat} {v : Value} {xs : List Value} (h : w.ownsRow B e z v m xs) (hb : ∀ g, v.ownBlock = some g → w'.heap[g]? = w.heap[g]?) : w'.ownsRow B e z v m xs := by
  refine ⟨h.1, ?_⟩
  rcases h.2 with h2 | ⟨g, cap, cur, rfl, hb2, hg, h3⟩
  · exact .inl h2
  · exact .inr ⟨g, cap, cur, rfl, hb2, (hb g rfl).trans hg, h3⟩
/-- the law's own blocks turn -/
theorem Parts.keep4 (h : Parts w B n tg H c d x) (k : Keep U w w') (hU : ∀ g ∈ U, tg g = 4) : Parts w' B n tg H c d x where
  n1 := h.n1
  n5 := h.n5
  sA := owns_keep h.sA k (blk_own _ _ _ fun g hg => by obtain rfl : g = H.aA := by simpa [blk] using hg
                                                       exact not_own hU h.tA (by decide))
  sP := owns_keep h.sP k (blk_own _ _ _ fun g hg => by obtain rfl : g = H.aP := by simpa [blk] using hg
                                                       exact not_own hU h.tP (by decide))
  sL := owns_keep h.sL k (blk_own _ _ _ fun g hg => by obtain rfl : g = H.aL := by simpa [blk] using hg
                                                       exact not_own hU h.tL (by decide))
  tA := h.tA
  tP := h.tP
  tL := h.tL
  tab := fun i hi => let ⟨h1, h2, h3⟩ := h.tab i hi; ⟨h1.keep k (not_own hU h2 (by omega)) (not_own hU h3 (by omega)), h2, h3⟩
  pro := fun i hi => let ⟨h1, h2, h3⟩ := h.pro i hi; ⟨h1.keep k (not_own hU h2 (by omega)) (not_own hU h3 (by omega)), h2, h3⟩
  lea := fun i hi => let ⟨h1, h2, h3⟩ := h.lea i hi; ⟨h1.keep k (not_own hU h2 (by omega)) (not_own hU h3 (by omega)), h2, h3⟩
  msg := fun i h2 h5 => let ⟨g1, g2⟩ := h.msg i h2 h5; ⟨owns_keep g1 k (blk_own _ _ _ fun g hg => not_own hU (g2 g hg) (by omega)), g2⟩
  mok := h.mok
  len := h.len
theorem WdW.keep4 (h : WdW w B xb n tg H c d vote x) (k : Keep U w w') (hU : ∀ g ∈ U, tg g = 4) : WdW w' B xb n tg H c d vote x :=
  ⟨h.pt.keep4 k hU, row_keep h.row k fun hm => by have := hU _ hm; rw [h.xt] at this; omega, h.xt, h.base⟩
end
/-- what was proposed, as cells -/
abbrev strs (l : List ByteArray) : List Value := l.map Value.string
/-- what was proposed: a slice of the law's own -/
structure Prop4 (w : World) (B : Nat) (tg : Nat → Nat) (v : Value) (l : List ByteArray) : Prop where
  own : w.ownsRow B 9 1 v l.length (strs l)
  t4 : ∀ g, v.ownBlock = some g → tg g = 4
theorem Prop4.trn {w w' : World} {B : Nat} {tg tg' : Nat → Nat} {v : Value} {l : List ByteArray} (h : Prop4 w B tg v l) (t : Trn B tg tg' w w') : Prop4 w' B tg' v l := by
  have hlt : ∀ g, v.ownBlock = some g → g < w.heap.size := fun g hg => by
    rcases h.own.2 with ⟨h2, _⟩ | ⟨g', cap, cur, rfl, _, hg', _⟩
    · rw [h2] at hg; cases hg
    · cases hg; exact (Array.getElem?_eq_some_iff.1 hg').1
  exact ⟨owns_at h.own fun g hg => (t.own g (hlt g hg) (h.t4 g hg)).1, fun g hg => (t.own g (hlt g hg) (h.t4 g hg)).2⟩
theorem Prop4.below {w w' : World} {B : Nat} {tg : Nat → Nat} {v : Value} {l : List ByteArray} (h : Prop4 w B tg v l) (b : Below w.heap.size w w') : Prop4 w' B tg v l :=
  ⟨owns_keep h.own (Keep.of_below b []) (by simp), h.t4⟩
theorem string_info : (Try.prog.info? 9).map (fun i => (i.zero, i.size, i.bytes)) = some (some (.string ⟨#[]⟩), 1, 16) := by kernel_rfl
theorem ptr_infoA : (Try.prog.info? 67).map (fun i => (i.zero, i.size, i.bytes)) = some (some (.pointer none), 1, 8) := by kernel_rfl
theorem ptr_infoP : (Try.prog.info? 23).map (fun i => (i.zero, i.size, i.bytes)) = some (some (.pointer none), 1, 8) := by kernel_rfl
theorem ptr_infoL : (Try.prog.info? 27).map (fun i => (i.zero, i.size, i.bytes)) = some (some (.pointer none), 1, 8) := by kernel_rfl
theorem one_ptr (a : Option Addr) : ∀ u ∈ [Value.pointer a], u.oneCell' = true := by intro u hu; simp at hu; subst hu; rfl
theorem one_str (s : ByteArray) : ∀ u ∈ [Value.string s], u.oneCell' = true := by intro u hu; simp at hu; subst hu; rfl
/-- what the three learners that were asked so far have told -/
def Heard (x : PX) (sm : Bool) (vv : ByteArray) : Prop := (sm = true → ∃ j, j < 3 ∧ (x.L j).ch.is = true ∧ (x.L j).ch.v = vv) ∧ (sm = false → vv = nov)
theorem str_eq (a b : ByteArray) : (a.toList == b.toList) = decide (a = b) := by
  rw [Lib.toList_data, Lib.toList_data]
  by_cases h : a = b
  · subst h; simp
  · rw [decide_eq_false h]
    have : ¬ a.data.toList = b.data.toList := fun e => h (ByteArray.ext (Array.ext' e))
    simpa using this
theorem str_ne {a b : ByteArray} (h : ¬ a = b) : (a.toList == b.toList) = false := by rw [str_eq, decide_eq_false h]
set_option maxHeartbeats 16000000 in
theorem proposerOneValue_law (z0 : Int) (wz : (Lit.int .i64 z0).wf = true) (vote : ByteArray) (hvs : vote.size ≤ 281474976710656) (ao : Option Addr) (len cap : Nat) (hc : len ≤ cap) (hm : cap ≤ maxLen) (W : World) (hr : EvsRd W ao len) :
    Calls Try.prog 4 #[.int .i64 z0, .string vote, .slice ao len cap] W (LawOk W) := by
  obtain ⟨sc, hsc⟩ := hr.fn
  have HSC := Lib.hid hsc
  have HVS := Lib.hid hvs
  have hlen : (len : Int) ≤ 9223372036854775807 := by unfold maxLen at hm; omega
  have CP := Lib.hid (fun w => pick_any z0 wz 5 (by omega) (by omega) w)
  have hp5 := pk_lt z0 (n := 5) (by omega)
  generalize pk z0 5 = p at *
  obtain ⟨n, hn⟩ : ∃ n, n = 1 + p := ⟨_, rfl⟩
  have hni : 1 + (p : Int) = (n : Int) := by omega
  have hn1 : 1 ≤ n := by omega
  have hn5 : n ≤ 5 := by omega
  have hpi : (p : Int) ≤ 4 := by omega
  have HN := Lib.hid (fun w => new_yes 1 (by omega) (by omega) w)
  clear hr hc hm hsc wz hn hp5 hvs
  go_enter Try.func4, Try.ntmps4
  go_wp2_with fail
  refine (CP.out _).mono ?_; rintro e w1 ⟨rfl, rfl⟩
  go_upto_region 3 with (fail)
  have P0 : Hid (Pre (W.alloc (.cells #[.slice none 0 0, .slice none 0 0, .slice none 0 0, .int .u32 0, .string vote, .slice none 0 0, .slice none 0 0, .slice none 0 0, .slice none 0 0, .slice none 0 0, .slice none 0 0] 66)) W.heap.size W.heap.size (fun _ => 0) vote (fun _ => none) (fun _ => 0) (fun _ => []) []) := Lib.hid ⟨heap_alloc_new _ _, rfl, Nat.le_refl _, fun i hi => ⟨⟨rfl, .inl ⟨rfl, rfl⟩⟩, fun g hg => by simp [blk] at hg⟩, fun q hq => by cases hq⟩
  have B0 := Lib.hid (below_alloc (Below.refl W.heap.size W) (.cells #[.slice none 0 0, .slice none 0 0, .slice none 0 0, .int .u32 0, .string vote, .slice none 0 0, .slice none 0 0, .slice none 0 0, .slice none 0 0, .slice none 0 0, .slice none 0 0] 66))
  generalize W.alloc (.cells #[.slice none 0 0, .slice none 0 0, .slice none 0 0, .int .u32 0, .string vote, .slice none 0 0, .slice none 0 0, .slice none 0 0, .slice none 0 0, .slice none 0 0, .slice none 0 0] 66) = w0 at *
  obtain ⟨xb, hxb⟩ : ∃ q, q = W.heap.size := ⟨_, rfl⟩
  rw [← hxb]
  have P0 : Hid (Pre w0 W.heap.size xb (fun _ => 0) vote (fun _ => none) (fun _ => 0) (fun _ => []) []) := Lib.hid (hxb ▸ P0.out)
  clear CP hni hpi hxb
  go_wp2_with fail
  go_loopw [8, 9, 10] (fun v8 v9 v10 wr => ∃ (k : Nat) (tg : Nat → Nat) (s : Nat → Option Addr) (c : Nat → Nat) (p : Nat → List Value) (T : List It) (hA gA : Nat → Nat), v8 = .int .i64 (k : Int) ∧ k ≤ n ∧ Pre wr W.heap.size xb tg vote s c p T ∧ Below W.heap.size W wr ∧ p 0 = ptrs k hA ∧ p 1 = [] ∧ p 2 = [] ∧ ∀ i, i < k → tabIt W.heap.size i (hA i) (gA i) ∈ T) (fun v8 _ _ _ => n - (intOf v8).toNat)
  case atStart => exact ⟨0, _, _, _, _, _, fun _ => 0, fun _ => 0, rfl, Nat.zero_le _, P0.out, B0.out, rfl, rfl, rfl, fun i hi => absurd hi (Nat.not_lt_zero _)⟩
  case round =>
    obtain ⟨k, tg, s, c, p, T, hA, gA, rfl, hk, hP, hB, p0, p1, p2, hT⟩ := hrel
    clear P0 B0
    by_cases hkn : k < n
    · have hki : (k : Int) < (n : Int) := by omega
      have HP := Lib.hid hP; have HB := Lib.hid hB; have HP0 := Lib.hid p0; have HP1 := Lib.hid p1; have HP2 := Lib.hid p2; have HT := Lib.hid hT
      clear hP hB p0 p1 p2 hT
      go_wp2_with fail
      refine (HN.out _).mono ?_; rintro e wq ⟨hn_, gm_, rfl, t1, b1⟩
      have hBr : W.heap.size ≤ wr.heap.size := HB.out.size
      have HQ := Lib.hid (HP.out.add b1 (tabIt W.heap.size k hn_ gm_) ⟨t1.map, t1.row, Nat.le_trans hBr t1.base, Nat.le_trans hBr t1.gbase, t1.ne, t1.m1, t1.m2, t1.few⟩ (by simp [tabIt]) (fun g hg => by
        simp only [tabIt, List.mem_cons, List.not_mem_nil, or_false] at hg
        rcases hg with rfl | rfl
        · exact t1.base
        · exact t1.gbase))
      have HB1 := Lib.hid (HB.out.trans (b1.mono hBr))
      clear t1 b1 hBr
      have y0 := HQ.out.cell (i := 0) (by omega)
      obtain ⟨so0, hso0⟩ : ∃ q, s 0 = q := ⟨_, rfl⟩
      obtain ⟨sc0, hsc0⟩ : ∃ q, c 0 = q := ⟨_, rfl⟩
      obtain ⟨sn0, hsn0⟩ : ∃ q, (p 0).length = q := ⟨_, rfl⟩
      simp only [slS, hso0, hsc0, hsn0] at y0
      have OWN0 : Hid (wq.ownsRow W.heap.size 67 1 (.slice so0 sn0 sc0) sn0 (p 0)) := Lib.hid (by have := (HQ.out.sl 0 (by omega)).1; simp only [slS, hso0, hsc0, hsn0] at this; exact this)
      have HSN0 : Hid (sn0 ≤ 5) := Lib.hid (by rw [← hsn0]; rw [HP0.out]; simp [ptrs]; omega)
      obtain ⟨i0, hi0, hz0, hz1, hz2⟩ := info_parts ptr_infoA
      have HI := Lib.hid hi0; have HZ0 := Lib.hid hz0; have HZ1 := Lib.hid hz1; have HZ2 := Lib.hid hz2
      have HSO0 := Lib.hid hso0; have HSC0 := Lib.hid hsc0; have HSM0 := Lib.hid hsn0
      clear hi0 hz0 hz1 hz2 hso0 hsc0 hsn0
      have HBq : Hid (W.heap.size ≤ wq.heap.size) := Lib.hid (by have := HQ.out.base; have := HQ.out.lt; omega)
      go_upto_region 5 with (at_builtin; refine wpList_append_lies _ rfl (.tmp 45) (.tmp 47) 60 rfl W.heap.size 67 i0 _ 1 8 (by kernel_rfl) HI.out HZ0.out HZ1.out HZ2.out rfl (by omega) (.slice so0 sn0 sc0) sn0 (p 0) rfl (owns_keep OWN0.out (Keep.of_below (below_alloc (Below.refl _ wq) _) []) (by simp)) ⟨wq.heap.size, 0, none⟩ 1 1 [.pointer (some ⟨hn_, 0, none⟩)] rfl rfl (cell_one _ _ _) (one_ptr _) (by omega) (by have := HSN0.out; unfold maxLen; omega) (by have := HSN0.out; omega) (by have := HBq.out; simp; omega) _ rfl ?_; intro ga0 ca0 w3 own3 gr3 at3 lt3; have pu := HQ.out.push (i := 0) (v := .pointer (some ⟨hn_, 0, none⟩)) (by omega) (below_alloc (Below.refl wq.heap.size wq) _) (by simp only [HSM0.out]; exact own3) (by simp only [slS, HSO0.out, HSC0.out, HSM0.out]; exact gr3) (by simp only [slS, HSO0.out, HSC0.out, HSM0.out]; exact at3); simp only [slS, HSO0.out, HSC0.out, HSM0.out] at pu; have z0 := pu.2.1; have z1 := pu.2.2.1; have PU := Lib.hid pu.1; have PB := Lib.hid pu.2.2.2; clear pu own3 gr3 at3 lt3)
      clear y0 z0 z1 OWN0
      generalize w3.setCell ⟨xb, 0, none⟩ (.slice (some ⟨ga0, 0, none⟩) (sn0 + 1) ca0) = wq at *
      have HB2 := Lib.hid (HB1.out.trans PB.out)
      have HPU := PU
      clear PU PB HB HB1 HQ HP
      go_wp2_with fail
      go_roundw
      case rel => exact ⟨k + 1, _, _, _, _, _, fun i => if i = k then hn_ else hA i, fun i => if i = k then gm_ else gA i, by go_num, by omega, HPU.out, HB2.out, by simp only [if_pos]; rw [HP0.out]; exact ptrs_next _ _ _, by simp only [HP1.out]; rfl, by simp only [HP2.out]; rfl, fun i hi => by
        by_cases e : i = k
        · subst e; simp only [if_pos]; exact List.mem_cons_self ..
        · simp only [if_neg e]; exact List.mem_cons_of_mem _ (HT.out i (by omega))⟩
      case measure => simp [intOf]; omega
    · obtain rfl : k = n := by omega
      have P2 := Lib.hid (show ∃ (tg : Nat → Nat) (s : Nat → Option Addr) (c : Nat → Nat) (p : Nat → List Value) (T : List It) (hA gA : Nat → Nat), Pre wr W.heap.size xb tg vote s c p T ∧ Below W.heap.size W wr ∧ p 0 = ptrs k hA ∧ p 1 = [] ∧ p 2 = [] ∧ ∀ i, i < k → tabIt W.heap.size i (hA i) (gA i) ∈ T from ⟨tg, s, c, p, T, hA, gA, hP, hB, p0, p1, p2, hT⟩)
      clear hP hB p0 p1 p2 hT hkn hk s c p T hA gA tg HN
      generalize k = n at *
      have HPN := Lib.hid (fun j hj w => pnew_yes j n hn1 (by omega) hj w)
      have HLN := Lib.hid (fun w => lnew_yes n hn1 (by omega) w)
      go_wp2_with fail
      go_loopw [11, 12, 13, 14, 15] (fun v11 v12 v13 v14 v15 wr => ∃ (k : Nat) (tg : Nat → Nat) (s : Nat → Option Addr) (c : Nat → Nat) (p : Nat → List Value) (T : List It) (hA gA hP gP hL gL : Nat → Nat), v11 = .int .i64 (k : Int) ∧ k ≤ 3 ∧ Pre wr W.heap.size xb tg vote s c p T ∧ Below W.heap.size W wr ∧ p 0 = ptrs n hA ∧ p 1 = ptrs k hP ∧ p 2 = ptrs k hL ∧ (∀ i, i < n → tabIt W.heap.size i (hA i) (gA i) ∈ T) ∧ (∀ i, i < k → proIt W.heap.size n i (hP i) (gP i) ∈ T) ∧ (∀ i, i < k → leaIt W.heap.size n i (hL i) (gL i) ∈ T)) (fun v11 _ _ _ _ _ => 3 - (intOf v11).toNat)
      case atStart =>
        obtain ⟨tg, s, c, p, T, hA, gA, hP, hB, p0, p1, p2, hT⟩ := P2.out
        exact ⟨0, tg, s, c, p, T, hA, gA, fun _ => 0, fun _ => 0, fun _ => 0, fun _ => 0, rfl, Nat.zero_le _, hP, hB, p0, by rw [p1]; rfl, by rw [p2]; rfl, hT, fun i hi => absurd hi (Nat.not_lt_zero _), fun i hi => absurd hi (Nat.not_lt_zero _)⟩
      case round =>
        obtain ⟨k, tg, s, c, p, T, hA, gA, hP, gP, hL, gL, rfl, hk, hPr, hB, p0, p1, p2, hT, hTP, hTL⟩ := hrel
        clear P2
        by_cases hkn : k < 3
        · have hki : (k : Int) < 3 := by omega
          have HP := Lib.hid hPr; have HB := Lib.hid hB; have HP0 := Lib.hid p0; have HP1 := Lib.hid p1; have HP2 := Lib.hid p2; have HT := Lib.hid hT; have HTP := Lib.hid hTP; have HTL := Lib.hid hTL
          clear hPr hB p0 p1 p2 hT hTP hTL
          go_wp2_with fail
          refine (HPN.out k (by omega) _).mono ?_; rintro e w1 ⟨hn_, gm_, rfl, t1, b1⟩
          have hBr : W.heap.size ≤ wr.heap.size := HB.out.size
          have HQ := Lib.hid (HP.out.add b1 (proIt W.heap.size n k hn_ gm_) (t1.down hBr) (by simp only [proIt]; omega) (fun g hg => by
            simp only [proIt, List.mem_cons, List.not_mem_nil, or_false] at hg
            rcases hg with rfl | rfl
            · exact t1.base
            · exact t1.gbase))
          have HB1 := Lib.hid (HB.out.trans (b1.mono hBr))
          clear t1 b1 hBr
          go_wp2_with fail
          refine (HLN.out _).mono ?_; rintro e wq ⟨ln_, gl_, rfl, t1, b1⟩
          have hBr : W.heap.size ≤ w1.heap.size := HB1.out.size
          have HQ2 := Lib.hid (HQ.out.add b1 (leaIt W.heap.size n k ln_ gl_) (t1.down hBr) (by simp only [leaIt]; omega) (fun g hg => by
            simp only [leaIt, List.mem_cons, List.not_mem_nil, or_false] at hg
            rcases hg with rfl | rfl
            · exact t1.base
            · exact t1.gbase))
          have HB1 := Lib.hid (HB1.out.trans (b1.mono hBr))
          clear t1 b1 hBr HQ HP HB
          have y1 := HQ2.out.cell (i := 1) (by omega)
          obtain ⟨so1, hso1⟩ : ∃ q, s 1 = q := ⟨_, rfl⟩
          obtain ⟨sc1, hsc1⟩ : ∃ q, c 1 = q := ⟨_, rfl⟩
          obtain ⟨sn1, hsn1⟩ : ∃ q, (p 1).length = q := ⟨_, rfl⟩
          simp only [slS, hso1, hsc1, hsn1] at y1
          have OWN1 : Hid (wq.ownsRow W.heap.size 23 1 (.slice so1 sn1 sc1) sn1 (p 1)) := Lib.hid (by have := (HQ2.out.sl 1 (by omega)).1; simp only [slS, hso1, hsc1, hsn1] at this; exact this)
          have HSN1 : Hid (sn1 ≤ 5) := Lib.hid (by rw [← hsn1]; rw [HP1.out]; simp [ptrs]; omega)
          obtain ⟨i0, hi0, hz0, hz1, hz2⟩ := info_parts ptr_infoP
          have HI := Lib.hid hi0; have HZ0 := Lib.hid hz0; have HZ1 := Lib.hid hz1; have HZ2 := Lib.hid hz2
          have HSO1 := Lib.hid hso1; have HSC1 := Lib.hid hsc1; have HSM1 := Lib.hid hsn1
          clear hi0 hz0 hz1 hz2 hso1 hsc1 hsn1
          have HBq : Hid (W.heap.size ≤ wq.heap.size) := Lib.hid (by have := HQ2.out.base; have := HQ2.out.lt; omega)
          go_upto_region 14 with (at_builtin; refine wpList_append_lies _ rfl (.tmp 70) (.tmp 72) 61 rfl W.heap.size 23 i0 _ 1 8 (by kernel_rfl) HI.out HZ0.out HZ1.out HZ2.out rfl (by omega) (.slice so1 sn1 sc1) sn1 (p 1) rfl (owns_keep OWN1.out (Keep.of_below (below_alloc (Below.refl _ wq) _) []) (by simp)) ⟨wq.heap.size, 0, none⟩ 1 1 [.pointer (some ⟨hn_, 0, none⟩)] rfl rfl (cell_one _ _ _) (one_ptr _) (by omega) (by have := HSN1.out; unfold maxLen; omega) (by have := HSN1.out; omega) (by have := HBq.out; simp; omega) _ rfl ?_; intro ga1 ca1 w3 own3 gr3 at3 lt3; have pu := HQ2.out.push (i := 1) (v := .pointer (some ⟨hn_, 0, none⟩)) (by omega) (below_alloc (Below.refl wq.heap.size wq) _) (by simp only [HSM1.out]; exact own3) (by simp only [slS, HSO1.out, HSC1.out, HSM1.out]; exact gr3) (by simp only [slS, HSO1.out, HSC1.out, HSM1.out]; exact at3); simp only [slS, HSO1.out, HSC1.out, HSM1.out] at pu; have z0 := pu.2.1; have z1 := pu.2.2.1; have PU := Lib.hid pu.1; have PB := Lib.hid pu.2.2.2; clear pu own3 gr3 at3 lt3)
          clear y1 z0 z1 OWN1
          generalize w3.setCell ⟨xb, 1, none⟩ (.slice (some ⟨ga1, 0, none⟩) (sn1 + 1) ca1) = wq at *
          have HB2 := Lib.hid (HB1.out.trans PB.out)
          have HPU := PU
          clear PU PB HB1 HQ2
          obtain ⟨s1, hs1⟩ : ∃ q : Nat → Option Addr, q = fun j => if j = 1 then some ⟨ga1, 0, none⟩ else s j := ⟨_, rfl⟩
          obtain ⟨c1, hc1⟩ : ∃ q : Nat → Nat, q = fun j => if j = 1 then ca1 else c j := ⟨_, rfl⟩
          obtain ⟨p1, hp1⟩ : ∃ q : Nat → List Value, q = fun j => if j = 1 then p 1 ++ [.pointer (some ⟨hn_, 0, none⟩)] else p j := ⟨_, rfl⟩
          rw [← hs1, ← hc1, ← hp1] at HPU
          have HQ1 : Hid (p1 0 = p 0 ∧ p1 1 = p 1 ++ [.pointer (some ⟨hn_, 0, none⟩)] ∧ p1 2 = p 2) := Lib.hid (by rw [hp1]; exact ⟨rfl, rfl, rfl⟩)
          clear hs1 hc1 hp1 HSN1 HSO1 HSC1 HSM1 HI HZ0 HZ1 HZ2 HBq
          have y2 := HPU.out.cell (i := 2) (by omega)
          obtain ⟨so2, hso2⟩ : ∃ q, s1 2 = q := ⟨_, rfl⟩
          obtain ⟨sc2, hsc2⟩ : ∃ q, c1 2 = q := ⟨_, rfl⟩
          obtain ⟨sn2, hsn2⟩ : ∃ q, (p1 2).length = q := ⟨_, rfl⟩
          simp only [slS, hso2, hsc2, hsn2] at y2
          have OWN2 : Hid (wq.ownsRow W.heap.size 27 1 (.slice so2 sn2 sc2) sn2 (p1 2)) := Lib.hid (by have := (HPU.out.sl 2 (by omega)).1; simp only [slS, hso2, hsc2, hsn2] at this; exact this)
          have HSN2 : Hid (sn2 ≤ 5) := Lib.hid (by rw [← hsn2]; rw [HQ1.out.2.2, HP2.out]; simp [ptrs]; omega)
          obtain ⟨i0, hi0, hz0, hz1, hz2⟩ := info_parts ptr_infoL
          have HI := Lib.hid hi0; have HZ0 := Lib.hid hz0; have HZ1 := Lib.hid hz1; have HZ2 := Lib.hid hz2
          have HSO2 := Lib.hid hso2; have HSC2 := Lib.hid hsc2; have HSM2 := Lib.hid hsn2
          clear hi0 hz0 hz1 hz2 hso2 hsc2 hsn2
          have HBq : Hid (W.heap.size ≤ wq.heap.size) := Lib.hid (by have := HPU.out.base; have := HPU.out.lt; omega)
          go_upto_region 15 with (at_builtin; refine wpList_append_lies _ rfl (.tmp 80) (.tmp 82) 62 rfl W.heap.size 27 i0 _ 1 8 (by kernel_rfl) HI.out HZ0.out HZ1.out HZ2.out rfl (by omega) (.slice so2 sn2 sc2) sn2 (p1 2) rfl (owns_keep OWN2.out (Keep.of_below (below_alloc (Below.refl _ wq) _) []) (by simp)) ⟨wq.heap.size, 0, none⟩ 1 1 [.pointer (some ⟨ln_, 0, none⟩)] rfl rfl (cell_one _ _ _) (one_ptr _) (by omega) (by have := HSN2.out; unfold maxLen; omega) (by have := HSN2.out; omega) (by have := HBq.out; simp; omega) _ rfl ?_; intro ga2 ca2 w3 own3 gr3 at3 lt3; have pu := HPU.out.push (i := 2) (v := .pointer (some ⟨ln_, 0, none⟩)) (by omega) (below_alloc (Below.refl wq.heap.size wq) _) (by simp only [HSM2.out]; exact own3) (by simp only [slS, HSO2.out, HSC2.out, HSM2.out]; exact gr3) (by simp only [slS, HSO2.out, HSC2.out, HSM2.out]; exact at3); simp only [slS, HSO2.out, HSC2.out, HSM2.out] at pu; have z0 := pu.2.1; have z1 := pu.2.2.1; have PU := Lib.hid pu.1; have PB := Lib.hid pu.2.2.2; clear pu own3 gr3 at3 lt3)
          clear y2 z0 z1 OWN2
          generalize w3.setCell ⟨xb, 2, none⟩ (.slice (some ⟨ga2, 0, none⟩) (sn2 + 1) ca2) = wq at *
          have HB3 := Lib.hid (HB2.out.trans PB.out)
          have HPV := PU
          clear PU PB HB2 HPU
          go_wp2_with fail
          refine (alive_any _).mono ?_; rintro e w9 ⟨rfl, b9⟩
          have HPW := Lib.hid (HPV.out.below b9)
          have HB4 := Lib.hid (HB3.out.trans (b9.mono HB3.out.size))
          clear b9
          go_wp2_with fail
          go_roundw
          case rel => exact ⟨k + 1, _, _, _, _, _, hA, gA, fun i => if i = k then hn_ else hP i, fun i => if i = k then gm_ else gP i, fun i => if i = k then ln_ else hL i, fun i => if i = k then gl_ else gL i, by go_num, by omega, HPW.out, HB4.out, by simp only [HQ1.out.1]; exact HP0.out, by simp only [HQ1.out.2.1, HP1.out]; exact ptrs_next _ _ _, by simp only [HQ1.out.2.2, HP2.out]; exact ptrs_next _ _ _, fun i hi => List.mem_cons_of_mem _ (List.mem_cons_of_mem _ (HT.out i hi)), fun i hi => by
            by_cases e : i = k
            · subst e; simp only [if_pos]; exact List.mem_cons_of_mem _ (List.mem_cons_self ..)
            · simp only [if_neg e]; exact List.mem_cons_of_mem _ (List.mem_cons_of_mem _ (HTP.out i (by omega))), fun i hi => by
            by_cases e : i = k
            · subst e; simp only [if_pos]; exact List.mem_cons_self ..
            · simp only [if_neg e]; exact List.mem_cons_of_mem _ (List.mem_cons_of_mem _ (HTL.out i (by omega)))⟩
          case measure => simp [intOf]; omega
        · obtain rfl : k = 3 := by omega
          rw [show ((3 : Nat) : Int) = 3 from rfl]
          obtain ⟨H, hw0⟩ := hPr.all hn1 hn5 p0 p1 p2 hT hTP hTL
          have HW0 := Lib.hid hw0
          have HB0 := Lib.hid hB
          clear hPr hB p0 p1 p2 hT hTP hTL hw0 hkn hk s c p T hA gA hP gP hL gL HPN HLN
          obtain ⟨wb, hwb⟩ : ∃ q, q = wr := ⟨_, rfl⟩
          rw [← hwb] at HW0 HB0 ⊢
          clear hwb wr
          go_wp2_with fail
          go_loopw [16] (fun v16 wr => ∃ k : Nat, v16 = .int .i64 (k : Int) ∧ k ≤ n ∧ wr = wb) (fun v16 _ => n - (intOf v16).toNat)
          case atStart => exact ⟨0, rfl, Nat.zero_le _, rfl⟩
          case round =>
            obtain ⟨k, rfl, hk, rfl⟩ := hrel
            by_cases hkn : k < n
            · have hki : (k : Int) < (n : Int) := by omega
              have hk0 : (0 : Int) ≤ (k : Int) := by omega
              have y0 := HW0.out.acc
              obtain ⟨ga, pv, ea, _, _, ea2, ea3, _⟩ := owns_cell1 HW0.out.pt.sA k hkn
              obtain rfl : H.aA = ga := by simpa using ea
              obtain rfl : pv = .pointer (some ⟨H.hA k, 0, none⟩) := by
                simp only [ptrs, List.getElem?_map, List.getElem?_range hkn, Option.map_some, Option.some.injEq] at ea2
                exact ea2.symm
              clear ea ea2
              go_wp2_with fail
              go_roundw
              case rel => exact ⟨k + 1, by go_num, by omega, trivial⟩
              case measure => simp [intOf]; omega
            · obtain rfl : k = n := by omega
              clear hkn hk
              generalize k = n at *
              go_upto_region 23 with (fail)
              have bq := below_alloc (Below.refl wr.heap.size wr) (.cells #[.string vote] 9)
              have hw1 := HW0.out.ours.below bq
              have pr1 : Prop4 (wr.alloc (.cells #[.string vote] 9)) W.heap.size (ours tg wr.heap.size) (.slice (some ⟨wr.heap.size, 0, none⟩) 1 1) [vote] := ⟨⟨rfl, .inr ⟨wr.heap.size, 1, #[.string vote], rfl, HB0.out.size, heap_alloc_new _ _, Nat.le_refl _, by decide, rfl, rfl⟩⟩, fun g hg => by
                have : g = wr.heap.size := by simpa [Value.ownBlock] using hg.symm
                rw [this]; exact ours_ge (Nat.le_refl _)⟩
              have HW1 := Lib.hid hw1; have PR1 := Lib.hid pr1
              have HB1 := Lib.hid (HB0.out.trans (bq.mono HB0.out.size))
              clear hw1 pr1 bq HW0 HB0
              generalize wr.alloc (.cells #[.string vote] 9) = w5 at *
              generalize wr.heap.size = pb at *
              obtain ⟨tg0, htg0⟩ : ∃ q, q = ours tg pb := ⟨_, rfl⟩
              rw [← htg0] at HW1 PR1
              clear htg0
              go_wp2_with fail
              go_loopw [17, 18, 19, 20, 21, 22, 23, 24, 25] (fun v17 v18 v19 v20 v21 v22 v23 v24 v25 wr => ∃ (k : Nat) (tg : Nat → Nat) (H : Hd) (x : PX), v18 = .int .i64 (k : Int) ∧ k ≤ len ∧ k ≤ 400 ∧ WdW wr W.heap.size xb n tg H k (5 * k) vote x ∧ x.Inv n vote ∧ x.Nn n ∧ x.rd ≤ (k : Int) ∧ vote ∈ x.ds ∧ Prop4 wr W.heap.size tg v17 x.ds ∧ x.ds.length ≤ k + 1 ∧ Below W.heap.size W wr) (fun _ v18 _ _ _ _ _ _ _ _ => len - (intOf v18).toNat)
              case atStart => exact ⟨0, _, H, _, rfl, Nat.zero_le _, Nat.zero_le _, HW1.out, inv_zero (fun _ => rfl) (fun _ _ => ⟨rfl, rfl⟩) (fun _ _ => ⟨rfl, fun i y hy => by
                simp only [none9, List.getElem?_replicate] at hy
                split at hy
                · injection hy with hy; rw [← hy]
                · cases hy⟩), fun i hi _ => rfl, Int.le_refl _, List.mem_cons_self .., PR1.out, Nat.le_refl _, HB1.out⟩
              case round =>
                obtain ⟨k, tg, H, x, rfl, hk1, hk2, hw, hin, hna, hrd, hvd, hpr, hdl, hB⟩ := hrel
                clear HW1 PR1 HB1
                by_cases hlt : k < len ∧ k < 400
                · obtain ⟨g, o, hao, hq, hg, hat⟩ := HSC.out k hlt.1
                  subst hao
                  have hlt1 : (k : Int) < (len : Int) := by omega
                  have hlt2 : (k : Int) < 400 := by omega
                  have hkp : (0 : Int) ≤ (k : Int) := by omega
                  have hatw := hat.from hg hB
                  generalize sc k = q at *
                  have a1 := hatw 0 _ rfl; have a2 := hatw 1 _ rfl; have a3 := hatw 2 _ rfl; have a4 := hatw 3 _ rfl
                  rw [Nat.add_zero] at a1
                  have ST := Lib.hid (step_any q.kind q.a q.b q.v hq.k hq.a hq.b hq.v wr hw (by omega) (by omega) (by omega) HVS.out hvd hin hna)
                  have HAT := Lib.hid hat; have HG := Lib.hid hg; have HPR := Lib.hid hpr; have HB := Lib.hid hB; have HVD := Lib.hid hvd; have HRD := Lib.hid hrd; have HDL := Lib.hid hdl
                  clear hat hg hpr hB hvd hrd hdl hw hin hna hatw hq
                  go_wp2_with fail
                  refine ST.out.mono ?_; rintro e w1 ⟨rfl, tg1, H1, x1, hw1, hin1, htr, hds, hrd1, hna1⟩
                  have hb1 := HB.out.trans htr.bel
                  have hatw := HAT.out.from HG.out hb1
                  have HPR1 := Lib.hid (HPR.out.trn htr)
                  have HW1 := Lib.hid hw1; have HIN := Lib.hid hin1; have HNA := Lib.hid hna1; have HDS := Lib.hid hds; have HRD1 := Lib.hid hrd1; have HB1 := Lib.hid hb1
                  clear a1 a2 a3 a4 hw1 hin1 htr hds hrd1 hna1 hb1 ST HPR HB
                  have a1 := hatw 0 _ rfl; have a4 := hatw 3 _ rfl
                  rw [Nat.add_zero] at a1
                  clear hatw
                  go_upto_if 132 with (fail)
                  clear a1
                  obtain ⟨po, pc, hv17, _, _⟩ := owns_shape HPR1.out.own
                  subst hv17
                  obtain ⟨dn, hdn⟩ : ∃ m, x.ds.length = m := ⟨_, rfl⟩
                  have HDN := Lib.hid hdn
                  rw [hdn]
                  clear hdn
                  go_cut [17] from 132 to 140 (fun s17 wx => ∃ tg2, WdW wx W.heap.size xb n tg2 H1 (k + 1) (5 * k + 5) vote x1 ∧ Prop4 wx W.heap.size tg2 s17 x1.ds ∧ Below W.heap.size W wx)
                  case first =>
                    as_aux_lemma =>
                      by_cases hz : q.kind = 0
                      · have hds := HDS.out
                        rw [if_pos hz] at hds
                        have hzd : decide (q.kind = 0) = true := decide_eq_true hz
                        have hzb : (q.kind == 0) = true := by simp [hz]
                        replace hz := Lib.hid hz
                        have OWN : Hid (w1.ownsRow W.heap.size 9 1 (.slice po dn pc) dn (strs x.ds)) := Lib.hid (by have := HPR1.out.own; rw [HDN.out] at this; exact this)
                        have T4 : Hid (∀ g ∈ blk po, tg1 g = 4) := Lib.hid (fun g hg => HPR1.out.t4 g (by
                          cases po with
                          | none => simp [blk] at hg
                          | some a => simp [blk] at hg; simp [Value.ownBlock, hg]))
                        have HDNB : Hid (dn ≤ 401) := Lib.hid (by have := HDL.out; rw [HDN.out] at this; omega)
                        obtain ⟨i0, hi0, hz0, hz1, hz2⟩ := info_parts string_info
                        have HI := Lib.hid hi0; have HZ0 := Lib.hid hz0; have HZ1 := Lib.hid hz1; have HZ2 := Lib.hid hz2
                        have HBq : Hid (W.heap.size ≤ w1.heap.size) := Lib.hid HB1.out.size
                        clear hi0 hz0 hz1 hz2
                        have HHDS := Lib.hid hds
                        clear hds
                        go_wp2_with (at_builtin; refine wpList_append_lies _ rfl (.tmp 133) (.tmp 139) 70 rfl W.heap.size 9 i0 _ 1 16 (by kernel_rfl) HI.out HZ0.out HZ1.out HZ2.out rfl (by omega) (.slice po dn pc) dn (strs x.ds) rfl (owns_keep OWN.out (Keep.of_below (below_alloc (Below.refl _ w1) _) []) (by simp)) ⟨w1.heap.size, 0, none⟩ 1 1 [.string q.v] rfl rfl (cell_one _ _ _) (one_str _) (by omega) (by have := HDNB.out; unfold maxLen; omega) (by have := HDNB.out; omega) (by have := HBq.out; simp; omega) _ rfl ?_; intro g9 cap9 w3 own3 gr3 at3 lt3)
                        go_meet
                        have bq := below_alloc (Below.refl w1.heap.size w1) (.cells #[.string q.v] 9)
                        have hg9 : ∀ b, b < (w1.alloc (.cells #[.string q.v] 9)).heap.size → own2 tg1 (some ⟨g9, 0, none⟩) 4 b = tg1 b := fun b hb => by
                          unfold own2
                          by_cases hm : b ∈ blk (some (⟨g9, 0, none⟩ : Addr))
                          · rw [if_pos hm]
                            have hm : b = g9 := by simpa [blk] using hm
                            subst hm
                            rcases at3 with e | e
                            · exact (T4.out b (by
                                cases po with
                                | none => cases e
                                | some a => simp [Value.ownBlock] at e; simp [blk, e])).symm
                            · omega
                          · rw [if_neg hm]
                        refine ⟨own2 tg1 (some ⟨g9, 0, none⟩) 4, ((HW1.out.below bq).retag hg9).keep4 (keep_grown gr3) (fun b hb => ?_), ⟨?_, fun b hb => ?_⟩, (HB1.out.trans (bq.mono HBq.out)).trans ((keep_grown gr3).below (by have := HBq.out; simp; omega) fun b hb => (owns_blk OWN.out b hb).1)⟩
                        · unfold own2
                          split
                          · rfl
                          · exact T4.out b hb
                        · rw [HHDS.out]
                          simp only [strs, List.length_append, List.length_singleton, List.map_append, List.map_singleton, HDN.out]
                          exact own3
                        · have : b = g9 := by simpa [Value.ownBlock] using hb.symm
                          rw [this]; simp [own2, blk]
                      · have hds := HDS.out
                        rw [if_neg hz] at hds
                        have hzd : decide (q.kind = 0) = false := decide_eq_false hz
                        have hzb : (q.kind == 0) = false := by simp [hz]
                        replace hz := Lib.hid hz
                        have HHDS := Lib.hid hds
                        clear hds a4
                        go_wp2_with fail
                        go_meet
                        refine ⟨tg1, HW1.out, ?_, HB1.out⟩
                        have := HPR1.out
                        rw [HHDS.out, ← HDN.out]
                        exact this
                  case rest =>
                    obtain ⟨tg2, hw2, hpr2, hb2⟩ := hcut
                    have HVD1 : Hid (vote ∈ x1.ds) := Lib.hid (by rw [HDS.out]; split; exact List.mem_append.2 (.inl HVD.out); exact HVD.out)
                    have HDL1 : Hid (x1.ds.length ≤ k + 2) := Lib.hid (by have := HDL.out; rw [HDS.out]; split; simp only [List.length_append, List.length_singleton]; omega; omega)
                    have HRD2 : Hid (x1.rd ≤ ((k + 1 : Nat) : Int)) := Lib.hid (by have := HRD.out; have := HRD1.out; omega)
                    have HW2 := Lib.hid hw2; have HPR2 := Lib.hid hpr2; have HB2 := Lib.hid hb2
                    clear hw2 hpr2 hb2 a4 HPR1 HW1 HDS HRD HRD1 HB1 HVD HDL HDN
                    go_wp2_with fail
                    go_loopw [19, 20, 21, 22, 23] (fun v19 v20 v21 v22 v23 wy => ∃ (r : Nat) (sm : Bool) (vv : ByteArray), v21 = .int .i64 (r : Int) ∧ r ≤ 3 ∧ v20 = .bool sm ∧ v19 = .string vv ∧ Heard x1 sm vv ∧ Below wc.heap.size wc wy) (fun _ _ v21 _ _ _ => 3 - (intOf v21).toNat)
                    case atStart => exact ⟨0, false, nov, rfl, Nat.zero_le _, rfl, rfl, ⟨(fun h => by cases h), fun _ => rfl⟩, Below.refl _ _⟩
                    case round =>
                      obtain ⟨r, sm, vv, rfl, hr3, rfl, rfl, hh, hbq⟩ := hrel
                      by_cases hrn : r < 3
                      · have hri : (r : Int) < 3 := by omega
                        have hr0 : (0 : Int) ≤ (r : Int) := by omega
                        have hwq := HW2.out.below hbq
                        have y2 := hwq.lea
                        obtain ⟨ga, pv, ea, _, _, ea2, ea3, _⟩ := owns_cell1 hwq.pt.sL r hrn
                        obtain rfl : H1.aL = ga := by simpa using ea
                        obtain rfl : pv = .pointer (some ⟨H1.hL r, 0, none⟩) := by
                          simp only [ptrs, List.getElem?_map, List.getElem?_range hrn, Option.map_some, Option.some.injEq] at ea2
                          exact ea2.symm
                        have CH := Lib.hid (chosen_any _ (hwq.pt.lea r hrn).1)
                        have HFIT : Hid ((x1.L r).ch.is = false → (x1.L r).ch.v = nov) := Lib.hid (fun h => by
                          rcases HIN.out.fit r hrn with e | e
                          · rw [e]
                          · rw [h] at e; cases e)
                        have HONE : Hid (∀ j, j < 3 → (x1.L j).ch.is = true → (x1.L r).ch.is = true → (x1.L j).ch.v = (x1.L r).ch.v) := Lib.hid (fun j hj h1 h2 => HIN.out.one hj hrn h1 h2)
                        have HH := Lib.hid hh; have HBQ := Lib.hid hbq
                        clear ea ea2 hwq hh hbq
                        obtain ⟨ci, hci⟩ : ∃ q, (x1.L r).ch.is = q := ⟨_, rfl⟩
                        obtain ⟨cv, hcv⟩ : ∃ q, (x1.L r).ch.v = q := ⟨_, rfl⟩
                        rw [hci, hcv] at CH
                        have HCI := Lib.hid hci; have HCV := Lib.hid hcv
                        clear hci hcv
                        go_wp2_with fail
                        refine CH.out.mono ?_; rintro e wd ⟨rfl, bd⟩
                        have HBR := Lib.hid (HBQ.out.trans (bd.mono HBQ.out.size))
                        clear bd y2 ea3 CH HBQ
                        cases ci
                        · obtain rfl : nov = cv := by rw [← HCV.out]; exact (HFIT.out HCI.out).symm
                          go_wp2_with fail
                          go_roundw
                          case rel => exact ⟨r + 1, sm, vv, by go_num, by omega, rfl, rfl, HH.out, HBR.out⟩
                          case measure => simp [intOf]; omega
                        · cases sm
                          · have HH2 : Hid (Heard x1 true cv) := Lib.hid ⟨fun _ => ⟨r, hrn, HCI.out, HCV.out⟩, fun h => by cases h⟩
                            go_wp2_with fail
                            go_roundw
                            case rel => exact ⟨r + 1, true, cv, by go_num, by omega, rfl, rfl, HH2.out, HBR.out⟩
                            case measure => simp [intOf]; omega
                          · obtain rfl : vv = cv := by
                              obtain ⟨j, hj, h1, h2⟩ := HH.out.1 rfl
                              rw [← h2, HONE.out j hj h1 HCI.out, HCV.out]
                            go_wp2_with fail
                            go_roundw
                            case rel => exact ⟨r + 1, true, vv, by go_num, by omega, rfl, rfl, HH.out, HBR.out⟩
                            case measure => simp [intOf]; omega
                      · obtain rfl : r = 3 := by omega
                        have hw3 := HW2.out.below hbq
                        have hpr3 := HPR2.out.below hbq
                        obtain ⟨po2, pc2, hv2, _, _⟩ := owns_shape hpr3.own
                        have HB3 := Lib.hid (HB2.out.trans (hbq.mono HB2.out.size))
                        have HW3 := Lib.hid hw3; have HPR3 := Lib.hid hpr3; have HV2 := Lib.hid hv2
                        have HMINE : Hid (sm = true → ∃ j, x1.ds[j]? = some vv) := Lib.hid (fun hs => by
                          obtain ⟨j, hj, h1, h2⟩ := hh.1 hs
                          have := HIN.out.mine hj h1
                          rw [h2] at this
                          obtain ⟨i, hi, he⟩ := List.mem_iff_getElem.1 this
                          exact ⟨i, by rw [List.getElem?_eq_getElem hi, he]⟩)
                        clear hw3 hpr3 hv2 hh hbq hrn hr3 HW2 HPR2 HB2
                        obtain ⟨wz, hwz⟩ : ∃ q, q = wr := ⟨_, rfl⟩
                        rw [← hwz] at HB3 HW3 HPR3 ⊢
                        clear hwz wr
                        obtain ⟨dm, hdm⟩ : ∃ m, x1.ds.length = m := ⟨_, rfl⟩
                        have HDM := Lib.hid hdm
                        have hdmb : (dm : Int) ≤ 402 := by have := HDL1.out; rw [hdm] at this; omega
                        have hv2 := HV2.out
                        rw [hdm] at hv2
                        clear hdm
                        subst hv2
                        have OWN6 : Hid (wz.ownsRow W.heap.size 9 1 (.slice po2 dm pc2) dm (strs x1.ds)) := Lib.hid (by have := HPR3.out.own; rw [HDM.out] at this; exact this)
                        go_wp2_with fail
                        go_loopw [24, 25] (fun v24 v25 wy => ∃ (r : Nat) (mm : Bool), v25 = .int .i64 (r : Int) ∧ r ≤ dm ∧ v24 = .bool mm ∧ (sm = false → mm = true) ∧ (∀ j, j < r → x1.ds[j]? = some vv → mm = true) ∧ wy = wz) (fun _ v25 _ => dm - (intOf v25).toNat)
                        case atStart => exact ⟨0, !sm, rfl, Nat.zero_le _, rfl, fun h => by rw [h]; rfl, fun j hj => absurd hj (Nat.not_lt_zero _), rfl⟩
                        case round =>
                          obtain ⟨r, mm, rfl, hrd', rfl, hm1, hm2, rfl⟩ := hrel
                          by_cases hrn : r < dm
                          · have hri : (r : Int) < (dm : Int) := by omega
                            have hr0 : (0 : Int) ≤ (r : Int) := by omega
                            obtain ⟨u, hu⟩ : ∃ u, x1.ds[r]? = some u := ⟨_, List.getElem?_eq_getElem (by rw [HDM.out]; exact hrn)⟩
                            obtain ⟨pg, pv, ea, _, _, ea2, ea3, _⟩ := owns_cell1 OWN6.out r hrn
                            subst ea
                            obtain rfl : pv = .string u := by
                              simp only [strs, List.getElem?_map, hu, Option.map_some, Option.some.injEq] at ea2
                              exact ea2.symm
                            have HU := Lib.hid hu; have HM1 := Lib.hid hm1; have HM2 := Lib.hid hm2
                            clear hu hm1 hm2 ea2
                            cases mm
                            · by_cases he : u = vv
                              · subst he
                                go_wp2_with fail
                                go_roundw
                                case rel => exact ⟨r + 1, true, by go_num, by omega, rfl, fun _ => rfl, fun _ _ _ => rfl, trivial⟩
                                case measure => simp [intOf]; omega
                              · have hvd := str_ne he
                                have HE := Lib.hid he
                                clear he
                                go_wp2_with fail
                                go_roundw
                                case rel => exact ⟨r + 1, false, by go_num, by omega, rfl, HM1.out, fun j hj hjv => by
                                  by_cases e : j = r
                                  · subst e; rw [HU.out] at hjv; exact absurd (Option.some.inj hjv) HE.out
                                  · exact HM2.out j (by omega) hjv, trivial⟩
                                case measure => simp [intOf]; omega
                            · go_wp2_with fail
                              go_roundw
                              case rel => exact ⟨r + 1, true, by go_num, by omega, rfl, fun _ => rfl, fun _ _ _ => rfl, trivial⟩
                              case measure => simp [intOf]; omega
                          · obtain rfl : mm = true := by
                              cases hs : sm
                              · exact hm1 hs
                              · obtain ⟨j, hj⟩ := HMINE.out hs
                                exact hm2 j (by have := (List.getElem?_eq_some_iff.1 hj).1; rw [HDM.out] at this; omega) hj
                            clear hm1 hm2
                            go_wp2_with fail
                            go_roundw
                            case rel =>
                              have hw9 := HW3.out
                              rw [show 5 * k + 5 = 5 * (k + 1) by omega] at hw9
                              have hp9 := HPR3.out
                              exact ⟨k + 1, tg2, H1, x1, by go_num, by omega, by omega, hw9, HIN.out, HNA.out, HRD2.out, HVD1.out, by rw [← HDM.out]; rw [← HDM.out] at hp9; exact hp9, by have := HDL1.out; omega, HB3.out⟩
                            case measure => simp [intOf]; omega
                · have HB := Lib.hid hB
                  clear hw hin hna hrd hvd hpr hdl hB
                  by_cases h1 : k < len
                  · have h1i : (k : Int) < (len : Int) := by omega
                    have h2i : (400 : Int) ≤ (k : Int) := by omega
                    clear hlt
                    go_wp2_with fail
                    go_ret
                    exact ⟨rfl, HB.out⟩
                  · have h1i : (len : Int) ≤ (k : Int) := by omega
                    clear hlt
                    go_wp2_with fail
                    go_ret
                    exact ⟨rfl, HB.out⟩
end Go.Proofs.Ytgfalpiifgoonaa
