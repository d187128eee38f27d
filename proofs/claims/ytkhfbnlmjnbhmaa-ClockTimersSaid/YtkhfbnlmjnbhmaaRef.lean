/- The document's clock: New, Pass, Now, Next. -/
import Derived.Test.YtkhfbnlmjnbhmaaAwake
namespace Go.Proofs.Ytkhfbnlmjnbhmaa
open Go.RowKit Go.Sort
set_option linter.unusedVariables false

structure RefW (w : World) (B hb : Nat) (ao : Option Addr) (cap rate milli : Nat) (S : List Tm) : Prop where
  k0 : w.cell? ⟨hb, 0, none⟩ = some (.int .i64 (rate : Int))
  k1 : w.cell? ⟨hb, 1, none⟩ = some (.int .i64 (milli : Int))
  k2 : w.cell? ⟨hb, 2, none⟩ = some (.slice ao S.length cap)
  fr : ∀ q, w.frozen? ⟨hb, q, none⟩ = false
  hlt : hb < w.heap.size
  base : B ≤ hb
  own : w.ownsRow B 68 2 (.slice ao S.length cap) S.length (fl c2 S)
  nhr : hb ∉ blk ao
  dist : Dist S
  ok : ∀ t ∈ S, t.1 < 18446744073709551616 ∧ t.2.1 ≤ 1099511627776
  few : S.length ≤ 256
  rt : 900 ≤ rate ∧ rate ≤ 1100
  ml : milli ≤ 1099511627776999
/-- the document's clock in block hb, its blocks Bs -/
def Rf (w : World) (B hb : Nat) (Bs : List Nat) (rate milli : Nat) (S : List Tm) : Prop := ∃ ao cap, Bs = hb :: blk ao ∧ RefW w B hb ao cap rate milli S
section
variable {w w' : World} {B hb : Nat} {ao : Option Addr} {cap rate milli : Nat} {S : List Tm} {Bs : List Nat}
theorem Rf.blocks (h : Rf w B hb Bs rate milli S) : ∀ q ∈ Bs, B ≤ q ∧ q < w.heap.size := by
  obtain ⟨ao, cap, rfl, h⟩ := h
  intro q hq
  rcases List.mem_cons.1 hq with rfl | hq
  · exact ⟨h.base, h.hlt⟩
  · exact owns_blk h.own q hq
theorem RefW.keep {T : List Nat} (h : RefW w B hb ao cap rate milli S) (k : Keep T w w') (hn : ∀ q ∈ hb :: blk ao, q ∉ T) : RefW w' B hb ao cap rate milli S := by
  have h0 : hb ∉ T := hn hb (by simp)
  have hl := h.hlt
  exact ⟨(k.cell hl h0).trans h.k0, (k.cell hl h0).trans h.k1, (k.cell hl h0).trans h.k2, fun q => (k.frozen hl h0).trans (h.fr q), Nat.lt_of_lt_of_le hl k.size, h.base, owns_keep h.own k (blk_own _ _ _ (fun g hg => hn g (by simp [hg]))), h.nhr, h.dist, h.ok, h.few, h.rt, h.ml⟩
theorem Rf.keep {T : List Nat} (h : Rf w B hb Bs rate milli S) (k : Keep T w w') (hn : ∀ q ∈ Bs, q ∉ T) : Rf w' B hb Bs rate milli S := by
  obtain ⟨ao, cap, rfl, h⟩ := h
  exact ⟨ao, cap, rfl, h.keep k hn⟩
theorem Rf.below (h : Rf w B hb Bs rate milli S) (b : Below w.heap.size w w') : Rf w' B hb Bs rate milli S := h.keep (Keep.of_below b []) (by simp)
theorem Rf.base {B' : Nat} (h : Rf w B hb Bs rate milli S) (hB : B' ≤ B) : Rf w B' hb Bs rate milli S := by
  obtain ⟨ao, cap, rfl, h⟩ := h
  exact ⟨ao, cap, rfl, ⟨h.k0, h.k1, h.k2, h.fr, h.hlt, Nat.le_trans hB h.base, owns_base h.own hB, h.nhr, h.dist, h.ok, h.few, h.rt, h.ml⟩⟩
/-- timer j of a row of two cells a timer -/
theorem owns_at2 {e : TypeId} {n : Nat} {l : List Tm} (ho : w.ownsRow B e 2 (.slice ao n cap) n (fl c2 l)) (hl : l.length = n) (j : Nat) (hj : j < n) : ∃ g, ao = some ⟨g, 0, none⟩ ∧ g < w.heap.size ∧ B ≤ g ∧
    w.cell? ⟨g, j * 2, none⟩ = some (.int .u64 ((tm l j).1 : Int)) ∧ w.cell? ⟨g, j * 2 + 1, none⟩ = some (.int .i64 ((tm l j).2.1 : Int)) := by
  rcases ho.2 with ⟨h2, h3⟩ | ⟨g, cap', cur, h2, hb, hg, h3, h4, h5, h6⟩
  · omega
  · cases h2
    refine ⟨g, rfl, (Array.getElem?_eq_some_iff.1 hg).1, hb, ?_⟩
    have key : ∀ q, q < 2 → w.cell? ⟨g, j * 2 + q, none⟩ = (c2 (tm l j))[q]? := by
      intro q hq
      rw [cell_of_row w g (j * 2 + q) cur _ (0, 0) hg]
      have := congrArg (·[j * 2 + q]?) h6
      simp only [List.getElem?_take] at this
      rw [if_pos (by omega), Array.getElem?_toList] at this
      rw [this, fl_at c2_len l j q hq, tm_get (by omega)]
      rfl
    exact ⟨key 0 (by omega), key 1 (by omega)⟩
/-- one of its cells is laid anew -/
theorem RefW.lay {w2 : World} (h : RefW w B hb ao cap rate milli S) (r m : Nat) (hr : 900 ≤ r ∧ r ≤ 1100) (hm : m ≤ 1099511627776999) (k2 : Keep [hb] w w2) (h0 : w2.cell? ⟨hb, 0, none⟩ = some (.int .i64 (r : Int))) (h1 : w2.cell? ⟨hb, 1, none⟩ = some (.int .i64 (m : Int)))
    (h2 : w2.cell? ⟨hb, 2, none⟩ = some (.slice ao S.length cap)) (hf : ∀ q, w2.frozen? ⟨hb, q, none⟩ = false) : RefW w2 B hb ao cap r m S :=
  ⟨h0, h1, h2, hf, Nat.lt_of_lt_of_le h.hlt k2.size, h.base, owns_keep h.own k2 (blk_own _ _ _ (fun q hq hm => h.nhr (by simp at hm; exact hm ▸ hq))), h.nhr, h.dist, h.ok, h.few, hr, hm⟩
theorem RefW.setRate (h : RefW w B hb ao cap rate milli S) (r : Nat) (hr : 900 ≤ r ∧ r ≤ 1100) : RefW (w.setCell ⟨hb, 0, none⟩ (.int .i64 (r : Int))) B hb ao cap r milli S := by
  have h0 := h.k0; have h1 := h.k1; have h2 := h.k2; have hf := h.fr
  exact h.lay r milli hr h.ml (Keep.setCell w ⟨hb, 0, none⟩ _) (by go_simp) (by go_simp) (by go_simp) (fun q => (World.frozen?_setCell _ _ _ _).trans (hf q))
theorem RefW.setMilli (h : RefW w B hb ao cap rate milli S) (m : Nat) (hm : m ≤ 1099511627776999) : RefW (w.setCell ⟨hb, 1, none⟩ (.int .i64 (m : Int))) B hb ao cap rate m S := by
  have h0 := h.k0; have h1 := h.k1; have h2 := h.k2; have hf := h.fr
  exact h.lay rate m h.rt hm (Keep.setCell w ⟨hb, 1, none⟩ _) (by go_simp) (by go_simp) (by go_simp) (fun q => (World.frozen?_setCell _ _ _ _).trans (hf q))

set_option maxHeartbeats 1000000 in
theorem rnow_any (w : World) (h : Rf w B hb Bs rate milli S) :
    Calls Try.prog 14 #[.pointer (some ⟨hb, 0, none⟩)] w fun e w' => e = .returned (.int .i64 ((milli / 1000 : Nat) : Int)) ∧ w = w' := by
  obtain ⟨ao, cap, rfl, h⟩ := h
  have c1 := h.k1
  have hlt := h.hlt
  have hm := h.ml
  clear h
  go_enter Try.func14, Try.ntmps14
  go_wp2_with fail
  go_ret
  exact ⟨ret_int (by omega), rfl⟩

set_option maxHeartbeats 2000000 in
theorem rpass_any (w : World) (n : Int) (hn : okI n) (h : Rf w B hb Bs rate milli S) :
    Calls Try.prog 25 #[.pointer (some ⟨hb, 0, none⟩), .int .i64 n] w fun e w' => e = .returned (.int .i64 (passE rate milli n)) ∧ Rf w' B hb Bs rate (passM rate milli n) S ∧ Keep Bs w w' := by
  have HC := Lib.hid h
  obtain ⟨ao, cap, rfl, h⟩ := h
  have HE := Lib.hid (show passE rate milli n = if n < 0 then 1 else if ((1099511627776999 - milli) / rate : Nat) < n then 61 else 0 from rfl)
  have HM := Lib.hid (show passM rate milli n = if passE rate milli n = 0 then milli + n.toNat * rate else milli from rfl)
  have c0 := h.k0; have c1 := h.k1; have f1 := h.fr 1
  have hlt := h.hlt
  obtain ⟨hr1, hr2⟩ := h.rt
  have hm := h.ml
  have HW := Lib.hid h
  clear h
  by_cases hneg : n < 0
  · have e1 := Lib.hid (show passE rate milli n = 1 by rw [HE.out, if_pos hneg])
    have e2 := Lib.hid (show passM rate milli n = milli by rw [HM.out, e1.out]; rfl)
    rw [e1.out, e2.out]
    clear e1 e2 HE HM
    go_enter Try.func25, Try.ntmps25
    go_wp2_with fail
    go_ret
    exact ⟨rfl, HC.out, Keep.refl _ _⟩
  · obtain ⟨k, rfl⟩ : ∃ k : Nat, n = (k : Int) := ⟨n.toNat, by omega⟩
    obtain ⟨q, hq⟩ : ∃ q : Nat, q = (1099511627776999 - milli) / rate := ⟨_, rfl⟩
    have hqi : ((1099511627776999 : Int) - (milli : Int)) / (rate : Int) = (q : Int) := by
      have e : ((1099511627776999 - milli : Nat) : Int) = 1099511627776999 - (milli : Int) := by omega
      rw [hq, Int.natCast_ediv, e]
    have hk : k < 9223372036854775808 := by have := hn.2; omega
    clear hneg hn
    by_cases hbig : q < k
    · have e1 := Lib.hid (show passE rate milli (k : Int) = 61 by rw [HE.out, if_neg (by omega), ← hq, if_pos (by omega)])
      have e2 := Lib.hid (show passM rate milli (k : Int) = milli by rw [HM.out, e1.out]; rfl)
      rw [e1.out, e2.out]
      have hq2 : q ≤ 1099511627776999 := by rw [hq]; exact Nat.le_trans (Nat.div_le_self _ _) (by omega)
      have HQ := Lib.hid hq
      clear e1 e2 HE HM hq
      go_enter Try.func25, Try.ntmps25
      go_wp2_with fail
      go_ret
      exact ⟨rfl, HC.out, Keep.refl _ _⟩
    · have hle : k ≤ (1099511627776999 - milli) / rate := by omega
      have hfit := pass_fits (by omega) hle hm
      have e1 := Lib.hid (show passE rate milli (k : Int) = 0 by rw [HE.out, if_neg (by omega), if_neg (by omega)])
      have e2 := Lib.hid (show passM rate milli (k : Int) = milli + k * rate by rw [HM.out, e1.out]; simp)
      rw [e1.out, e2.out]
      have hkq : k ≤ q := by omega
      have hpp : (k : Int) * (rate : Int) = ((k * rate : Nat) : Int) := by simp
      have HP2 := Lib.hid (HW.out.setMilli (milli + k * rate) hfit)
      have hk2 : k ≤ 1099511627776999 := Nat.le_trans hle (Nat.le_trans (Nat.div_le_self _ _) (by omega))
      clear e1 e2 HE HM hq hle
      generalize k * rate = p at *
      have hpm : ((milli + p : Nat) : Int) = (milli : Int) + (p : Int) := by simp
      rw [hpm] at HP2
      go_enter Try.func25, Try.ntmps25
      go_wp2_with fail
      go_region
      have k2 := Keep.setCell w ⟨hb, 1, none⟩ (.int .i64 ((milli : Int) + (p : Int)))
      have b2 : Below (w.setCell ⟨hb, 1, none⟩ (.int .i64 ((milli : Int) + (p : Int)))).heap.size (w.setCell ⟨hb, 1, none⟩ (.int .i64 ((milli : Int) + (p : Int)))) (w.setCell ⟨hb, 1, none⟩ (.int .i64 ((milli : Int) + (p : Int)))).drew := (Below.refl _ _).drew
      have kk : Keep (hb :: blk ao) w (w.setCell ⟨hb, 1, none⟩ (.int .i64 ((milli : Int) + (p : Int)))).drew := (k2.mono (by simp)).trans (Keep.of_below b2 _)
      have hc : Rf (w.setCell ⟨hb, 1, none⟩ (.int .i64 ((milli : Int) + (p : Int)))).drew B hb (hb :: blk ao) rate (milli + p) S := Rf.below ⟨ao, cap, rfl, HP2.out⟩ b2
      go_wp2_with fail
      go_ret
      exact ⟨rfl, hc, kk⟩

set_option maxHeartbeats 1000000 in
theorem rnew_no (rate at_ : Int) (h : (rateB rate && timeB at_) = false) (w : World) :
    Calls Try.prog 9 #[.int .i64 rate, .int .i64 at_] w fun e w' => e = .returned (.tuple #[.pointer none, .bool false]) ∧ w = w' := by
  have h' : rate < 900 ∨ 1100 < rate ∨ at_ < 0 ∨ 1099511627776 < at_ := by
    unfold rateB timeB at h
    simp at h
    omega
  clear h
  go_enter Try.func9, Try.ntmps9
  go_wp2_with fail
  all_goals first
    | (go_ret2; exact ⟨rfl, rfl⟩)
    | (exfalso; omega)

set_option maxHeartbeats 1000000 in
theorem rnew_yes (rate at_ : Nat) (h1 : 900 ≤ rate) (h2 : rate ≤ 1100) (h3 : at_ ≤ 1099511627776) (w : World) :
    Calls Try.prog 9 #[.int .i64 (rate : Int), .int .i64 (at_ : Int)] w fun e w' => ∃ hb Bs, e = .returned (.tuple #[.pointer (some ⟨hb, 0, none⟩), .bool true]) ∧ Rf w' w.heap.size hb Bs rate (at_ * 1000) [] ∧ Below w.heap.size w w' := by
  go_enter Try.func9, Try.ntmps9
  go_wp2_with fail
  go_ret2
  have e1 : (1000 : Int) * (at_ : Int) = ((at_ * 1000 : Nat) : Int) := by omega
  rw [e1]
  have hrow := heap_alloc_new w (.cells #[.int .i64 (rate : Int), .int .i64 ((at_ * 1000 : Nat) : Int), .slice none 0 0] 41)
  have hsz : w.heap.size < (w.alloc (.cells #[.int .i64 (rate : Int), .int .i64 ((at_ * 1000 : Nat) : Int), .slice none 0 0] 41)).heap.size := by simp
  have hb : Below w.heap.size w (w.alloc (.cells #[.int .i64 (rate : Int), .int .i64 ((at_ * 1000 : Nat) : Int), .slice none 0 0] 41)) := below_alloc (Below.refl _ _) _
  generalize w.alloc _ = w2 at *
  have kc : ∀ q v, (#[.int .i64 (rate : Int), .int .i64 ((at_ * 1000 : Nat) : Int), .slice none 0 0] : Array Value)[q]? = some v → w2.cell? ⟨w.heap.size, q, none⟩ = some v := fun q v h => (cell_of_row w2 w.heap.size q _ _ (0, 0) hrow).trans h
  refine ⟨w.heap.size, w.heap.size :: blk none, rfl, ⟨none, 0, rfl, kc 0 _ rfl, kc 1 _ rfl, kc 2 _ rfl, fun q => frozen_of_row w2 w.heap.size q _ _ hrow, hsz, Nat.le_refl _, World.ownsRow_nil _ _ _ _, by simp [blk], List.Pairwise.nil, by simp, by simp, ⟨h1, h2⟩, by omega⟩, hb⟩

theorem min_ex : ∀ {S : List Tm}, 0 < S.length → ∃ x, Min S x := by
  intro S h
  cases e : minOf S with
  | none => rw [minOf_none e] at h; simp at h
  | some x => exact ⟨x, minOf_min e⟩
theorem nextD_le {S : List Tm} (hd : Dist S) {y : Tm} (hy : y ∈ S) : nextD S ≤ y.2.1 := by
  obtain ⟨x, hx⟩ := min_ex (List.length_pos_of_mem hy)
  rw [nextD_of hd hx]
  have := hx.le y hy
  rw [bef_not] at this; omega
theorem nextD_eq {S : List Tm} (hd : Dist S) {j : Nat} (hj : j < S.length) (hm : ∀ i, i < S.length → (tm S j).2.1 ≤ (tm S i).2.1) : (tm S j).2.1 = nextD S := by
  obtain ⟨x, hx⟩ := min_ex (show 0 < S.length by omega)
  have h1 := nextD_le hd (tm_mem hj)
  obtain ⟨i, hi, hix⟩ := List.mem_iff_getElem.1 hx.mem
  have e : tm S i = x := by simp [tm, hi, hix]
  have h2 := hm i hi
  rw [e, ← nextD_of hd hx] at h2
  omega

set_option maxHeartbeats 4000000 in
theorem rnext_any (w : World) (h : Rf w B hb Bs rate milli S) :
    Calls Try.prog 12 #[.pointer (some ⟨hb, 0, none⟩)] w fun e w' => e = .returned (.tuple #[.int .i64 (nextD S : Int), .bool (decide (0 < S.length))]) ∧ w = w' := by
  obtain ⟨ao, cap, rfl, h⟩ := h
  have k2 := h.k2
  have hlt := h.hlt
  have hfew := h.few
  by_cases h0 : 0 < S.length
  · have HB := Lib.hid (show decide (0 < S.length) = true by simpa using h0)
    rw [HB.out]
    have HA := Lib.hid (fun j hj => owns_at2 h.own rfl j hj)
    have HOK := Lib.hid h.ok
    have HEQ := Lib.hid (fun j hj hm => nextD_eq h.dist (j := j) hj hm)
    obtain ⟨g, rfl, hg, _, x0, x1⟩ := HA.out 0 h0
    simp only [Nat.zero_mul, Nat.zero_add] at x0 x1
    have hn0 : ((S.length : Int) == 0) = false := by rw [beq_eq_false_iff_ne]; omega
    have HM0 := Lib.hid (tm_mem h0)
    obtain ⟨L, hL⟩ : ∃ L, S.length = L := ⟨_, rfl⟩
    rw [hL] at k2 hfew h0 hn0 HA HEQ
    have HLL := Lib.hid hL
    clear h hL
    go_enter Try.func12, Try.ntmps12
    go_wp2_with fail
    go_loop [4, 5] (fun s i => ∃ k j : Nat, 1 ≤ k ∧ k ≤ L ∧ j < k ∧ i = .int .i64 (k : Int) ∧ s = .int .i64 ((tm S j).2.1 : Int) ∧ ∀ q, q < k → (tm S j).2.1 ≤ (tm S q).2.1) (fun _ i => L - (intOf i).toNat)
    case atStart => exact ⟨1, 0, by omega, by omega, by omega, rfl, rfl, fun q hq => by have e : q = 0 := (by omega); subst e; exact Nat.le_refl _⟩
    case round =>
      clear x0 x1
      obtain ⟨k, j, hk1, hk, hj, rfl, rfl, hmin⟩ := hrel
      have HMIN := Lib.hid hmin; clear hmin
      by_cases hlt2 : k < L
      · obtain ⟨g', e, hg', _, y0, y1⟩ := HA.out k hlt2
        obtain rfl : g = g' := by cases e; rfl
        have d1 := (HOK.out _ (tm_mem (l := S) (j := k) (by rw [HLL.out]; omega))).2
        have d2 := (HOK.out _ (tm_mem (l := S) (j := j) (by rw [HLL.out]; omega))).2
        have HMM := Lib.hid (fun (q : Nat) (hq : q < k) => HMIN.out q hq)
        obtain ⟨a, ha⟩ : ∃ a, (tm S k).2.1 = a := ⟨_, rfl⟩
        obtain ⟨b, hb'⟩ : ∃ b, (tm S j).2.1 = b := ⟨_, rfl⟩
        have HAE := Lib.hid ha; have HBE := Lib.hid hb'
        rw [ha] at y1 d1
        rw [hb'] at d2
        simp only [hb']
        clear ha e
        by_cases hab : a < b
        · go_wp2_with fail
          go_round
          case rel => exact ⟨k + 1, k, by omega, by omega, by omega, by go_num, by rw [HAE.out], fun q hq => by
            by_cases e : q = k
            · subst e; exact Nat.le_refl _
            · have h1 := HMM.out q (by omega); rw [HBE.out] at h1; rw [HAE.out]; omega⟩
          case measure => simp [intOf]; omega
        · go_wp2_with fail
          go_round
          case rel => exact ⟨k + 1, j, by omega, by omega, by omega, by go_num, by rw [HBE.out], fun q hq => by
            by_cases e : q = k
            · subst e; rw [HBE.out, HAE.out]; omega
            · exact HMM.out q (by omega)⟩
          case measure => simp [intOf]; omega
      · obtain rfl : k = L := by omega
        have HE := Lib.hid (HEQ.out j hj HMIN.out)
        go_wp2_with fail
        go_ret2
        exact ⟨by rw [← HE.out]; rfl, rfl⟩
  · obtain rfl : S = [] := List.eq_nil_of_length_eq_zero (by omega)
    clear h
    go_enter Try.func12, Try.ntmps12
    go_wp2_with fail
    go_ret2
    exact ⟨rfl, rfl⟩
end
end Go.Proofs.Ytkhfbnlmjnbhmaa
