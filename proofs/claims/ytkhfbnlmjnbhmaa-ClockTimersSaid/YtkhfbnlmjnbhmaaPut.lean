/- put. -/
import Derived.Test.YtkhfbnlmjnbhmaaClk
namespace Go.Proofs.Ytkhfbnlmjnbhmaa
open Go.RowKit Go.Sort
set_option linter.unusedVariables false

section
variable {w w' : World} {B hb gm n : Nat} {ao : Option Addr} {cap : Nat} {l : List Tm} {f : Nat → Option Nat}
theorem HpW.free {g : Nat} (h : HpW w B hb gm n (some ⟨g, 0, none⟩) cap l f) (q : Nat) : w.frozen? ⟨g, q, none⟩ = false := by
  rcases h.own.2 with ⟨h2, h3⟩ | ⟨g', cap', cur, h2, hb, hg, _⟩
  · cases h2
  · cases h2
    exact frozen_of_row w g q cur _ hg
theorem HpW.set3 {g : Nat} (h : HpW w B hb gm n (some ⟨g, 0, none⟩) cap l f) (j : Nat) (hj : j < l.length) (t : Tm) (ht : okT t) :
    HpW (((w.setCell ⟨g, j * 3, none⟩ (.int .u64 (t.1 : Int))).setCell ⟨g, j * 3 + 1, none⟩ (.int .i64 (t.2.1 : Int))).setCell ⟨g, j * 3 + 2, none⟩ (.int .u64 (t.2.2 : Int))) B hb gm n (some ⟨g, 0, none⟩) cap (l.set j t) f ∧
    Keep [g] w (((w.setCell ⟨g, j * 3, none⟩ (.int .u64 (t.1 : Int))).setCell ⟨g, j * 3 + 1, none⟩ (.int .i64 (t.2.1 : Int))).setCell ⟨g, j * 3 + 2, none⟩ (.int .u64 (t.2.2 : Int))) := by
  have k1 := Keep.setCell w ⟨g, j * 3, none⟩ (.int .u64 (t.1 : Int))
  have k2 := k1.trans (Keep.setCell _ ⟨g, j * 3 + 1, none⟩ (.int .i64 (t.2.1 : Int)))
  have k3 := k2.trans (Keep.setCell _ ⟨g, j * 3 + 2, none⟩ (.int .u64 (t.2.2 : Int)))
  refine ⟨?_, k3⟩
  have n1 : hb ∉ [g] := by have := h.nhr; simp [blk] at this ⊢; exact this
  have n2 : gm ∉ [g] := by have := h.ngr; simp [blk] at this ⊢; exact this
  have hl : (l.set j t).length = l.length := by simp
  refine ⟨by rw [hl]; exact (k3.cell h.hlt n1).trans h.cl, (k3.cell h.hlt n1).trans h.cm, (k3.frozen h.hlt n1).trans h.fr, Nat.lt_of_lt_of_le h.hlt k3.size, h.base, h.gbase, ?_, h.map.keep k3 n2, h.nhg, h.nhr, h.ngr, fun x hx => ?_, by rw [hl]; exact h.few⟩
  · rw [hl]
    refine ⟨by rw [fl_len c3_len, hl], ?_⟩
    rcases h.own.2 with ⟨h2, h3⟩ | ⟨g', cap', cur, h2, hb, hg, h3, h4, h5, h6⟩
    · cases h2
    · cases h2
      have e1 := heap_setCell_same w g (j * 3) cur _ (.int .u64 (t.1 : Int)) hg
      have e2 := heap_setCell_same _ g (j * 3 + 1) _ _ (.int .i64 (t.2.1 : Int)) e1
      have e3 := heap_setCell_same _ g (j * 3 + 2) _ _ (.int .u64 (t.2.2 : Int)) e2
      refine .inr ⟨g, cap, _, rfl, hb, e3, h3, h4, by simpa using h5, ?_⟩
      have hsz : (j + 1) * 3 ≤ cur.size := by
        have : (fl c3 l).length = l.length * 3 := fl_len c3_len l
        rw [← h6, List.length_take, Array.length_toList] at this
        have : (j + 1) * 3 ≤ l.length * 3 := Nat.mul_le_mul_right 3 hj
        omega
      refine fl_set c3_len l j t _ ?_ hj ?_ ?_
      · rw [← h6]; simp
      · intro q hq
        rw [List.getElem?_take, if_pos (by have : (j + 1) * 3 ≤ l.length * 3 := Nat.mul_le_mul_right 3 hj; omega), Array.getElem?_toList]
        have : q = 0 ∨ q = 1 ∨ q = 2 := by omega
        rcases this with rfl | rfl | rfl
        · rw [Array.getElem?_setIfInBounds_ne (by omega), Array.getElem?_setIfInBounds_ne (by omega), Nat.add_zero, Array.getElem?_setIfInBounds_self_of_lt (by omega)]; rfl
        · rw [Array.getElem?_setIfInBounds_ne (by omega), Array.getElem?_setIfInBounds_self_of_lt (by simp; omega)]; rfl
        · rw [Array.getElem?_setIfInBounds_self_of_lt (by simp; omega)]; rfl
      · intro q hq
        rw [← h6, List.getElem?_take, List.getElem?_take, Array.getElem?_toList, Array.getElem?_toList]
        rw [Array.getElem?_setIfInBounds_ne (by omega), Array.getElem?_setIfInBounds_ne (by omega), Array.getElem?_setIfInBounds_ne (by omega)]
  · rcases List.mem_or_eq_of_mem_set hx with h1 | rfl
    · exact h.ok x h1
    · exact ht
end

theorem HpW.turn {w w' : World} {B hb gm n : Nat} {ao : Option Addr} {cap : Nat} {l : List Tm} {f : Nat → Option Nat} {n' : Nat} {f' : Nat → Option Nat} (h : HpW w B hb gm n ao cap l f) (k : Keep [gm] w w') (hm : MapF w' gm n' f') : HpW w' B hb gm n' ao cap l f' :=
  ⟨(k.cell h.hlt (by simpa using h.nhg)).trans h.cl, (k.cell h.hlt (by simpa using h.nhg)).trans h.cm, (k.frozen h.hlt (by simpa using h.nhg)).trans h.fr, Nat.lt_of_lt_of_le h.hlt k.size, h.base, h.gbase, owns_keep h.own k (blk_own _ _ _ (fun g hg hm => h.ngr (by rw [List.mem_singleton] at hm; exact hm ▸ hg))), hm, h.nhg, h.nhr, h.ngr, h.ok, h.few⟩
/-- the store into the row, beside a box -/
theorem HpW.mid {w : World} {B hb gm n cap g : Nat} {l : List Tm} {f : Nat → Option Nat} (h : HpW w B hb gm n (some ⟨g, 0, none⟩) cap l f) (j : Nat) (hj : j < l.length) (t1 t2 t3 : Nat) (ht : okT (t1, t2, t3)) (W : World)
    (hW : W = (((((w.setCell ⟨g, j * 3, none⟩ (.int .u64 (t1 : Int))).setCell ⟨g, j * 3 + 1, none⟩ (.int .i64 (t2 : Int))).setCell ⟨g, j * 3 + 2, none⟩ (.int .u64 (t3 : Int))).alloc (.cells #[.int .u64 (t1 : Int), .int .i64 (t2 : Int), .int .u64 (t3 : Int)] 66)).drew)) :
    HpW W B hb gm n (some ⟨g, 0, none⟩) cap (l.set j (t1, t2, t3)) f ∧ Keep [g] w W ∧ W.cell? ⟨w.heap.size, 0, none⟩ = some (.int .u64 (t1 : Int)) ∧ w.heap.size < W.heap.size := by
  obtain ⟨h3, k3⟩ := h.set3 j hj (t1, t2, t3) ht
  have hs : (((w.setCell ⟨g, j * 3, none⟩ (.int .u64 (t1 : Int))).setCell ⟨g, j * 3 + 1, none⟩ (.int .i64 (t2 : Int))).setCell ⟨g, j * 3 + 2, none⟩ (.int .u64 (t3 : Int))).heap.size = w.heap.size := by simp [World.setCell]
  subst hW
  simp only at h3 k3
  generalize (((w.setCell ⟨g, j * 3, none⟩ (.int .u64 (t1 : Int))).setCell ⟨g, j * 3 + 1, none⟩ (.int .i64 (t2 : Int))).setCell ⟨g, j * 3 + 2, none⟩ (.int .u64 (t3 : Int))) = W3 at *
  have b : Below W3.heap.size W3 ((W3.alloc (.cells #[.int .u64 (t1 : Int), .int .i64 (t2 : Int), .int .u64 (t3 : Int)] 66)).drew) := (below_alloc (Below.refl _ _) _).drew
  refine ⟨h3.below b, k3.trans (Keep.of_below b _), ?_, ?_⟩
  · rw [← hs]
    have := heap_alloc_new W3 (.cells #[.int .u64 (t1 : Int), .int .i64 (t2 : Int), .int .u64 (t3 : Int)] 66)
    exact cell_of_row (W3.alloc _).drew W3.heap.size 0 _ _ (0, 0) this
  · rw [← hs]
    show W3.heap.size < (W3.alloc _).heap.size
    simp

set_option maxHeartbeats 2000000 in
theorem put_any {B hb gm n : Nat} {ao : Option Addr} {cap : Nat} {l : List Tm} {f : Nat → Option Nat} (w : World) (t : Tm) (i : Nat) (hw : HpW w B hb gm n ao cap l f) (hi : i < l.length) (ht : okT t) (hn : n ≤ 256) :
    Calls Try.prog 36 #[.pointer (some ⟨hb, 2, none⟩), agT t, .int .i64 (i : Int)] w fun e w' => e = .returned (.tuple #[]) ∧ HpW w' B hb gm (if (f t.1).isSome then n else n + 1) ao cap (l.set i t) (upd f t.1 (some i)) ∧ Keep (gm :: blk ao) w w' := by
  obtain ⟨t1, t2, t3⟩ := t
  obtain ⟨p1, p2, p3⟩ := ht
  simp only at p1 p2 p3
  have hf := hw.few
  have c2 := hw.cl
  have c3 := hw.cm
  obtain ⟨g, rfl, hg, hgb, hn1, hn2, x0, x1, x2⟩ := hw.at_ i hi
  have fr0 := hw.free (i * 3); have fr1 := hw.free (i * 3 + 1); have fr2 := hw.free (i * 3 + 2)
  have HW := Lib.hid (fun W hW => hw.mid i hi t1 t2 t3 ⟨p1, p2, p3⟩ W hW)
  have hlt := hw.hlt
  clear hw
  generalize hL : l.length = L at *
  have HL := Lib.hid hL; clear hL
  go_enter Try.func36, Try.ntmps36
  go_wp2_with fail
  go_region
  generalize hz : World.drew _ = wz
  obtain ⟨h3, k3, bx, hsz⟩ := HW.out wz hz.symm
  clear hz x0 x1 x2 fr0 fr1 fr2 c2 c3 HW
  have c3 := h3.cm
  obtain ⟨w2, hr, hm2, k2⟩ := (h3.map.keep (Keep.of_below (Below.refl _ wz).drew []) (by simp)).put t1 i p1 (by omega) (by omega)
  have hq : Keep [gm] wz w2 := (Keep.of_below (Below.refl _ wz).drew _).trans k2
  go_wp2_with fail
  go_region
  go_end0
  have he : (if (f (t1, t2, t3).1).isSome then n else n + 1) = if (f t1).isSome then n else n + 1 := rfl
  exact ⟨rfl, h3.turn hq hm2, ((k3.mono (T := gm :: blk (some ⟨g, 0, none⟩)) (by simp [blk])).trans (hq.mono (by simp)))⟩
end Go.Proofs.Ytkhfbnlmjnbhmaa
