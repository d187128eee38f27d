/- The document's calls: their state; Count, List, Next, Same. -/
import Derived.Test.YtjhdlohcjodgjaaDueC
namespace Go.Proofs.Ytjhdlohcjodgjaa
open Go.RowKit
set_option linter.unusedVariables false

abbrev rowR (C : Cfg) (v : Value) : Array Value := #[.int .i64 (C.base : Int), .int .i64 (C.most : Int), .int .i64 (C.tries : Int), .int .i64 (C.room : Int), v]
def liveB (x : Cal) : Bool := decide (0 < x.tries)
abbrev live (T : List Cal) : List Cal := T.filter liveB
/-- numbers that fit, one that is over too -/
def Cal.fits0 (p : Cal) : Prop := p.since ≤ 1099511627776 ∧ p.tries ≤ 16 ∧ p.due ≤ 1100585369600
structure RefW (w : World) (B rb : Nat) (ao : Option Addr) (cap : Nat) (T : List Cal) (C : Cfg) : Prop where
  row : w.heap[rb]? = some (.cells (rowR C (.slice ao T.length cap)) 52 (0, 0))
  own : w.ownsRow B 70 5 (.slice ao T.length cap) T.length (lc T)
  ne : ∀ g ∈ blk ao, g ≠ rb
  base : B ≤ rb
  ids : ∀ i x, T[i]? = some x → x.id = i + 1
  fine : ∀ x ∈ T, x.fits0
  ok : C.ok
section
variable {w w' : World} {B rb cap : Nat} {ao : Option Addr} {T : List Cal} {C : Cfg}
theorem RefW.hlt (h : RefW w B rb ao cap T C) : rb < w.heap.size := (Array.getElem?_eq_some_iff.1 h.row).1
theorem RefW.at_ (h : RefW w B rb ao cap T C) (i : Nat) : w.cell? ⟨rb, i, none⟩ = (rowR C (.slice ao T.length cap))[i]? := cell_of_row w rb i _ _ (0, 0) h.row
theorem RefW.fr (h : RefW w B rb ao cap T C) (i : Nat) : w.frozen? ⟨rb, i, none⟩ = false := frozen_of_row w rb i _ _ h.row
theorem RefW.keep {U : List Nat} (h : RefW w B rb ao cap T C) (k : Keep U w w') (h1 : rb ∉ U) (h2 : ∀ g ∈ blk ao, g ∉ U) : RefW w' B rb ao cap T C :=
  ⟨(k.block rb h.hlt h1).trans h.row, owns_keep h.own k (blk_own _ _ _ h2), h.ne, h.base, h.ids, h.fine, h.ok⟩
theorem RefW.below (h : RefW w B rb ao cap T C) (b : Below w.heap.size w w') : RefW w' B rb ao cap T C := h.keep (Keep.of_below b []) (by simp) (by simp)
/-- call k of the row -/
theorem RefW.cell (h : RefW w B rb ao cap T C) {k : Nat} {x : Cal} (hx : T[k]? = some x) : ∃ g, ao = some ⟨g, 0, none⟩ ∧ g < w.heap.size ∧ B ≤ g ∧ g ≠ rb ∧ ∀ i, i < 5 → w.cell? ⟨g, k * 5 + i, none⟩ = x.list[i]? := by
  have hk := (List.getElem?_eq_some_iff.1 hx).1
  obtain ⟨g, capx, hvx, hgl, hgb, hcell⟩ := owns_row5 h.own k hk hx
  have e1 : ao = some ⟨g, 0, none⟩ := by injection hvx
  exact ⟨g, e1, hgl, hgb, h.ne g (by rw [e1]; simp [blk]), hcell⟩
theorem live_take_succ {T : List Cal} {k : Nat} {x : Cal} (hx : T[k]? = some x) : live (T.take (k + 1)) = live (T.take k) ++ (if 0 < x.tries then [x] else []) := by
  have hk := (List.getElem?_eq_some_iff.1 hx).1
  have hx2 := (List.getElem?_eq_some_iff.1 hx).2
  unfold live
  rw [List.take_succ_eq_append_getElem hk, hx2, List.filter_append]
  congr 1
  by_cases h0 : 0 < x.tries
  · rw [if_pos h0, List.filter_cons_of_pos (by simp [liveB, h0])]; rfl
  · rw [if_neg h0, List.filter_cons_of_neg (by simp [liveB, h0])]; rfl
set_option maxRecDepth 100000 in
set_option maxHeartbeats 2000000 in
theorem count_any (w : World) (h : RefW w B rb ao cap T C) (hT : T.length ≤ 1000) : Calls Try.prog 46 #[.pointer (some ⟨rb, 0, none⟩)] w fun e w' => e = .returned (.int .i64 ((live T).length : Int)) ∧ w = w' := by
  have c4 := h.at_ 4
  simp only [rowR, List.getElem?_toArray, List.getElem?_cons_succ, List.getElem?_cons_zero] at c4
  have hlt := h.hlt
  have H := Lib.hid h
  obtain ⟨N, hN⟩ : ∃ N, T.length = N := ⟨_, rfl⟩
  rw [hN] at c4 hT
  have HN := Lib.hid hN
  clear h hN
  go_enter Try.func46, Try.ntmps46
  go_wp2_with fail
  go_loopw [3, 4] (fun v3 v4 wr => ∃ k n : Nat, v4 = .int .i64 (k : Int) ∧ v3 = .int .i64 (n : Int) ∧ k ≤ N ∧ n ≤ k ∧ Hid (n = (live (T.take k)).length) ∧ wr = w) (fun v3 v4 _ => N - (intOf v4).toNat)
  case atStart => exact ⟨0, 0, rfl, rfl, Nat.zero_le _, Nat.le_refl _, Lib.hid (by simp), rfl⟩
  case round =>
    obtain ⟨k, n, rfl, rfl, hk, hnk, hE, rfl⟩ := hrel
    by_cases hlt2 : k < N
    · obtain ⟨x, hx⟩ : ∃ x, T[k]? = some x := ⟨_, List.getElem?_eq_getElem (by rw [HN.out]; exact hlt2)⟩
      obtain ⟨g, hao, hgl, _, _, hcell⟩ := H.out.cell hx
      have x3 := hcell 3 (by omega)
      simp only [List.getElem?_cons_succ, List.getElem?_cons_zero] at x3
      have HS := Lib.hid (live_take_succ hx)
      subst hao
      clear hcell hx
      by_cases h0 : 0 < x.tries
      · have hd : decide ((x.tries : Int) > 0) = true := by simp; omega
        go_wp2_with fail
        go_roundw
        case rel => exact ⟨k + 1, n + 1, by go_num, by go_num, by omega, by omega, Lib.hid (by rw [HS.out, List.length_append, if_pos h0, ← hE.out]; rfl), trivial⟩
        case measure => simp [intOf]; omega
      · have hz : x.tries = 0 := by omega
        rw [hz] at x3
        go_wp2_with fail
        go_roundw
        case rel => exact ⟨k + 1, n, by go_num, rfl, by omega, by omega, Lib.hid (by rw [HS.out, List.length_append, if_neg h0, ← hE.out]; rfl), trivial⟩
        case measure => simp [intOf]; omega
    · obtain rfl : N = k := by omega
      have hT2 : T.take N = T := by rw [← HN.out]; exact List.take_length
      rw [hT2] at hE
      go_wp2_with fail
      go_ret
      exact ⟨ret_int (by rw [hE.out]), rfl⟩
end
end Go.Proofs.Ytjhdlohcjodgjaa
