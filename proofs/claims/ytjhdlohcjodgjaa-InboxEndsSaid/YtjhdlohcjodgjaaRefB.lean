/- The document's calls: List, Same. -/
import Derived.Test.YtjhdlohcjodgjaaRefA
import Derived.Laws.StructEq
namespace Go.Proofs.Ytjhdlohcjodgjaa
open Go.RowKit
set_option linter.unusedVariables false

section
variable {w w' : World} {B rb cap : Nat} {ao : Option Addr} {T : List Cal} {C : Cfg}
set_option maxRecDepth 100000 in
set_option maxHeartbeats 4000000 in
theorem rlist_any (w : World) (h : RefW w B rb ao cap T C) (hT : T.length ≤ 1000) : Calls Try.prog 21 #[.pointer (some ⟨rb, 0, none⟩)] w fun e w' =>
    ∃ v, e = .returned v ∧ Below w.heap.size w w' ∧ w'.ownsRow w.heap.size 70 5 v (live T).length (lc (live T)) := by
  have c4 := h.at_ 4
  simp only [rowR, List.getElem?_toArray, List.getElem?_cons_succ, List.getElem?_cons_zero] at c4
  have hlt := h.hlt
  have H := Lib.hid h
  obtain ⟨i0, hi, hz0, hz1, hz2⟩ := info_parts call_info
  have HI := Lib.hid hi; have HZ0 := Lib.hid hz0; have HZ1 := Lib.hid hz1; have HZ2 := Lib.hid hz2
  obtain ⟨N, hN⟩ : ∃ N, T.length = N := ⟨_, rfl⟩
  rw [hN] at c4 hT
  have HN := Lib.hid hN
  have C4 := Lib.hid c4
  clear h hN hi hz0 hz1 hz2
  go_enter Try.func21, Try.ntmps21
  go_wp2_with fail
  clear c4
  go_loopw [3, 4] (fun v3 v4 wr => ∃ k : Nat, v4 = .int .i64 (k : Int) ∧ k ≤ N ∧ Below w.heap.size w wr ∧ wr.ownsRow w.heap.size 70 5 v3 (live (T.take k)).length (lc (live (T.take k)))) (fun v3 v4 _ => N - (intOf v4).toNat)
  case atStart => exact ⟨0, rfl, Nat.zero_le _, Below.refl _ _, World.ownsRow_nil _ _ _ _⟩
  case round =>
    obtain ⟨k, rfl, hk, hb, hown⟩ := hrel
    have c4 := (hb.cell (p := ⟨rb, 4, none⟩) hlt).trans C4.out
    have hltr : rb < wr.heap.size := Nat.lt_of_lt_of_le hlt hb.size
    have BB := Lib.hid hb; have OW := Lib.hid hown
    obtain ⟨ao3, cap3, hv3, hle3, hmx3⟩ := owns_shape hown
    subst hv3
    by_cases hlt2 : k < N
    · obtain ⟨x, hx⟩ : ∃ x, T[k]? = some x := ⟨_, List.getElem?_eq_getElem (by rw [HN.out]; exact hlt2)⟩
      obtain ⟨g, hao, hgl, _, _, hcell⟩ := H.out.cell hx
      have hcell2 : ∀ i, i < 5 → wr.cell? ⟨g, k * 5 + i, none⟩ = x.list[i]? := fun i hi => (hb.cell (p := ⟨g, k * 5 + i, none⟩) hgl).trans (hcell i hi)
      have x0 := hcell2 0 (by omega); have x1 := hcell2 1 (by omega); have x2 := hcell2 2 (by omega); have x3 := hcell2 3 (by omega); have x4 := hcell2 4 (by omega)
      simp only [Nat.add_zero, List.getElem?_cons_succ, List.getElem?_cons_zero] at x0 x1 x2 x3 x4
      have HS := Lib.hid (live_take_succ hx)
      have hglr : g < wr.heap.size := Nat.lt_of_lt_of_le hgl hb.size
      have hfew : (live (T.take k)).length ≤ k := by have := List.length_filter_le liveB (T.take k); rw [List.length_take] at this; unfold live; omega
      have hsz := hb.size
      subst hao
      clear hcell hcell2 hx hb hown
      obtain ⟨xi, xt, xs, xtr, xd⟩ := x
      simp only at x0 x1 x2 x3 x4
      by_cases h0 : 0 < xtr
      · have hd : decide ((xtr : Int) > 0) = true := by simp; omega
        rw [if_pos h0] at HS
        have HS2 := Lib.hid (show ∀ (v' : Value) (w5 : World), w5.ownsRow w.heap.size 70 5 v' ((live (T.take k)).length + 1) (lc (live (T.take k)) ++ Cal.list ⟨xi, xt, xs, xtr, xd⟩) → w5.ownsRow w.heap.size 70 5 v' (live (T.take (k + 1))).length (lc (live (T.take (k + 1)))) from fun v' w5 ho => by
          rw [HS.out, List.length_append, lc, fl_app, fl_one]; exact ho)
        have hbb : Below w.heap.size w (wr.alloc (boxc ⟨xi, xt, xs, xtr, xd⟩)) := below_alloc BB.out _
        have HBB := Lib.hid hbb
        have OWA := Lib.hid (OW.out.alloc (boxc ⟨xi, xt, xs, xtr, xd⟩))
        have NB := Lib.hid (fun g hg => (owns_lt OW.out g hg).1)
        generalize (live (T.take k)).length = L at *
        clear HS hbb
        go_wp2_with (at_builtin; refine wpList_append_own _ rfl (.tmp 23) (.tmp 31) 50 rfl w.heap.size 70 i0 zpk 5 40 Try.underlying50 HI.out HZ0.out HZ1.out HZ2.out rfl (by omega) _ L _ rfl OWA.out ⟨wr.heap.size, 0, none⟩ 1 1 (Cal.list ⟨xi, xt, xs, xtr, xd⟩) rfl rfl (World.news_of_block (cs := Cal.cells ⟨xi, xt, xs, xtr, xd⟩) (t := 70) (fr := (0, 0)) (heap_alloc_new wr _)) (by simp [Value.oneCell']) (by unfold maxLen; omega) (by omega) (by simp; omega) ?_; intro v8 w5 hown5 hg5 hv5)
        have hb5 : Below w.heap.size w w5 := HBB.out.grown hg5 (by simp; omega) (fun g hg => NB.out g hg)
        have ho5 := HS2.out v8 w5 hown5
        clear hown5 hg5 hv5 OWA NB HS2
        go_wp2_with fail
        go_roundw
        case rel => exact ⟨k + 1, by go_num, by omega, hb5, ho5⟩
        case measure => simp [intOf]; omega
      · have hz : xtr = 0 := by omega
        subst hz
        rw [if_neg h0, List.append_nil] at HS
        go_wp2_with fail
        go_roundw
        case rel => exact ⟨k + 1, by go_num, by omega, BB.out, by rw [HS.out]; exact OW.out⟩
        case measure => simp [intOf]; omega
    · obtain rfl : N = k := by omega
      have hT2 : T.take N = T := by rw [← HN.out]; exact List.take_length
      rw [hT2] at OW hown
      rw [hT2]
      clear hown
      go_wp2_with fail
      go_ret
      exact ⟨_, rfl, BB.out, OW.out⟩
set_option maxRecDepth 100000 in
set_option maxHeartbeats 4000000 in
theorem rsame_any {B1 B2 : Nat} {va vb : Value} {l : List Cal} (w : World) (h1 : w.ownsRow B1 70 5 va l.length (lc l)) (h2 : w.ownsRow B2 70 5 vb l.length (lc l)) (hT : l.length ≤ 1000) :
    Calls Try.prog 19 #[va, vb] w fun e w' => e = .returned (.bool true) ∧ Below w.heap.size w w' := by
  obtain ⟨ao1, cap1, hv1, hle1, hmx1⟩ := owns_shape h1
  obtain ⟨ao2, cap2, hv2, hle2, hmx2⟩ := owns_shape h2
  subst hv1 hv2
  have H1 := Lib.hid h1; have H2 := Lib.hid h2
  obtain ⟨N, hN⟩ : ∃ N, l.length = N := ⟨_, rfl⟩
  rw [hN] at hT hle1 hle2
  rw [hN]
  have HN := Lib.hid hN
  clear h1 h2 hN
  go_enter Try.func19, Try.ntmps19
  go_wp2_with fail
  go_loopw [5] (fun v5 wr => ∃ k : Nat, v5 = .int .i64 (k : Int) ∧ k ≤ N ∧ Below w.heap.size w wr) (fun v5 _ => N - (intOf v5).toNat)
  case atStart => exact ⟨0, rfl, Nat.zero_le _, Below.refl _ _⟩
  case round =>
    obtain ⟨k, rfl, hk, hb⟩ := hrel
    have BB := Lib.hid hb
    by_cases hlt2 : k < N
    · obtain ⟨x, hx⟩ : ∃ x, l[k]? = some x := ⟨_, List.getElem?_eq_getElem (by rw [HN.out]; exact hlt2)⟩
      obtain ⟨g1, c1, hvx1, hgl1, _, hcell1⟩ := owns_row5 H1.out k (by rw [HN.out]; exact hlt2) hx
      obtain ⟨g2, c2, hvx2, hgl2, _, hcell2⟩ := owns_row5 H2.out k (by rw [HN.out]; exact hlt2) hx
      have e1 : ao1 = some ⟨g1, 0, none⟩ := by injection hvx1
      have e2 : ao2 = some ⟨g2, 0, none⟩ := by injection hvx2
      subst e1 e2
      have ha : ∀ i, i < 5 → wr.cell? ⟨g1, k * 5 + i, none⟩ = x.list[i]? := fun i hi => (hb.cell (p := ⟨g1, k * 5 + i, none⟩) hgl1).trans (hcell1 i hi)
      have hc : ∀ i, i < 5 → wr.cell? ⟨g2, k * 5 + i, none⟩ = x.list[i]? := fun i hi => (hb.cell (p := ⟨g2, k * 5 + i, none⟩) hgl2).trans (hcell2 i hi)
      have x0 := ha 0 (by omega); have x1 := ha 1 (by omega); have x2 := ha 2 (by omega); have x3 := ha 3 (by omega); have x4 := ha 4 (by omega)
      have y0 := hc 0 (by omega); have y1 := hc 1 (by omega); have y2 := hc 2 (by omega); have y3 := hc 3 (by omega); have y4 := hc 4 (by omega)
      simp only [Nat.add_zero, List.getElem?_cons_succ, List.getElem?_cons_zero] at x0 x1 x2 x3 x4 y0 y1 y2 y3 y4
      obtain ⟨xi, xt, xs, xtr, xd⟩ := x
      simp only at x0 x1 x2 x3 x4 y0 y1 y2 y3 y4
      clear ha hc hcell1 hcell2 hx hb hvx1 hvx2
      go_wp2_with fail
      go_region
      go_wp2_with fail
      go_roundw
      case rel => exact ⟨k + 1, by go_num, by omega, BB.out.drew⟩
      case measure => simp [intOf]; omega
    · obtain rfl : N = k := by omega
      clear hb
      go_wp2_with fail
      go_ret
      exact ⟨rfl, BB.out⟩
end
end Go.Proofs.Ytjhdlohcjodgjaa
