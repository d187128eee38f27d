/- NetPlays: the twin's own list. -/
import Derived.Test.YthanjfnpohhebaaTid
import Derived.Test.YthanjfnpohhebaaNums
namespace Go.Proofs.Ythanjfnpohhebaa
open Go.RowKit Go.Sort
set_option linter.unusedVariables false
set_option linter.unusedSectionVars false
set_option linter.unusedSimpArgs false
set_option maxRecDepth 100000
section
variable {w w' : World} {B tb hn nb room made last : Nat} {tg : Nat → Nat} {S D L V : List Pkt} {T T2 : Tr}
set_option maxHeartbeats 3200000 in
theorem tlist_any (w : World) (h : TwW w B tb tg hn nb room S made T D last T2 L V) (ha : Alike S D) (hmade : made < 18446744073709551616) :
    Calls Try.prog 29 #[.pointer (some ⟨tb, 0, none⟩)] w fun e w' => e = .returned (.bool true) ∧ Below w.heap.size w w' := by
  obtain ⟨c0, c1, hlt⟩ := h.cells
  obtain ⟨Bs, hN, _⟩ := h.net
  obtain ⟨lo, lc, hr, _⟩ := h.rn
  have LI := Lib.hid (list_any w hN hmade)
  have HR := Lib.hid hr
  have hnl := hr.lt
  have hfew := hr.few
  have HA := Lib.hid ha.ids
  have HTW := Lib.hid h
  obtain ⟨m, hm⟩ : ∃ m, D.length = m := ⟨_, rfl⟩
  rw [hm] at hfew
  have hmi : (m : Int) ≤ 4096 := by omega
  have HM := Lib.hid hm
  have hml : (S.map (·.id)).length = m := by rw [List.length_map, ha.len, hm]
  have HML := Lib.hid hml
  clear h hN hr ha hm hml
  go_enter Try.func29, Try.ntmps29
  go_wp2_with fail
  refine LI.out.mono ?_; rintro e w1 ⟨v, rfl, b1, hnum⟩
  have c1a := (b1.cell (p := ⟨tb, 1, none⟩) hlt).trans c1
  have hlt1 : tb < w1.heap.size := Nat.lt_of_lt_of_le hlt b1.size
  have HR1 := Lib.hid (HR.out.below b1)
  have r2 := HR1.out.at_ 2
  simp only [rowR, List.getElem?_toArray, List.getElem?_cons_succ, List.getElem?_cons_zero] at r2
  rw [HM.out] at r2
  have B1 := Lib.hid b1
  have hnl1 : nb < w1.heap.size := HR1.out.lt
  have hs1 := b1.size
  clear b1 c0 c1
  rcases hnum with ⟨rfl, hnil⟩ | ⟨g, cap, row, rfl, hg, hcap, hmax, hrow, hcells⟩
  · obtain rfl : m = 0 := by rw [← HML.out, hnil]; rfl
    have e0 : (((0 : Nat) : Int) != ((0 : Nat) : Int)) = false := by simp
    have HB0 := B1
    clear hnil
    go_wp2_with fail
    go_loopw [4] (fun v4 wr => v4 = .int .i64 0 ∧ wr = w1) (fun _ _ => 0)
    case atStart => exact ⟨rfl, rfl⟩
    case round =>
      obtain ⟨rfl, rfl⟩ := hrel
      go_wp2_with fail
      go_ret
      exact ⟨rfl, B1.out⟩
  · rw [HML.out] at hcap hcells ⊢
    have e0 : ((m : Int) != (m : Int)) = false := by simp
    have HG := Lib.hid hg
    have hgl : g < w1.heap.size := (Array.getElem?_eq_some_iff.1 hrow).1
    have HC := Lib.hid hcells
    have HRW := Lib.hid hrow
    clear hrow hcells hcap hmax
    go_wp2_with fail
    go_loopw [4] (fun v4 wr => ∃ (j : Nat) (row' : Array Value), v4 = .int .i64 (j : Int) ∧ j ≤ m ∧ Keep [g] w1 wr ∧ wr.heap[g]? = some (.cells row' 30 (0, 0)) ∧ ∀ k, j ≤ k → k < m → row'[k]? = some (u64v ((S.map (·.id)).getD k 0))) (fun v4 _ => m - (intOf v4).toNat)
    case atStart => exact ⟨0, row, rfl, Nat.zero_le _, Keep.refl _ _, HRW.out, fun k _ hk => HC.out k hk⟩
    case round =>
      obtain ⟨j, row', rfl, hj, hk, hrow, hcells⟩ := hrel
      have hgn : ∀ q, q < w.heap.size → q ∉ [g] := fun q hq hm => by simp only [List.mem_singleton] at hm; have := HG.out; omega
      by_cases hjm : j < m
      · have HRr := Lib.hid (HR1.out.keep hk (fun q hq => hgn q (HR.out.blocks q hq).2))
        have c1b := (hk.cell (a := ⟨tb, 1, none⟩) hlt1 (hgn tb hlt)).trans c1a
        have r2b := (hk.cell (a := ⟨nb, 2, none⟩) hnl1 (hgn nb hnl)).trans r2
        obtain ⟨q, hq⟩ : ∃ q, D[j]? = some q := ⟨_, List.getElem?_eq_getElem (by rw [HM.out]; exact hjm)⟩
        have hqi : (S.map (·.id)).getD j 0 = q.id := by rw [HA.out, List.getD_eq_getElem?_getD, List.getElem?_map, hq]; rfl
        obtain ⟨gd, rfl, hgd, hc⟩ := HRr.out.pkt hq
        have d0 := hc 0 (by omega)
        simp only [List.getElem?_cons_zero, Nat.add_zero] at d0
        have n0 : wr.cell? ⟨g, j, none⟩ = some (.int .u64 (q.id : Int)) := by
          rw [cell_of_row wr g j _ _ (0, 0) hrow, hcells j (Nat.le_refl _) hjm, hqi]
        have nf : wr.frozen? ⟨g, j, none⟩ = false := frozen_of_row wr g j _ _ hrow
        have hjj0 : (0 : Int) ≤ (j : Int) := by omega
        have hjjm : (j : Int) < (m : Int) := by omega
        have e1 : ((q.id : Int) != (q.id : Int)) = false := by simp
        have hgw : g < wr.heap.size := (Array.getElem?_eq_some_iff.1 hrow).1
        have HK := Lib.hid hk; have HRO := Lib.hid hrow; have HCE := Lib.hid hcells
        clear hk hrow hcells hc hq hqi
        go_wp2_with fail
        go_quiet (fail)
        have b2 := below_drewN (Below.refl wr.heap.size wr) nq
        have n0' := (b2.cell (p := ⟨g, j, none⟩) hgw).trans n0
        have nf' := (b2.frozen (p := ⟨g, j, none⟩) hgw).trans nf
        have HRO2 := Lib.hid (row_keep HRO.out (Keep.of_below b2 []) (by simp))
        have HK2 := Lib.hid (HK.out.trans (Keep.of_below b2 _))
        clear n0 nf c1b r2b d0 b2
        generalize wr.drewN nq = w2 at *
        go_wp2_with fail
        go_roundw
        case rel =>
          refine ⟨j + 1, row'.setIfInBounds j (.int .u64 0), by go_num, by omega, HK2.out.trans (Keep.setCell w2 ⟨g, j, none⟩ (.int .u64 0)), heap_setCell_same w2 g j _ _ _ HRO2.out, fun k hk1 hk2 => ?_⟩
          rw [Array.getElem?_setIfInBounds_ne (by omega)]
          exact HCE.out k (by omega) hk2
        case measure => simp [intOf]; omega
      · obtain rfl : j = m := by omega
        have HK := Lib.hid hk
        clear hk hrow hcells
        go_wp2_with fail
        go_ret
        exact ⟨rfl, B1.out.trans (HK.out.below hs1 (by intro q hq; simp only [List.mem_singleton] at hq; have := HG.out; omega))⟩
end
end Go.Proofs.Ythanjfnpohhebaa
