/- slices.SortFunc at calls. -/
import Derived.Test.YtjhdlohcjodgjaaLay
import Derived.Test.YtjhdlohcjodgjaaRowsC
namespace Go.Proofs.Ytjhdlohcjodgjaa
open Go.RowKit
set_option linter.unusedVariables false

theorem get_flat (l : List Cal) (t : Nat) (h : t < l.length * 5) : ((fl Cal.list l)[t]? : Option Value) = some (Sort.flatK Cal.list 5 l.toArray)[t]! := by
  rw [Sort.get_flatK _ _ _ _ (by simpa using h)]
  have e : t = t / 5 * 5 + t % 5 := by omega
  have h5 : t / 5 < l.length := by omega
  have h6 : t % 5 < 5 := by omega
  have := lc_at l (t / 5) (t % 5) h6
  rw [← e] at this
  rw [show fl Cal.list l = lc l from rfl, this, List.getElem?_eq_getElem h5]
  simp [h5]
  have h7 : t % 5 < (Cal.list l[t / 5]).length := by simpa using h6
  rw [List.getElem?_eq_getElem h7]
  simp
def SortedBy (cf : Cal → Cal → Int) (l : List Cal) : Prop := l.Pairwise fun a b => ¬ cf b a < 0
set_option maxHeartbeats 1000000 in
theorem sort_rows (g : Nat) (cf : Cal → Cal → Int) (hO : Sort.SWO (ltOf cf)) (hg : ∀ args w, (callFunc g args).run Try.prog w = .ok (.enter g args) w)
    (hcmp : ∀ (x y : Cal) (w : World), Calls Try.prog g #[agv x, agv y] w fun e w' => e = .returned (.int .i64 (cf x y)) ∧ Gr w w')
    {w : World} {B n cap : Nat} {ao : Option Addr} {l : List Cal} (hown : w.ownsRow B 70 5 (.slice ao n cap) n (lc l)) (hn : n < 1000000000) :
    Calls Try.prog 47 #[.slice ao n cap, .func (.func g) #[] #[]] w fun e w' =>
      e = .returned (.tuple #[]) ∧ ∃ l', l'.Perm l ∧ SortedBy cf l' ∧ w'.ownsRow B 70 5 (.slice ao n cap) n (lc l') ∧ Keep (blk ao) w w' := by
  have hll : l.length = n := by have := hown.1; rw [lc_len] at this; omega
  rcases hown.2 with ⟨h2, h3⟩ | ⟨b, cap', cur, h2, hb, hh, h3, h4, h5, h6⟩
  · cases h2
    obtain rfl : l = [] := List.eq_nil_of_length_eq_zero hll
    have h := AnyF.slices_SortFunc_none (P := Try.prog) (ρ := sortCal_ren) { sortCal with } none 0 (.func (.func g) #[] #[]) w
    exact h.mono fun e w' ⟨h1, h2⟩ => ⟨h1, [], List.Perm.refl _, List.Pairwise.nil, by subst h2; exact hown, by subst h2; exact Keep.refl _ _⟩
  · cases h2
    have hcell : ∀ t, t < l.length * 5 → cur[t]? = some (Sort.flatK Cal.list 5 l.toArray)[t]! := fun t ht => by
      rw [← get_flat l t ht, show fl Cal.list l = lc l from rfl, ← h6, List.getElem?_take, if_pos (by omega), Array.getElem?_toList]
    have hH : Sort.HoldsK Cal.list 5 w b 0 l.toArray := fun j hj => by
      have hj' : j < l.length * 5 := by simpa using hj
      rw [Nat.zero_add]
      exact ⟨by rw [cell_of_row w b j cur _ (0, 0) hh, hcell j hj']; rfl, frozen_of_row w b j cur _ hh⟩
    have hlt : b < w.heap.size := (Array.getElem?_eq_some_iff.1 hh).1
    have h := AnyQ.slices_SortFunc (P := Try.prog) (ρ := sortCal_ren) { sortCal with } 5 (fun w => by kernel_rfl) (fun w => by kernel_rfl) Cal.list (fun _ => rfl) (fun x v hv => by simp at hv; rcases hv with rfl | rfl | rfl | rfl | rfl <;> rfl) cf hO g #[] b 0 cap l.toArray w hg
      (fun m os dk hd x y => hcmp x y _) hH hlt (by simp; omega)
    rw [show l.toArray.size = n by simpa using hll] at h
    refine h.mono fun e w' ⟨he, d', m, os, hp, hs, hw⟩ => ⟨he, d'.toList, ?_, ?_, ?_, ?_⟩
    · have e1 := hp.2.2
      have hsz : d'.size = l.toArray.size := hp.1
      simp only [List.size_toArray] at hsz
      rw [Array.extract_eq_self_of_le (by omega), Array.extract_eq_self_of_le (by simp; omega)] at e1
      exact e1
    · have hsz : d'.size = n := by rw [hp.1]; simpa using hll
      unfold SortedBy
      rw [List.pairwise_iff_getElem]
      intro i j hi hj hij
      simp at hi hj
      have e1 := hs i j (Nat.zero_le _) hij (by omega)
      unfold ltOf at e1
      simp [hi, hj] at e1 ⊢
      exact e1
    · have hsz : d'.size = n := by rw [hp.1]; simpa using hll
      refine ⟨by rw [lc_len]; simp [hsz], .inr ⟨b, cap, cur.mapIdx fun k x => if 0 ≤ k ∧ k < 0 + (Sort.flatK Cal.list 5 d').size then (Sort.flatK Cal.list 5 d')[k]! else x, rfl, hb, ?_, h3, h4, by simpa using h5, ?_⟩⟩
      · rw [hw]
        unfold sortWorldK
        rw [Sort.heap_grow_old _ _ (by simp [Sort.putRowK, Sort.putRow, Sort.mapBlock, Sort.ahead]; exact hlt)]
        simp only [Sort.putRowK, Sort.putRow, Sort.mapBlock, Sort.ahead, Array.getElem?_modify, if_pos, hh, Option.map_some, Sort.onCells, Sort.putCells]
        rfl
      · apply List.ext_getElem?
        intro t
        rw [List.getElem?_take]
        by_cases ht : t < n * 5
        · rw [if_pos ht, Array.getElem?_toList, Array.getElem?_mapIdx]
          have hlc : t < cur.size := by omega
          have e2 := get_flat d'.toList t (by simp [hsz]; exact ht)
          rw [e2]
          simp [hlc, hsz, ht]
        · rw [if_neg ht, List.getElem?_eq_none (by rw [lc_len]; simp [hsz]; omega)]
    · rw [hw]
      unfold sortWorldK
      refine ⟨rfl, rfl, rfl, by simp [Sort.grow, Sort.putRowK, Sort.putRow, Sort.mapBlock, Sort.ahead], fun k hk hn => ?_⟩
      rw [Sort.heap_grow_old _ _ (by simp [Sort.putRowK, Sort.putRow, Sort.mapBlock, Sort.ahead]; exact hk)]
      have : b ≠ k := fun e => hn (by simp [blk, e])
      simp [Sort.putRowK, Sort.putRow, Sort.mapBlock, Sort.ahead, Array.getElem?_modify, this]
end Go.Proofs.Ytjhdlohcjodgjaa
