/- Elements of a row of the call's own: read, written. -/
import Derived.Test.YtbjcmomicjdepaaCn
namespace Go.Proofs.Ytbjcmomicjdepaa
open Go.RowKit Go.Sort
set_option linter.unusedVariables false
set_option linter.unusedSectionVars false
set_option maxRecDepth 100000

def lay (cur : Array Value) : Nat → List Value → Array Value
  | _, [] => cur
  | o, v :: r => lay (cur.setIfInBounds o v) (o + 1) r
theorem lay_size : ∀ (vs : List Value) (o : Nat) (cur : Array Value), (lay cur o vs).size = cur.size
  | [], _, _ => rfl
  | v :: r, o, cur => by rw [lay, lay_size r]; simp
theorem lay_out : ∀ (vs : List Value) (o : Nat) (cur : Array Value) (q : Nat), (q < o ∨ o + vs.length ≤ q) → (lay cur o vs)[q]? = cur[q]?
  | [], _, _, _, _ => rfl
  | v :: r, o, cur, q, h => by
    simp only [List.length_cons] at h
    rw [lay, lay_out r (o + 1) _ q (by omega), Array.getElem?_setIfInBounds_ne (by omega)]
theorem lay_in : ∀ (vs : List Value) (o : Nat) (cur : Array Value) (i : Nat), o + vs.length ≤ cur.size → i < vs.length → (lay cur o vs)[o + i]? = vs[i]?
  | [], _, _, i, _, h => by simp at h
  | v :: r, o, cur, 0, h, _ => by
    simp only [List.length_cons] at h
    rw [lay, lay_out r (o + 1) _ (o + 0) (by omega)]
    rw [Nat.add_zero, Array.getElem?_setIfInBounds_self_of_lt (by omega)]; rfl
  | v :: r, o, cur, i + 1, h, hi => by
    simp only [List.length_cons] at h hi
    rw [lay, show o + (i + 1) = o + 1 + i by omega, lay_in r (o + 1) _ i (by simp; omega) (by omega)]; rfl
theorem lay_all (vs : List Value) (cur : Array Value) (h : vs.length = cur.size) : lay cur 0 vs = ⟨vs⟩ := by
  apply Array.ext_getElem?
  intro q
  by_cases hq : q < vs.length
  · have := lay_in vs 0 cur q (by omega) hq
    rw [Nat.zero_add] at this
    rw [this]; simp
  · rw [Array.getElem?_eq_none (by rw [lay_size]; omega), Array.getElem?_eq_none (by simpa using hq)]
theorem heap_lay (g : Nat) (t : TypeId) : ∀ (vs : List Value) (o : Nat) (w : World) (cur : Array Value), w.heap[g]? = some (.cells cur t (0, 0)) → (w.setCells g o vs).heap[g]? = some (.cells (lay cur o vs) t (0, 0))
  | [], _, _, _, h => h
  | v :: r, o, w, cur, h => by
    rw [World.setCells, lay]
    exact heap_lay g t r (o + 1) _ _ (heap_setCell_same w g o cur _ _ h)
theorem keep_setCells (g : Nat) : ∀ (vs : List Value) (o : Nat) (w : World), Keep [g] w (w.setCells g o vs)
  | [], _, w => Keep.refl _ _
  | v :: r, o, w => by
    rw [World.setCells]
    exact (Keep.setCell w ⟨g, o, none⟩ v).trans (keep_setCells g r (o + 1) _)
section
variable {α : Type} {c : α → List Value} {w : World} {B z n cap g : Nat} {e : TypeId} {ao : Option Addr} {l : List α}
theorem own_elem (hz : ∀ t, (c t).length = z) (h : w.ownsRow B e z (.slice ao n cap) n (fl c l)) (hl : l.length = n) {j : Nat} {x : α} (hx : l[j]? = some x) :
    ∃ g, ao = some ⟨g, 0, none⟩ ∧ B ≤ g ∧ g < w.heap.size ∧ n ≤ cap ∧ w.rangeAt g (j * z) (c x) ∧ w.there g (j * z) z ∧ ∀ q, w.frozen? ⟨g, q, none⟩ = false := by
  have hj : j < n := by rw [← hl]; exact (List.getElem?_eq_some_iff.1 hx).1
  have hr := Rds.of_own hz hl h j (c x) (by rw [List.getElem?_map, hx]; rfl)
  rcases h.2 with ⟨h2, h3⟩ | ⟨g', cap', cur, h2, hb, hg', h3, h4, h5, h6⟩
  · omega
  · cases h2
    obtain ⟨g2, o2, e2, hg2, hc⟩ := hr
    cases e2
    refine ⟨g', rfl, hb, hg2, h3, fun q v hq => ?_, fun q hq => ⟨?_, frozen_of_row w g' _ cur _ hg'⟩, fun q => frozen_of_row w g' q cur _ hg'⟩
    · have := hc q v hq
      rwa [Nat.zero_add] at this
    · have := hc q _ (List.getElem?_eq_getElem (by rw [hz]; exact hq))
      rw [Nat.zero_add] at this
      rw [this]; rfl
theorem own_setCells (hz : ∀ t, (c t).length = z) (h : w.ownsRow B e z (.slice (some ⟨g, 0, none⟩) n cap) n (fl c l)) (hl : l.length = n) {j : Nat} (hj : j < n) (x : α) :
    (w.setCells g (j * z) (c x)).ownsRow B e z (.slice (some ⟨g, 0, none⟩) n cap) n (fl c (l.set j x)) := by
  have hjz : j * z + z ≤ n * z := by
    have : (j + 1) * z ≤ n * z := Nat.mul_le_mul_right z hj
    rwa [Nat.add_mul, Nat.one_mul] at this
  refine ⟨by rw [fl_len hz, List.length_set, hl], ?_⟩
  rcases h.2 with ⟨h2, h3⟩ | ⟨g', cap', cur, h2, hb, hg', h3, h4, h5, h6⟩
  · omega
  · cases h2
    have hcz : n * z ≤ cur.size := by rw [h5]; exact Nat.mul_le_mul_right z h3
    have hcut : ∀ q, q < n * z → cur[q]? = (fl c l)[q]? := fun q hq => by
      rw [← h6, List.getElem?_take, if_pos hq, Array.getElem?_toList]
    refine .inr ⟨g, cap, lay cur (j * z) (c x), rfl, hb, heap_lay g e (c x) (j * z) w cur hg', h3, h4, by rw [lay_size, h5], ?_⟩
    refine fl_set hz l j x _ ?_ (by omega) (fun i hi => ?_) (fun q hq => ?_)
    · rw [List.length_take, Array.length_toList, lay_size, fl_len hz, hl]; omega
    · rw [List.getElem?_take, if_pos (by omega), Array.getElem?_toList, lay_in _ _ _ _ (by rw [hz]; omega) (by rw [hz]; exact hi)]
    · by_cases hqn : q < n * z
      · rw [List.getElem?_take, if_pos hqn, Array.getElem?_toList, lay_out _ _ _ _ (by rw [hz]; exact hq), hcut q hqn]
      · rw [List.getElem?_take, if_neg hqn, List.getElem?_eq_none (by rw [fl_len hz, hl]; omega)]
theorem set_self_id (l : List α) (j : Nat) (x : α) (h : l[j]? = some x) : l.set j x = l := by
  apply List.ext_getElem?
  intro q
  by_cases e : q = j
  · subst e
    rw [List.getElem?_set_self (List.getElem?_eq_some_iff.1 h).1, h]
  · rw [List.getElem?_set_ne (Ne.symm e)]
theorem own_setCells_same (hz : ∀ t, (c t).length = z) (h : w.ownsRow B e z (.slice (some ⟨g, 0, none⟩) n cap) n (fl c l)) (hl : l.length = n) {j : Nat} {x : α} (hx : l[j]? = some x) :
    (w.setCells g (j * z) (c x)).ownsRow B e z (.slice (some ⟨g, 0, none⟩) n cap) n (fl c l) := by
  have := own_setCells hz h hl (j := j) (by rw [← hl]; exact (List.getElem?_eq_some_iff.1 hx).1) x
  rwa [set_self_id l j x hx] at this
end
/-- an owned row, behind what makes memory only -/
theorem own_below {w w' : World} {B z n : Nat} {e : TypeId} {v : Value} {xs : List Value} (h : w.ownsRow B e z v n xs) (b : Below w.heap.size w w') : w'.ownsRow B e z v n xs := owns_keep h (Keep.of_below b []) (by simp)
theorem EsO.keep {w w' : World} {B : Nat} {s : Sd} {es : List En} {U : List Nat} (h : EsO w B s es) (k : Keep U w w') (hn : ∀ g ∈ blk s.ao, g ∉ U) : EsO w' B s es := owns_keep h k (blk_own _ _ _ hn)
theorem EsO.blk {w : World} {B : Nat} {s : Sd} {es : List En} (h : EsO w B s es) : ∀ g ∈ blk s.ao, B ≤ g ∧ g < w.heap.size := owns_blk h
theorem EsO.base {w : World} {B B' : Nat} {s : Sd} {es : List En} (h : EsO w B s es) (hb : B' ≤ B) : EsO w B' s es := owns_base h hb
end Go.Proofs.Ytbjcmomicjdepaa
