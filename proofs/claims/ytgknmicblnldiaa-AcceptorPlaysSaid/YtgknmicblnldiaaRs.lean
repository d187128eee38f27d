/- An entry of the document's table is laid anew. -/
import Derived.Test.YtgknmicblnldiaaRw
namespace Go.Proofs.Ytgknmicblnldiaa
open Go.RowKit Go.Sort
set_option linter.unusedVariables false

abbrev Ret (n : Nat) (xs : Array Value) (r : Ending) : Prop := ∀ w, Calls Try.prog n xs w fun e w' => e = r ∧ Below w.heap.size w w'
theorem Ret.re {n : Nat} {xs : Array Value} {v : Value} (h : Ret n xs (.returned v)) (w : World) (d : Nat) (os : Array Obj) :
    Calls Try.prog n xs (grow (redrawn w d) os) fun e w'' => e = .returned v ∧ ∃ p : Regrown, w'' = grow (redrawn w p.d) p.os := Calls.regrown_of (h _)
section
variable {w w' : World} {B hb cap most : Nat} {ao : Option Addr} {S : List En} {Bs : List Nat}
theorem owns_putq {e : TypeId} {z n cap g : Nat} {xs : List Value} (ho : w.ownsRow B e z (.slice (some ⟨g, 0, none⟩) n cap) n xs) (q : Nat) (hq : q < n * z) (v : Value) : (w.setCell ⟨g, q, none⟩ v).ownsRow B e z (.slice (some ⟨g, 0, none⟩) n cap) n (xs.set q v) := by
  refine ⟨by rw [List.length_set]; exact ho.1, ?_⟩
  have hl := ho.1
  rcases ho.2 with ⟨h2, h3⟩ | ⟨g', cap', cur, h2, hb, hg, h3, h4, h5, h6⟩
  · cases h2
  · cases h2
    have hcz : n * z ≤ cap * z := Nat.mul_le_mul_right z h3
    have hcs : q < cur.toList.length := by
      have h7 := congrArg List.length h6
      simp only [List.length_take] at h7
      omega
    refine .inr ⟨g, cap, cur.setIfInBounds q v, rfl, hb, heap_setCell_same w g q cur _ _ hg, h3, h4, by simpa using h5, ?_⟩
    rw [← h6]
    apply List.ext_getElem?
    intro k
    rw [List.getElem?_take]
    by_cases hk : k < n * z
    · rw [if_pos hk, Array.getElem?_toList]
      by_cases ek : k = q
      · subst ek
        rw [Array.getElem?_setIfInBounds_self_of_lt (by simpa using hcs), List.getElem?_set_self (by rw [List.length_take]; omega)]
      · rw [Array.getElem?_setIfInBounds_ne (by omega), List.getElem?_set_ne (by omega), List.getElem?_take, if_pos hk, Array.getElem?_toList]
    · rw [if_neg hk, List.getElem?_eq_none (by rw [List.length_set, List.length_take]; omega)]
theorem set2_fl {j : Nat} {e : En} (hj : S[j]? = some e) (b : Bl) : ((fl c10 S).set (j * 10 + 4) (.int .u32 b.round)).set (j * 10 + 5) (.int .u8 b.node) = fl c10 (S.set j ⟨e.i, ⟨b, e.r.a⟩⟩) := by
  have hjl := (List.getElem?_eq_some_iff.1 hj).1
  have hl : (fl c10 S).length = S.length * 10 := fl_len c10_len S
  refine fl_set c10_len S j _ _ (by simp) hjl (fun i hi => ?_) (fun q hq => ?_)
  · have h0 := fl_at c10_len S j i hi
    rw [hj] at h0
    by_cases e5 : i = 5
    · subst e5
      rw [List.getElem?_set_self (by rw [List.length_set]; omega)]; rfl
    · rw [List.getElem?_set_ne (by omega)]
      by_cases e4 : i = 4
      · subst e4
        rw [List.getElem?_set_self (by omega)]; rfl
      · rw [List.getElem?_set_ne (by omega), h0]
        have : i = 0 ∨ i = 1 ∨ i = 2 ∨ i = 3 ∨ i = 6 ∨ i = 7 ∨ i = 8 ∨ i = 9 := by omega
        rcases this with rfl | rfl | rfl | rfl | rfl | rfl | rfl | rfl <;> rfl
  · rw [List.getElem?_set_ne (by omega), List.getElem?_set_ne (by omega)]
theorem set4_fl {j : Nat} {e : En} (hj : S[j]? = some e) (a : Ac) : ((((fl c10 S).set (j * 10 + 6) (.bool a.is)).set (j * 10 + 7) (.int .u32 a.b.round)).set (j * 10 + 8) (.int .u8 a.b.node)).set (j * 10 + 9) (.string a.v) = fl c10 (S.set j ⟨e.i, ⟨e.r.p, a⟩⟩) := by
  have hjl := (List.getElem?_eq_some_iff.1 hj).1
  have hl : (fl c10 S).length = S.length * 10 := fl_len c10_len S
  refine fl_set c10_len S j _ _ (by simp) hjl (fun i hi => ?_) (fun q hq => ?_)
  · have h0 := fl_at c10_len S j i hi
    rw [hj] at h0
    by_cases e9 : i = 9
    · subst e9
      rw [List.getElem?_set_self (by simp; omega)]; rfl
    · rw [List.getElem?_set_ne (by omega)]
      by_cases e8 : i = 8
      · subst e8
        rw [List.getElem?_set_self (by simp; omega)]; rfl
      · rw [List.getElem?_set_ne (by omega)]
        by_cases e7 : i = 7
        · subst e7
          rw [List.getElem?_set_self (by simp; omega)]; rfl
        · rw [List.getElem?_set_ne (by omega)]
          by_cases e6 : i = 6
          · subst e6
            rw [List.getElem?_set_self (by omega)]; rfl
          · rw [List.getElem?_set_ne (by omega), h0]
            have : i = 0 ∨ i = 1 ∨ i = 2 ∨ i = 3 ∨ i = 4 ∨ i = 5 := by omega
            rcases this with rfl | rfl | rfl | rfl | rfl | rfl <;> rfl
  · rw [List.getElem?_set_ne (by omega), List.getElem?_set_ne (by omega), List.getElem?_set_ne (by omega), List.getElem?_set_ne (by omega)]
theorem set_ids {j : Nat} {e e2 : En} (hj : S[j]? = some e) (hid : e2.i = e.i) : (S.set j e2).map (·.i) = S.map (·.i) := by
  rw [List.map_set]
  apply List.ext_getElem?
  intro q
  by_cases h : j = q
  · subst h
    rw [List.getElem?_set_self (by rw [List.length_map]; exact (List.getElem?_eq_some_iff.1 hj).1), List.getElem?_map, hj, hid]; rfl
  · rw [List.getElem?_set_ne h]
theorem one_ids {S T : List En} (h : S.map (·.i) = T.map (·.i)) (hS : One S) : One T := by
  have h1 : (S.map (·.i)).Pairwise (· ≠ ·) := List.pairwise_map.2 hS
  rw [h] at h1
  exact List.pairwise_map.1 h1
theorem RfW.setE {w2 : World} {j g : Nat} {e e2 : En} (h : RfW w B hb (some ⟨g, 0, none⟩) cap S most) (hj : S[j]? = some e) (hid : e2.i = e.i) (k : Keep [g] w w2) (hown : w2.ownsRow B 61 10 (.slice (some ⟨g, 0, none⟩) S.length cap) S.length (fl c10 (S.set j e2))) :
    RfW w2 B hb (some ⟨g, 0, none⟩) cap (S.set j e2) most := by
  have hne : hb ∉ [g] := by
    have := h.apart
    simpa [blk] using this
  exact ⟨by rw [List.length_set]; exact (k.block hb h.hlt hne).trans h.row, by rw [List.length_set]; exact hown, h.base, h.apart, one_ids (set_ids hj hid).symm h.one, by rw [List.length_set]; exact h.few, h.m2⟩
theorem RfW.setP {j g : Nat} {e : En} (h : RfW w B hb (some ⟨g, 0, none⟩) cap S most) (hj : S[j]? = some e) (b : Bl) :
    RfW ((w.setCell ⟨g, j * 10 + 4, none⟩ (.int .u32 b.round)).setCell ⟨g, j * 10 + 5, none⟩ (.int .u8 b.node)) B hb (some ⟨g, 0, none⟩) cap (S.set j ⟨e.i, ⟨b, e.r.a⟩⟩) most ∧ Keep [g] w ((w.setCell ⟨g, j * 10 + 4, none⟩ (.int .u32 b.round)).setCell ⟨g, j * 10 + 5, none⟩ (.int .u8 b.node)) := by
  have hjl := (List.getElem?_eq_some_iff.1 hj).1
  have k := (Keep.setCell w ⟨g, j * 10 + 4, none⟩ (.int .u32 b.round)).trans (Keep.setCell _ ⟨g, j * 10 + 5, none⟩ (.int .u8 b.node))
  refine ⟨h.setE hj rfl k ?_, k⟩
  rw [← set2_fl hj b]
  exact owns_putq (owns_putq h.own _ (by omega) _) _ (by omega) _
theorem RfW.setA {j g : Nat} {e : En} (h : RfW w B hb (some ⟨g, 0, none⟩) cap S most) (hj : S[j]? = some e) (a : Ac) :
    RfW ((((w.setCell ⟨g, j * 10 + 6, none⟩ (.bool a.is)).setCell ⟨g, j * 10 + 7, none⟩ (.int .u32 a.b.round)).setCell ⟨g, j * 10 + 8, none⟩ (.int .u8 a.b.node)).setCell ⟨g, j * 10 + 9, none⟩ (.string a.v)) B hb (some ⟨g, 0, none⟩) cap (S.set j ⟨e.i, ⟨e.r.p, a⟩⟩) most ∧
      Keep [g] w ((((w.setCell ⟨g, j * 10 + 6, none⟩ (.bool a.is)).setCell ⟨g, j * 10 + 7, none⟩ (.int .u32 a.b.round)).setCell ⟨g, j * 10 + 8, none⟩ (.int .u8 a.b.node)).setCell ⟨g, j * 10 + 9, none⟩ (.string a.v)) := by
  have hjl := (List.getElem?_eq_some_iff.1 hj).1
  have k := (((Keep.setCell w ⟨g, j * 10 + 6, none⟩ (.bool a.is)).trans (Keep.setCell _ ⟨g, j * 10 + 7, none⟩ (.int .u32 a.b.round))).trans (Keep.setCell _ ⟨g, j * 10 + 8, none⟩ (.int .u8 a.b.node))).trans (Keep.setCell _ ⟨g, j * 10 + 9, none⟩ (.string a.v))
  refine ⟨h.setE hj rfl k ?_, k⟩
  rw [← set4_fl hj a]
  exact owns_putq (owns_putq (owns_putq (owns_putq h.own _ (by omega) _) _ (by omega) _) _ (by omega) _) _ (by omega) _
theorem look_set (h : One S) {j : Nat} {e : En} (hj : S[j]? = some e) (r : Rw) (k : In) : look (S.set j ⟨e.i, r⟩) k = if k = e.i then some r else look S k := by
  unfold look
  induction S generalizing j with
  | nil => simp at hj
  | cons x t ih =>
    obtain ⟨h1, h2⟩ := List.pairwise_cons.1 h
    cases j with
    | zero =>
      simp at hj
      subst hj
      rw [List.set_cons_zero]
      by_cases hk : k = x.i
      · subst hk
        rw [if_pos rfl, List.find?_cons_of_pos (by simp)]; rfl
      · rw [if_neg hk, List.find?_cons_of_neg (by simpa using fun h => hk h.symm), List.find?_cons_of_neg (by simpa using fun h => hk h.symm)]
    | succ j =>
      simp at hj
      rw [List.set_cons_succ]
      by_cases hx : x.i = k
      · have hne : ¬ k = e.i := by rw [← hx]; exact h1 e (List.mem_of_getElem? hj)
        rw [if_neg hne, List.find?_cons_of_pos (by simpa using hx), List.find?_cons_of_pos (by simpa using hx)]
      · rw [List.find?_cons_of_neg (by simpa using hx), List.find?_cons_of_neg (by simpa using hx)]
        exact ih h2 hj
end
end Go.Proofs.Ytgknmicblnldiaa
