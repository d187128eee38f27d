/- NetKeeps: what was sent, a slice of slices of bytes that the law keeps; own: a copy. -/
import Derived.Test.YthanjfnpohhebaaRow
namespace Go.Proofs.Ythanjfnpohhebaa
open Go.RowKit Go.Sort
set_option linter.unusedVariables false

set_option maxHeartbeats 400000 in
theorem own_any {xo : Option Addr} {l : List Nat} (n c : Nat) (w : World) (hr : Rd w xo l) (hl : l.length = n) (hn : n ≤ 140737488355328) : Calls Try.prog 13 #[.slice xo n c] w fun e w' =>
    ∃ ao cap, e = .returned (.slice ao n cap) ∧ Own w' w.heap.size ao n cap l ∧ Below w.heap.size w w' := by
  have HR := Lib.hid hr
  clear hr
  go_enter Try.func13, Try.ntmps13
  go_wp2_with (at_builtin; refine wpList_app rfl (.tmp 3) (.tmp 4) rfl rfl (Own.none' w w.heap.size (Nat.le_refl _)) rfl (HR.out.below (below_alloc (Below.refl _ _) _)) hl (by simp) (by omega) ?_; intro ao2 cap2 w2 own2 kp2 nb2)
  go_ret
  have b1 : Below w.heap.size w (w.alloc (.cells #[] 5)) := below_alloc (Below.refl _ _) _
  exact ⟨ao2, cap2, by simp, by simpa using own2, b1.trans (kp2.below b1.size (by simp [blk]))⟩

/-- one element: nil where it was spoilt, else a one and the bytes; R: the row's own block; E: all blocks -/
def SV (w : World) (E R : List Nat) (v : Value) : Option (List Nat) → Prop
  | none => v = .slice none 0 0
  | some l => ∃ a c, v = .slice a (l.length + 1) c ∧ l.length + 1 ≤ c ∧ c ≤ maxLen ∧ Rd w a (1 :: l) ∧ (∀ g ∈ blk a, g ∈ E ∧ g ∉ R ∧ g < w.heap.size)
structure Snt (w : World) (B : Nat) (E : List Nat) (ao : Option Addr) (cap : Nat) (L : List (Option (List Nat))) : Prop where
  own : ∃ vs : List Value, w.ownsRow B 39 1 (.slice ao L.length cap) L.length vs ∧ ∀ (j : Nat) (v : Value) (o : Option (List Nat)), vs[j]? = some v → L[j]? = some o → SV w E (blk ao) v o
  row : ∀ g ∈ blk ao, g ∈ E
  base : ∀ g ∈ E, B ≤ g ∧ g < w.heap.size
section
variable {w w' : World} {B cap : Nat} {E R U : List Nat} {ao : Option Addr} {L : List (Option (List Nat))}
theorem SV.keep {v : Value} {o : Option (List Nat)} (h : SV w E R v o) (k : Keep U w w') (hU : ∀ g ∈ E, g ∉ R → g ∉ U) : SV w' E R v o := by
  cases o with
  | none => exact h
  | some l =>
    obtain ⟨a, c, e, h1, h2, h3, h4⟩ := h
    exact ⟨a, c, e, h1, h2, h3.keep k fun g hg => hU g (h4 g hg).1 (h4 g hg).2.1, fun g hg => ⟨(h4 g hg).1, (h4 g hg).2.1, Nat.lt_of_lt_of_le (h4 g hg).2.2 k.size⟩⟩
theorem SV.mono {E' R' : List Nat} {v : Value} {o : Option (List Nat)} (h : SV w E R v o) (hE : ∀ g ∈ E, g ∈ E') (hR : ∀ g, g ∉ R → g < w.heap.size → g ∉ R') : SV w E' R' v o := by
  cases o with
  | none => exact h
  | some l =>
    obtain ⟨a, c, e, h1, h2, h3, h4⟩ := h
    exact ⟨a, c, e, h1, h2, h3, fun g hg => ⟨hE g (h4 g hg).1, hR g (h4 g hg).2.1 (h4 g hg).2.2, (h4 g hg).2.2⟩⟩
theorem Snt.nil (w : World) (B : Nat) : Snt w B [] none 0 [] := ⟨⟨[], World.ownsRow_nil _ _ _ _, by simp⟩, by simp [blk], by simp⟩
theorem Snt.keep (h : Snt w B E ao cap L) (k : Keep U w w') (hU : ∀ g ∈ E, g ∉ U) : Snt w' B E ao cap L := by
  obtain ⟨vs, h1, h2⟩ := h.own
  exact ⟨⟨vs, owns_keep h1 k (blk_own _ _ _ fun g hg => hU g (h.row g hg)), fun j v o hv ho => (h2 j v o hv ho).keep k fun g hg _ => hU g hg⟩, h.row, fun g hg => ⟨(h.base g hg).1, Nat.lt_of_lt_of_le (h.base g hg).2 k.size⟩⟩
theorem Snt.below (h : Snt w B E ao cap L) (b : Below w.heap.size w w') : Snt w' B E ao cap L := h.keep (Keep.of_below b []) (by simp)
/-- the element at j -/
theorem Snt.at_ (h : Snt w B E ao cap L) {j : Nat} {o : Option (List Nat)} (hj : L[j]? = some o) : ∃ g v, ao = some ⟨g, 0, none⟩ ∧ g < w.heap.size ∧ w.cell? ⟨g, j, none⟩ = some v ∧ w.frozen? ⟨g, j, none⟩ = false ∧ SV w E (blk ao) v o := by
  obtain ⟨vs, h1, h2⟩ := h.own
  obtain ⟨g, v, e, h3, _, h5, h6, h7⟩ := owns_cell1 h1 j (List.getElem?_eq_some_iff.1 hj).1
  exact ⟨g, v, e, h3, h6, h7, h2 j v o h5 hj⟩
/-- an element becomes nil -/
theorem Snt.spoil {g : Nat} (h : Snt w B E (some ⟨g, 0, none⟩) cap L) {j : Nat} (hj : j < L.length) : Snt (w.setCell ⟨g, j, none⟩ (.slice none 0 0)) B E (some ⟨g, 0, none⟩) cap (L.set j none) := by
  obtain ⟨vs, h1, h2⟩ := h.own
  have k := Keep.setCell w ⟨g, j, none⟩ (.slice none 0 0)
  refine ⟨⟨vs.set j (.slice none 0 0), by rw [List.length_set]; exact owns_put1 h1 j hj _, fun q v o hv ho => ?_⟩, h.row, fun q hq => ⟨(h.base q hq).1, Nat.lt_of_lt_of_le (h.base q hq).2 k.size⟩⟩
  by_cases e : j = q
  · subst e
    rw [List.getElem?_set_self (by have := h1.1; omega)] at hv
    rw [List.getElem?_set_self hj] at ho
    cases hv; cases ho
    rfl
  · rw [List.getElem?_set_ne e] at hv ho
    exact (h2 q v o hv ho).keep k fun x hx hR => by simpa [blk] using hR
/-- behind an append of one -/
theorem Snt.more {w2 : World} {ao2 : Option Addr} {cap2 : Nat} {v : Value} {o : Option (List Nat)} {F : List Nat} (h : Snt w B E ao cap L) (hs : B ≤ w.heap.size)
    (hv : SV w F [] v o) (hF : ∀ g ∈ F, B ≤ g ∧ g < w.heap.size ∧ g ∉ blk ao) (hown : ∀ vs, w.ownsRow B 39 1 (.slice ao L.length cap) L.length vs → w2.ownsRow B 39 1 (.slice ao2 (L.length + 1) cap2) (L.length + 1) (vs ++ [v]))
    (k : Keep (blk ao) w w2) (hb : ∀ g ∈ blk ao2, g ∈ blk ao ∨ w.heap.size ≤ g) : Snt w2 B (blk ao2 ++ (F ++ E)) ao2 cap2 (L ++ [o]) := by
  obtain ⟨vs, h1, h2⟩ := h.own
  have hl := h1.1
  have hR : ∀ g, g ∉ blk ao → g < w.heap.size → g ∉ blk ao2 := fun g hg hlt hm => by
    rcases hb g hm with h3 | h3
    · exact hg h3
    · omega
  refine ⟨⟨vs ++ [v], by rw [List.length_append]; exact hown vs h1, fun j u q hu hq => ?_⟩, fun g hg => by simp [hg], fun g hg => ?_⟩
  · by_cases e : j < L.length
    · rw [List.getElem?_append_left (by omega)] at hu
      rw [List.getElem?_append_left e] at hq
      have h5 := (h2 j u q hu hq).mono (E' := blk ao2 ++ (F ++ E)) (R' := blk ao ++ blk ao2) (fun g hg => by simp [hg]) (fun g hg hlt hm => by
        rcases List.mem_append.1 hm with h3 | h3
        · exact hg h3
        · exact hR g hg hlt h3)
      have h6 := h5.keep k (fun g _ hg hm => hg (by simp [hm]))
      exact h6.mono (fun g hg => hg) (fun g hg _ hm => hg (by simp [hm]))
    · have hj : j = L.length := by
        have := (List.getElem?_eq_some_iff.1 hq).1
        simp at this; omega
      subst hj
      rw [List.getElem?_append_right (by omega), hl, Nat.mul_one, Nat.sub_self] at hu
      rw [List.getElem?_append_right (Nat.le_refl _), Nat.sub_self] at hq
      cases hu; cases hq
      cases o with
      | none => exact hv
      | some l =>
        obtain ⟨a, c, e, g1, g2, g3, g4⟩ := hv
        exact ⟨a, c, e, g1, g2, g3.keep k fun g hg => (hF g (g4 g hg).1).2.2, fun g hg => ⟨by simp [(g4 g hg).1], hR g (hF g (g4 g hg).1).2.2 (hF g (g4 g hg).1).2.1, Nat.lt_of_lt_of_le (hF g (g4 g hg).1).2.1 k.size⟩⟩
  · have hsz := k.size
    rcases List.mem_append.1 hg with h3 | h3
    · obtain ⟨u, hu⟩ : ∃ u, ao2 = some u := by cases ao2 with | none => simp [blk] at h3 | some u => exact ⟨u, rfl⟩
      subst hu
      exact owns_blk (hown vs h1) g h3
    · rcases List.mem_append.1 h3 with h3 | h3
      · have := hF g h3; exact ⟨this.1, by omega⟩
      · have := h.base g h3; exact ⟨this.1, by omega⟩
end
end Go.Proofs.Ythanjfnpohhebaa
