/- ProposerOneValue: the law's struct while it is laid: things that lie apart, each with its owner. -/
import Derived.Test.YtgfalpiifgoonaaWt
namespace Go.Proofs.Ytgfalpiifgoonaa
open Go.RowKit Go.Sort
set_option linter.unusedVariables false
set_option linter.unusedSectionVars false
set_option linter.unusedSimpArgs false
set_option maxRecDepth 100000
/-- a thing in blocks of its own -/
structure It where
  t : Nat
  bs : List Nat
  ok : World → Prop
  kp : ∀ (U : List Nat) (w w' : World), ok w → Keep U w w' → (∀ b ∈ bs, b ∉ U) → ok w'
  lt : ∀ w, ok w → ∀ b ∈ bs, b < w.heap.size
def tabIt (B k h g : Nat) : It where
  t := 100 + k
  bs := [h, g]
  ok := fun w => TabW w B h g 1 0 (fun _ => none)
  kp := fun U w w' hk k hn => hk.keep k (hn h (by simp)) (hn g (by simp))
  lt := fun w hk b hb => by
    simp only [List.mem_cons, List.not_mem_nil, or_false] at hb
    rcases hb with rfl | rfl
    · exact hk.hlt
    · exact hk.map.lt
def proIt (B n j h g : Nat) : It where
  t := 200 + j
  bs := [h, g]
  ok := fun w => Pr w B h g j n ⟨b0, noS, a0⟩
  kp := fun U w w' hk k hn => hk.keep k (hn h (by simp)) (hn g (by simp))
  lt := fun w hk b hb => by
    simp only [List.mem_cons, List.not_mem_nil, or_false] at hb
    rcases hb with rfl | rfl
    · exact RowP.lt hk.row
    · exact hk.map.lt
def leaIt (B n j h g : Nat) : It where
  t := 300 + j
  bs := [h, g]
  ok := fun w => Ln w B h g n ⟨none9, a0⟩ 0
  kp := fun U w w' hk k hn => hk.keep k (hn h (by simp)) (hn g (by simp))
  lt := fun w hk b hb => by
    simp only [List.mem_cons, List.not_mem_nil, or_false] at hb
    rcases hb with rfl | rfl
    · exact hk.hlt
    · exact hk.glt
def tyS : Nat → TypeId | 0 => 67 | 1 => 23 | _ => 27
abbrev slS (s : Nat → Option Addr) (c : Nat → Nat) (p : Nat → List Value) (i : Nat) : Value := .slice (s i) (p i).length (c i)
def rowS (vote : ByteArray) (s : Nat → Option Addr) (c : Nat → Nat) (p : Nat → List Value) : Array Value :=
  #[slS s c p 0, slS s c p 1, slS s c p 2, .int .u32 0, .string vote, .slice none 0 0, .slice none 0 0, .slice none 0 0, .slice none 0 0, .slice none 0 0, .slice none 0 0]
structure Pre (w : World) (B xb : Nat) (tg : Nat → Nat) (vote : ByteArray) (s : Nat → Option Addr) (c : Nat → Nat) (p : Nat → List Value) (T : List It) : Prop where
  row : w.heap[xb]? = some (.cells (rowS vote s c p) 66 (0, 0))
  xt : tg xb = 0
  base : B ≤ xb
  sl : ∀ i, i < 3 → w.ownsRow B (tyS i) 1 (slS s c p i) (p i).length (p i) ∧ ∀ g ∈ blk (s i), tg g = i + 1
  it : ∀ q ∈ T, q.ok w ∧ 100 ≤ q.t ∧ ∀ b ∈ q.bs, tg b = q.t
section
variable {w w' : World} {B xb : Nat} {tg tg' : Nat → Nat} {vote : ByteArray} {s : Nat → Option Addr} {c : Nat → Nat} {p : Nat → List Value} {T : List It} {U : List Nat}
theorem Pre.lt (h : Pre w B xb tg vote s c p T) : xb < w.heap.size := (Array.getElem?_eq_some_iff.1 h.row).1
theorem Pre.below (h : Pre w B xb tg vote s c p T) (b : Below w.heap.size w w') : Pre w' B xb tg vote s c p T :=
  ⟨row_keep h.row (Keep.of_below b []) (by simp), h.xt, h.base, fun i hi => ⟨owns_keep (h.sl i hi).1 (Keep.of_below b []) (by simp), (h.sl i hi).2⟩, fun q hq => let ⟨h1, h2⟩ := h.it q hq; ⟨q.kp [] _ _ h1 (Keep.of_below b []) (by simp), h2⟩⟩
theorem Pre.cell (h : Pre w B xb tg vote s c p T) {i : Nat} (hi : i < 3) : w.cell? ⟨xb, i, none⟩ = some (slS s c p i) := by
  rw [cell_of_row w xb i _ _ (0, 0) h.row]
  rcases (show i = 0 ∨ i = 1 ∨ i = 2 by omega) with rfl | rfl | rfl <;> rfl
theorem Pre.fr (h : Pre w B xb tg vote s c p T) (i : Nat) : w.frozen? ⟨xb, i, none⟩ = false := frozen_of_row w xb i _ _ h.row
/-- a thing that was made since -/
theorem Pre.add (h : Pre w B xb tg vote s c p T) (b : Below w.heap.size w w') (q : It) (hq : q.ok w') (ht : 100 ≤ q.t) (hf : ∀ g ∈ q.bs, w.heap.size ≤ g) : Pre w' B xb (fun g => if g ∈ q.bs then q.t else tg g) vote s c p (q :: T) := by
  have hold : ∀ g, g < w.heap.size → (if g ∈ q.bs then q.t else tg g) = tg g := fun g hg => if_neg fun hm => by have := hf g hm; omega
  refine ⟨row_keep h.row (Keep.of_below b []) (by simp), (hold xb h.lt).trans h.xt, h.base, fun i hi => ?_, fun r hr => ?_⟩
  · obtain ⟨h1, h2⟩ := h.sl i hi
    exact ⟨owns_keep h1 (Keep.of_below b []) (by simp), fun g hg => (hold g (owns_blk h1 g hg).2).trans (h2 g hg)⟩
  · rcases List.mem_cons.1 hr with rfl | hr
    · exact ⟨hq, ht, fun g hg => if_pos hg⟩
    · obtain ⟨h1, h2, h3⟩ := h.it r hr
      exact ⟨r.kp [] _ _ h1 (Keep.of_below b []) (by simp), h2, fun g hg => (hold g (r.lt _ h1 g hg)).trans (h3 g hg)⟩
/-- an element is appended to one of the three slices -/
theorem Pre.push {w1 w3 : World} (h : Pre w B xb tg vote s c p T) {i : Nat} (hi : i < 3) {v : Value} (b1 : Below w.heap.size w w1) {g cap : Nat}
    (own : w3.ownsRow B (tyS i) 1 (.slice (some ⟨g, 0, none⟩) ((p i).length + 1) cap) ((p i).length + 1) (p i ++ [v])) (gr : w1.grownBy w3 (slS s c p i).ownBlock) (hat : (slS s c p i).ownBlock = some g ∨ g = w1.heap.size) :
    Pre (w3.setCell ⟨xb, i, none⟩ (.slice (some ⟨g, 0, none⟩) ((p i).length + 1) cap)) B xb (own2 tg (some ⟨g, 0, none⟩) (i + 1)) vote (fun j => if j = i then some ⟨g, 0, none⟩ else s j) (fun j => if j = i then cap else c j) (fun j => if j = i then p i ++ [v] else p j) T ∧
      w3.cell? ⟨xb, i, none⟩ = some (slS s c p i) ∧ w3.frozen? ⟨xb, i, none⟩ = false ∧ Below B w (w3.setCell ⟨xb, i, none⟩ (.slice (some ⟨g, 0, none⟩) ((p i).length + 1) cap)) := by
  have hB : B ≤ w.heap.size := by have := h.base; have := h.lt; omega
  obtain ⟨o1, o2⟩ := h.sl i hi
  have kp : Keep (blk (s i)) w w3 := (Keep.of_below b1 _).trans (keep_grown gr)
  have hg : g ∈ blk (s i) ∨ w.heap.size ≤ g := by
    rcases hat with e | e
    · left
      cases hs : s i with
      | none => simp only [slS, hs] at e; cases e
      | some a => simp [slS, hs, Value.ownBlock] at e; simp [blk, e]
    · right; rw [e]; exact b1.size
  have hgx : g ≠ xb := fun e => by
    rcases hg with h1 | h1
    · have := o2 g h1; rw [e, h.xt] at this; omega
    · have := h.lt; omega
  have hold : ∀ b, tg b ≠ i + 1 → b < w.heap.size → own2 tg (some ⟨g, 0, none⟩) (i + 1) b = tg b := fun b hne hlt => by
    unfold own2
    rw [if_neg fun hm => ?_]
    have hm : b = g := by simpa [blk] using hm
    subst hm
    rcases hg with h1 | h1
    · exact hne (o2 b h1)
    · omega
  have ks := Keep.setCell w3 ⟨xb, i, none⟩ (.slice (some ⟨g, 0, none⟩) ((p i).length + 1) cap)
  have hxn : xb ∉ blk (s i) := fun hm => by have := o2 xb hm; rw [h.xt] at this; omega
  have hr3 := row_keep h.row kp hxn
  have hx3 : ∀ b, tg b ≠ 0 → b ∉ [(⟨xb, i, none⟩ : Addr).block] := fun b hb hm => by
    have := List.mem_singleton.1 hm
    rw [this] at hb
    exact hb h.xt
  refine ⟨⟨?_, (hold xb (by rw [h.xt]; omega) h.lt).trans h.xt, h.base, fun j hj => ?_, fun q hq => ?_⟩, (kp.cell (a := ⟨xb, i, none⟩) h.lt hxn).trans (h.cell hi), (kp.frozen (a := ⟨xb, i, none⟩) h.lt hxn).trans (h.fr i), (kp.below hB fun b hb => (owns_blk o1 b hb).1).trans (ks.below (Nat.le_trans hB kp.size) fun b hb => by rw [List.mem_singleton.1 hb]; exact h.base)⟩
  · refine (heap_setCell_same w3 xb i _ _ _ hr3).trans ?_
    have : (rowS vote s c p).setIfInBounds i (.slice (some ⟨g, 0, none⟩) ((p i).length + 1) cap) = rowS vote (fun j => if j = i then some ⟨g, 0, none⟩ else s j) (fun j => if j = i then cap else c j) (fun j => if j = i then p i ++ [v] else p j) := by
      rcases (show i = 0 ∨ i = 1 ∨ i = 2 by omega) with rfl | rfl | rfl <;> simp [rowS, slS]
    rw [this]
  · by_cases e : j = i
    · subst e
      simp only [slS, if_pos, List.length_append, List.length_singleton]
      refine ⟨owns_keep own ks (blk_own _ _ _ fun b hb => ?_), fun b hb => by unfold own2; rw [if_pos hb]⟩
      have hb : b = g := by simpa [blk] using hb
      rw [hb]
      simpa using hgx
    · simp only [slS, if_neg e]
      obtain ⟨h1, h2⟩ := h.sl j hj
      refine ⟨owns_keep (owns_keep h1 kp (blk_own _ _ _ fun b hb hm => ?_)) ks (blk_own _ _ _ fun b hb => hx3 b (by rw [h2 b hb]; omega)), fun b hb => (hold b (by rw [h2 b hb]; omega) (owns_blk h1 b hb).2).trans (h2 b hb)⟩
      have := h2 b hb
      have := o2 b hm
      omega
  · obtain ⟨h1, h2, h3⟩ := h.it q hq
    refine ⟨q.kp _ _ _ (q.kp _ _ _ h1 kp fun b hb hm => ?_) ks fun b hb => hx3 b (by rw [h3 b hb]; omega), h2, fun b hb => (hold b (by rw [h3 b hb]; omega) (q.lt _ h1 b hb)).trans (h3 b hb)⟩
    have := h3 b hb
    have := o2 b hm
    omega
/-- all is laid -/
theorem Pre.all (h : Pre w B xb tg vote s c p T) {n : Nat} (n1 : 1 ≤ n) (n5 : n ≤ 5) {hA gA hP gP hL gL : Nat → Nat} (p0 : p 0 = ptrs n hA) (p1 : p 1 = ptrs 3 hP) (p2 : p 2 = ptrs 3 hL)
    (tA : ∀ k, k < n → tabIt B k (hA k) (gA k) ∈ T) (tP : ∀ j, j < 3 → proIt B n j (hP j) (gP j) ∈ T) (tL : ∀ j, j < 3 → leaIt B n j (hL j) (gL j) ∈ T) :
    ∃ H : Hd, WdW w B xb n tg H 0 0 vote (PX.mk (fun _ => none) (fun _ => ⟨b0, noS, a0⟩) (fun _ => ⟨none9, a0⟩) 0 [] [] [] [] [vote]) := by
  have len : ∀ (m : Nat) (f : Nat → Nat), (ptrs m f).length = m := fun m f => by simp [ptrs]
  have sA := (h.sl 0 (by omega)); have sP := (h.sl 1 (by omega)); have sL := (h.sl 2 (by omega))
  simp only [slS, p0, len] at sA; simp only [slS, p1, len] at sP; simp only [slS, p2, len] at sL
  obtain ⟨a0', ea, _⟩ := owns_none sA.1 (by omega)
  obtain ⟨a1', ep, _⟩ := owns_none sP.1 (by omega)
  obtain ⟨a2', el, _⟩ := owns_none sL.1 (by omega)
  rw [ea] at sA; rw [ep] at sP; rw [el] at sL
  have row := h.row
  simp only [rowS, slS, p0, p1, p2, len, ea, ep, el] at row
  refine ⟨⟨hA, gA, hP, gP, hL, gL, a0', a1', a2', c 0, c 1, c 2, fun _ => none, fun _ => 0⟩, ⟨⟨n1, n5, sA.1, sP.1, sL.1, sA.2 _ (by simp [blk]), sP.2 _ (by simp [blk]), sL.2 _ (by simp [blk]), fun k hk => ?_, fun j hj => ?_, fun j hj => ?_, fun i h2 h5 => ?_, fun i m hm => ?_, fun i => ?_⟩, ?_, h.xt, h.base⟩⟩
  · obtain ⟨q1, _, q3⟩ := h.it _ (tA k hk)
    refine ⟨?_, q3 _ (by simp [tabIt]), q3 _ (by simp [tabIt])⟩
    have : (fun _ => none : Fn) = fA none := by funext i; simp [fA]
    show TabW w B (hA k) (gA k) 1 0 (fA none)
    rw [← this]
    exact q1
  · obtain ⟨q1, _, q3⟩ := h.it _ (tP j hj)
    exact ⟨q1, q3 _ (by simp [proIt]), q3 _ (by simp [proIt])⟩
  · obtain ⟨q1, _, q3⟩ := h.it _ (tL j hj)
    exact ⟨q1, q3 _ (by simp [leaIt]), q3 _ (by simp [leaIt])⟩
  · refine ⟨?_, fun g hg => by simp [blk] at hg⟩
    rcases (show i = 2 ∨ i = 3 ∨ i = 4 ∨ i = 5 by omega) with rfl | rfl | rfl | rfl <;> exact ⟨rfl, .inl ⟨rfl, rfl⟩⟩
  · unfold PX.ms at hm
    split at hm <;> cases hm
  · unfold PX.ms
    split <;> exact Nat.le_refl _
  · exact row
end
/-- one more pointer -/
theorem ptrs_next (k : Nat) (f : Nat → Nat) (h : Nat) : ptrs k f ++ [.pointer (some ⟨h, 0, none⟩)] = ptrs (k + 1) (fun i => if i = k then h else f i) := by
  simp only [ptrs, List.range_succ, List.map_append, List.map_singleton, if_pos]
  congr 1
  refine List.map_congr_left fun i hi => ?_
  rw [if_neg (by have := List.mem_range.1 hi; omega)]
end Go.Proofs.Ytgfalpiifgoonaa
