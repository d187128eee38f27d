/- ClockTimers: what is needed for the walk. -/
import Derived.Test.YtkhfbnlmjnbhmaaRow1
import Derived.Test.YtkhfbnlmjnbhmaaSame
import Derived.Test.YtkhfbnlmjnbhmaaLawD
namespace Go.Proofs.Ytkhfbnlmjnbhmaa
open Go.RowKit Go.Sort
set_option linter.unusedVariables false

/-- timers 0 .. k-1, as they were set -/
def mkS (dl : Nat → Nat) (k : Nat) : List Tm := (List.range k).map fun j => (j, dl j, j + 1)
def dlist (dl : Nat → Nat) (k : Nat) : List Int := (List.range k).map fun j => (dl j : Int)
def bl (tf : Nat → Bool) (n : Nat) : List Value := (List.range n).map fun j => .bool (tf j)
section
variable {dl : Nat → Nat} {k : Nat}
theorem mk_succ : mkS dl (k + 1) = mkS dl k ++ [(k, dl k, k + 1)] := by simp [mkS, List.range_succ]
theorem mk_len : (mkS dl k).length = k := by simp [mkS]
theorem mem_mk {t : Tm} : t ∈ mkS dl k ↔ t.1 < k ∧ t.2.1 = dl t.1 ∧ t.2.2 = t.1 + 1 := by
  obtain ⟨a, b, c⟩ := t
  simp only [mkS, List.mem_map, List.mem_range]
  constructor
  · rintro ⟨j, hj, e⟩
    cases e
    exact ⟨hj, rfl, rfl⟩
  · rintro ⟨h1, h2, h3⟩
    exact ⟨a, h1, by rw [← h2, ← h3]⟩
theorem mk_in (j : Nat) : inS (mkS dl k) j = decide (j < k) := by
  rw [Bool.eq_iff_iff, inS_iff, decide_eq_true_iff]
  constructor
  · rintro ⟨t, ht, rfl⟩; exact (mem_mk.1 ht).1
  · intro h; exact ⟨(j, dl j, j + 1), mem_mk.2 ⟨h, rfl, rfl⟩, rfl⟩
theorem mk_wo : wo (mkS dl k) k = mkS dl k := wo_none fun t ht => by have := (mem_mk.1 ht).1; omega
theorem dlist_succ : dlist dl (k + 1) = dlist dl k ++ [(dl k : Int)] := by simp [dlist, List.range_succ]
theorem dlist_len : (dlist dl k).length = k := by simp [dlist]
theorem dlist_bt {j : Nat} (h : j < k) : bt (dlist dl k) j = (dl j : Int) := by simp [bt, dlist, h]
end
section
variable {tf : Nat → Bool} {n : Nat}
theorem bl_len : (bl tf n).length = n := by simp [bl]
theorem bl_at {j : Nat} (h : j < n) : (bl tf n)[j]? = some (.bool (tf j)) := by simp [bl, h]
theorem bl_set {j : Nat} (h : j < n) : (bl tf n).set j (.bool true) = bl (fun q => if q = j then true else tf q) n := by
  apply List.ext_getElem?
  intro q
  by_cases hq : q < n
  · rw [bl_at hq]
    by_cases e : q = j
    · subst e; rw [List.getElem?_set_self (by rw [bl_len]; exact hq)]; simp
    · rw [List.getElem?_set_ne (Ne.symm e), bl_at hq, if_neg e]
  · rw [List.getElem?_eq_none (by rw [List.length_set, bl_len]; omega), List.getElem?_eq_none (by rw [bl_len]; omega)]
theorem bl_made : (madeCells #[.bool false] (n * 1)).toList = bl (fun _ => false) n := by
  apply List.ext_getElem?
  intro q
  by_cases hq : q < n
  · rw [bl_at hq]; simp [madeCells, Nat.mod_one, hq]
  · rw [List.getElem?_eq_none (by simp [madeCells]; omega), List.getElem?_eq_none (by rw [bl_len]; omega)]
theorem bl_congr {tf' : Nat → Bool} (h : ∀ j, j < n → tf j = tf' j) : bl tf n = bl tf' n := by
  unfold bl
  exact List.map_congr_left fun j hj => by rw [h j (List.mem_range.1 hj)]
end
theorem bool_info : (Try.prog.info? 4).map (fun i => (i.zero, i.size, i.bytes)) = some (some (.bool false), 1, 1) := by kernel_rfl

/-- where the timers stand: S is left, told says which are not -/
structure Left (dl : Nat → Nat) (n : Nat) (S : List Tm) (tf : Nat → Bool) (M : Nat) : Prop where
  sub : ∀ t ∈ S, t ∈ mkS dl n
  told : ∀ j, j < n → tf j = !(inS S j)
  sum : M + S.length = n
theorem Left.start (dl : Nat → Nat) (n : Nat) : Left dl n (mkS dl n) (fun _ => false) 0 :=
  ⟨fun t h => h, fun j h => by rw [mk_in]; simp [h], by rw [mk_len]; omega⟩
section
variable {dl : Nat → Nat} {n now M : Nat} {S : List Tm} {tf : Nat → Bool} {D : List Tm × List Tm}
/-- number i of those that are told now -/
theorem Left.at_ (h : Left dl n S tf M) (hd : DF now S D) {i : Nat} (hi : i < D.1.length) : (tm D.1 i).1 < n ∧ (tm D.1 i).2.1 = dl (tm D.1 i).1 ∧ (tm D.1 i).2.2 = (tm D.1 i).1 + 1 ∧ dl (tm D.1 i).1 ≤ now ∧ (tf (tm D.1 i).1 || inS (D.1.take i) (tm D.1 i).1) = false := by
  have hm := tm_mem hi
  obtain ⟨h1, h2⟩ := hd.told _ hm
  obtain ⟨e1, e2, e3⟩ := mem_mk.1 (h.sub _ h1)
  refine ⟨e1, e2, e3, by rw [← e2]; exact h2, ?_⟩
  rw [h.told _ e1, inS_iff.2 ⟨_, h1, rfl⟩]
  simp only [Bool.not_true, Bool.false_or]
  rw [inS_not]
  intro t ht e
  obtain ⟨j, hj, hjt⟩ := List.mem_iff_getElem.1 ht
  have hj' : j < i := by simp at hj; omega
  have e4 : tm D.1 j = t := by rw [← hjt]; simp [tm, show j < D.1.length by omega]
  exact hd.ids.ne (j := j) (k := i) (by omega) hi (by omega) (by rw [e4]; exact e)
theorem DF.next (hd : DF now S D) {i : Nat} (hi : i + 1 < D.1.length) : bef (tm D.1 i) (tm D.1 (i + 1)) = true := by
  have h1 := List.pairwise_iff_getElem.1 hd.ord i (i + 1) (by omega) hi (by omega)
  have e1 : tm D.1 i = D.1[i] := by simp [tm, show i < D.1.length by omega]
  have e2 : tm D.1 (i + 1) = D.1[i + 1] := by simp [tm, hi]
  rw [e1, e2]; exact h1
/-- what is left when all are told -/
theorem Left.done (h : Left dl n S tf M) (hd : DF now S D) : Left dl n D.2 (fun j => tf j || inS D.1 j) (M + D.1.length) :=
  ⟨fun t ht => h.sub t (hd.left t ht).1, fun j hj => by
    have h1 := hd.part j
    rw [h.told j hj, h1]
    cases h2 : inS D.1 j
    · simp
    · obtain ⟨x, hx, rfl⟩ := inS_iff.1 h2
      rw [hd.apart x hx]; rfl, by have := hd.len; have := h.sum; omega⟩
/-- what is left is not due -/
theorem Left.later (h : Left dl n S tf M) (hd : DF now S D) {j : Nat} (hj : j < n) (hf : (tf j || inS D.1 j) = false) : ¬ dl j ≤ now := by
  have h1 : (tf j || inS D.1 j) = !(inS D.2 j) := (h.done hd).told j hj
  rw [hf] at h1
  have h2 : inS D.2 j = true := by cases h3 : inS D.2 j; rw [h3] at h1; cases h1; rfl
  obtain ⟨t, ht, rfl⟩ := inS_iff.1 h2
  obtain ⟨h4, h5⟩ := hd.left t ht
  rw [← (mem_mk.1 (h.sub t h4)).2.1]; exact h5
theorem Left.empty (h : Left dl n S tf M) (hd : DF now S D) (hb : ∀ j, j < n → dl j ≤ now) : D.2 = [] := by
  cases e : D.2 with
  | nil => rfl
  | cons t r =>
    exfalso
    have ht : t ∈ D.2 := by rw [e]; simp
    obtain ⟨h4, h5⟩ := hd.left t ht
    obtain ⟨e1, e2, _⟩ := mem_mk.1 (h.sub t h4)
    rw [e2] at h5
    exact h5 (hb _ e1)
theorem take_in {l : List Tm} {i : Nat} (hi : i < l.length) (j : Nat) : inS (l.take (i + 1)) j = (inS (l.take i) j || decide ((tm l i).1 = j)) := by rw [take_succ_tm hi, inS_snoc]
end
theorem told_put {w : World} {B gt n u : Nat} {tf : Nat → Bool} (h : w.ownsRow B 4 1 (.slice (some ⟨gt, 0, none⟩) n n) n (bl tf n)) (hu : u < n) :
    (w.setCell ⟨gt, u, none⟩ (.bool true)).ownsRow B 4 1 (.slice (some ⟨gt, 0, none⟩) n n) n (bl (fun q => if q = u then true else tf q) n) := by
  have h1 := owns_put1 h u hu (.bool true)
  rw [bl_set hu] at h1
  exact h1
/-- one more is told -/
theorem fin_put {W wr w' : World} {gt n u A capl capd mi hc H4 j : Nat} {tf tf' : Nat → Bool} {D : List Tm × List Tm} {aod aol : Option Addr} {Bc : List Nat} {dl : Nat → Nat} (b : Below wr.heap.size wr w')
    (ht : wr.ownsRow W.heap.size 4 1 (.slice (some ⟨gt, 0, none⟩) n n) n (bl tf' n)) (htf : ∀ q, q < n → tf' q = (tf q || inS (D.1.take j) q)) (hj : j < D.1.length) (hu : (tm D.1 j).1 = u) (hun : u < n)
    (ho : Own wr W.heap.size aod n capd (dlist dl n)) (hl : wr.ownsRow H4 32 1 (.slice aol A capl) A (idc D.1)) (hcl : Clk wr W.heap.size hc Bc 1000 mi n D.2) (hb : Below W.heap.size W wr)
    (hat : ∀ q ∈ Bc, q ∉ blk (some ⟨gt, 0, none⟩)) (hao : gt ∉ blk aod) (hal : gt ∉ blk aol) (hgB : W.heap.size ≤ gt) :
    ∃ tf2, (w'.setCell ⟨gt, u, none⟩ (.bool true)).ownsRow W.heap.size 4 1 (.slice (some ⟨gt, 0, none⟩) n n) n (bl tf2 n) ∧ (∀ q, q < n → tf2 q = (tf q || inS (D.1.take (j + 1)) q)) ∧ Own (w'.setCell ⟨gt, u, none⟩ (.bool true)) W.heap.size aod n capd (dlist dl n) ∧
      (w'.setCell ⟨gt, u, none⟩ (.bool true)).ownsRow H4 32 1 (.slice aol A capl) A (idc D.1) ∧ Clk (w'.setCell ⟨gt, u, none⟩ (.bool true)) W.heap.size hc Bc 1000 mi n D.2 ∧ Below W.heap.size W (w'.setCell ⟨gt, u, none⟩ (.bool true)) := by
  have kk := Keep.setCell w' ⟨gt, u, none⟩ (.bool true)
  have kb := Keep.of_below b []
  have b2 := below_next hb b
  refine ⟨_, told_put (owns_keep ht kb (by simp)) hun, fun q hq => ?_, (ho.keep kb (by simp)).keep kk (fun q hq hm => ?_), owns_keep (owns_keep hl kb (by simp)) kk (blk_own _ _ _ (fun q hq hm => ?_)), (hcl.below b).keep kk (fun q hq hm => ?_), b2.trans (kk.below b2.size (by simpa using hgB))⟩
  · rw [take_in hj, hu, ← Bool.or_assoc, ← htf q hq]
    by_cases e : q = u
    · subst e; simp
    · rw [if_neg e]; simp [Ne.symm e]
  · rw [List.mem_singleton] at hm; subst hm; exact hao hq
  · rw [List.mem_singleton] at hm; subst hm; exact hal hq
  · rw [List.mem_singleton] at hm; subst hm; exact hat _ hq (by simp [blk])
end Go.Proofs.Ytkhfbnlmjnbhmaa
