/- Nothing is lost between parts: plain lists. -/
import Derived.Test.YtikeiocgnjdhbaaPf
namespace Go.Proofs.Ytikeiocgnjdhbaa
open Go.RowKit Go.Sort
set_option linter.unusedVariables false

/-! ### An arc in two -/
theorem part_or {f s n p : Int} (hr : rightB f s = true) (h0 : 0 ≤ n) (h1 : n ≤ s) (p0 : 0 ≤ p) (p1 : p < 64) : hasB f s p = (hasB f n p || hasB ((f + n) % 64) (s - n) p) := by
  have h := right_spec.1 hr
  have r1 : rightB f n = true := right_spec.2 (by omega)
  have r2 : rightB ((f + n) % 64) (s - n) = true := right_spec.2 (by omega)
  rw [Bool.eq_iff_iff, Bool.or_eq_true, has_spec hr p0 p1, has_spec r1 p0 p1, has_spec r2 p0 p1]
  omega
theorem part_and {f s n p : Int} (hr : rightB f s = true) (h0 : 0 ≤ n) (h1 : n ≤ s) (p0 : 0 ≤ p) (p1 : p < 64) : ¬ (hasB f n p = true ∧ hasB ((f + n) % 64) (s - n) p = true) := by
  have h := right_spec.1 hr
  have r1 : rightB f n = true := right_spec.2 (by omega)
  have r2 : rightB ((f + n) % 64) (s - n) = true := right_spec.2 (by omega)
  rw [has_spec r1 p0 p1, has_spec r2 p0 p1]
  omega

/-! ### Arcs cover places -/
/-- is p one of the first k places of the arc -/
def inPart (x : Nat × Nat) (k p : Nat) : Bool := (List.range k).any fun j => (x.1 + j) % 64 == p
def atL (L : List (Nat × Nat)) (i : Nat) : Nat × Nat := L.getD i (0, 0)
/-- is p in one of the first i arcs, or in the first k places of the next -/
def covB (L : List (Nat × Nat)) (i k p : Nat) : Bool := ((L.take i).any fun x => inPart x x.2 p) || inPart (atL L i) k p
def rowC (L : List (Nat × Nat)) (i k : Nat) : List Bool := (List.range 64).map (covB L i k)
theorem rowC_length (L : List (Nat × Nat)) (i k : Nat) : (rowC L i k).length = 64 := by simp [rowC]
theorem inPart_zero (x : Nat × Nat) (p : Nat) : inPart x 0 p = false := by simp [inPart]
theorem inPart_succ (x : Nat × Nat) (k p : Nat) : inPart x (k + 1) p = (inPart x k p || (x.1 + k) % 64 == p) := by simp [inPart, List.range_succ]
theorem inPart_spec {x : Nat × Nat} {k p : Nat} : inPart x k p = true ↔ ∃ j, j < k ∧ (x.1 + j) % 64 = p := by
  unfold inPart
  rw [List.any_eq_true]
  constructor
  · rintro ⟨j, hj, h⟩; exact ⟨j, by simpa using hj, by simpa using h⟩
  · rintro ⟨j, hj, h⟩; exact ⟨j, by simpa using hj, by simpa using h⟩
theorem rowC_start (L : List (Nat × Nat)) : rowC L 0 0 = zeros := by
  unfold rowC zeros
  apply List.ext_getElem (by simp)
  intro i h1 h2
  rw [List.getElem_replicate]
  simp [covB, inPart_zero]
theorem rowC_succ (L : List (Nat × Nat)) (i k : Nat) : rowC L i (k + 1) = (rowC L i k).set (((atL L i).1 + k) % 64) true := by
  apply List.ext_getElem (by simp [rowC])
  intro p h1 h2
  rw [List.getElem_set]
  simp only [rowC, List.getElem_map, List.getElem_range]
  unfold covB
  rw [inPart_succ]
  by_cases h : ((atL L i).1 + k) % 64 = p
  · rw [if_pos h]; simp [h]
  · rw [if_neg h, show (((atL L i).1 + k) % 64 == p) = false by simpa using h, Bool.or_false]
theorem rowC_next (L : List (Nat × Nat)) (i : Nat) (hi : i < L.length) : rowC L i (atL L i).2 = rowC L (i + 1) 0 := by
  unfold rowC
  apply List.map_congr_left
  intro p _
  unfold covB
  rw [inPart_zero, List.take_succ_eq_append_getElem hi, List.any_append]
  have : atL L i = L[i] := by simp [atL, List.getD, hi]
  rw [this]
  simp
theorem rowC_get (L : List (Nat × Nat)) (i k p : Nat) (hp : p < 64) : inB (rowC L i k) p = covB L i k p := by
  unfold inB rowC
  simp [List.getD, hp]

/-- what is asked of the arcs that are told -/
structure Good (bs : List Bool) (L : List (Nat × Nat)) : Prop where
  le : ∀ i, i < L.length → (atL L i).1 < 64 ∧ 1 ≤ (atL L i).2 ∧ (atL L i).2 ≤ 64
  mono : ∀ i, i + 1 < L.length → (atL L i).1 < (atL L (i + 1)).1
  fresh : ∀ i k, i < L.length → k < (atL L i).2 → covB L i k (((atL L i).1 + k) % 64) = false
  stop : ∀ i, i < L.length → (atL L i).2 < 64 → inB bs (((atL L i).1 + (atL L i).2) % 64) = false
  cover : rowC L L.length 0 = bs

theorem ofK_mem (bs : List Bool) : ∀ (k : Nat) (x : Nat × Nat), x ∈ ofK bs k ↔ ∃ p, p < k ∧ startB bs p = true ∧ x = (p, runN bs p)
  | 0, x => by simp [ofK]
  | k + 1, x => by
    have ih := ofK_mem bs k x
    cases hs : startB bs k
    · rw [ofK_no hs, ih]
      constructor
      · rintro ⟨p, hp, h⟩; exact ⟨p, by omega, h⟩
      · rintro ⟨p, hp, h1, h2⟩
        refine ⟨p, ?_, h1, h2⟩
        rcases Nat.lt_or_ge p k with h | h
        · exact h
        · obtain rfl : p = k := by omega
          rw [hs] at h1; cases h1
    · rw [ofK_yes hs, List.mem_append, ih, List.mem_singleton]
      constructor
      · rintro (⟨p, hp, h⟩ | rfl)
        · exact ⟨p, by omega, h⟩
        · exact ⟨k, by omega, hs, rfl⟩
      · rintro ⟨p, hp, h1, h2⟩
        by_cases e : p = k
        · subst e; exact .inr h2
        · exact .inl ⟨p, by omega, h1, h2⟩
theorem ofK_sorted (bs : List Bool) : ∀ k, List.Pairwise (fun x y : Nat × Nat => x.1 < y.1) (ofK bs k)
  | 0 => by simp [ofK]
  | k + 1 => by
    have ih := ofK_sorted bs k
    cases hs : startB bs k
    · rw [ofK_no hs]; exact ih
    · rw [ofK_yes hs, List.pairwise_append]
      refine ⟨ih, by simp, fun x hx y hy => ?_⟩
      obtain ⟨p, hp, _, rfl⟩ := (ofK_mem bs k x).1 hx
      rw [List.mem_singleton] at hy
      subst hy
      exact hp
theorem start_spec {bs : List Bool} {p : Nat} (h : startB bs p = true) : inB bs p = true ∧ inB bs ((p + 63) % 64) = false := by
  unfold startB at h
  simp only [Bool.and_eq_true, Bool.not_eq_true'] at h
  exact h
theorem run_pos {bs : List Bool} {p : Nat} (hp : p < 64) (h : startB bs p = true) : 1 ≤ runN bs p := by
  have h0 : from_ bs p 0 = true := by unfold from_; rw [Nat.add_zero, Nat.mod_eq_of_lt hp]; exact (start_spec h).1
  unfold runN
  rw [show (64 : Nat) = 64 - 0 by omega, runF_step (by omega) h0]
  exact (runF_le _ _ _).1
/-- an arc's places are in, and two arcs' places are apart -/
theorem run_in {bs : List Bool} {p j : Nat} (h : j < runN bs p) : inB bs ((p + j) % 64) = true := runF_all (from_ bs p) 64 0 j (Nat.zero_le _) h
theorem apart {bs : List Bool} {p p' k k' : Nat} (hp : p < 64) (hp' : p' < 64) (hs : startB bs p = true) (hk' : k' < runN bs p') (hle : k ≤ k') (he : (p + k) % 64 = (p' + k') % 64) : p = p' ∧ k = k' := by
  have hr' := runN_le bs p'
  rcases Nat.eq_or_lt_of_le hle with e | hlt
  · subst e; exact ⟨by omega, rfl⟩
  · exfalso
    have h1 := run_in (bs := bs) (p := p') (j := k' - k - 1) (by omega)
    have h2 := (start_spec hs).2
    rw [show (p + 63) % 64 = (p' + (k' - k - 1)) % 64 by omega, h1] at h2
    cases h2
theorem apart2 {bs : List Bool} {p p' k k' : Nat} (hp : p < 64) (hp' : p' < 64) (hs : startB bs p = true) (hs' : startB bs p' = true) (hk : k < runN bs p) (hk' : k' < runN bs p') (he : (p + k) % 64 = (p' + k') % 64) : p = p' ∧ k = k' := by
  rcases Nat.le_total k k' with h | h
  · exact apart hp hp' hs hk' h he
  · have := apart hp' hp hs' hk h he.symm
    exact ⟨this.1.symm, this.2.symm⟩
/-- each place that is in lies in an arc -/
theorem in_arc {bs : List Bool} (ha : allK bs 64 = false) {q : Nat} (hq : q < 64) (h : inB bs q = true) : ∃ p k, p < 64 ∧ startB bs p = true ∧ k < runN bs p ∧ (p + k) % 64 = q := by
  have hB : ∀ d, (fun d => inB bs ((q + 63 - d) % 64)) d = inB bs ((q + 63 - d) % 64) := fun _ => rfl
  have hle := runF_le (fun d => inB bs ((q + 63 - d) % 64)) 64 0
  have hall := fun j hj => runF_all (fun d => inB bs ((q + 63 - d) % 64)) 64 0 j (Nat.zero_le _) hj
  have hend := runF_end (fun d => inB bs ((q + 63 - d) % 64)) 64 0
  generalize runF (fun d => inB bs ((q + 63 - d) % 64)) 64 0 = e at *
  rcases Nat.lt_or_ge e 64 with he | he
  · have h1 := hend (by omega)
    have hin : ∀ j, j ≤ e → inB bs (((q + 64 - e) % 64 + j) % 64) = true := by
      intro j hj
      by_cases hje : j = e
      · rw [show ((q + 64 - e) % 64 + j) % 64 = q by omega]; exact h
      · have := hall (e - j - 1) (by omega)
        rw [show ((q + 64 - e) % 64 + j) % 64 = (q + 63 - (e - j - 1)) % 64 by omega]; exact this
    refine ⟨(q + 64 - e) % 64, e, Nat.mod_lt _ (by omega), ?_, ?_, by omega⟩
    · unfold startB
      have h0 := hin 0 (by omega)
      rw [Nat.add_zero, Nat.mod_eq_of_lt (Nat.mod_lt _ (by omega))] at h0
      rw [h0, show ((q + 64 - e) % 64 + 63) % 64 = (q + 63 - e) % 64 by omega, h1]
      rfl
    · rcases Nat.lt_or_ge e (runN bs ((q + 64 - e) % 64)) with hh | hh
      · exact hh
      · exfalso
        have h2 := runF_end (from_ bs ((q + 64 - e) % 64)) 64 0 (by unfold runN at hh; omega)
        have h3 := hin (runN bs ((q + 64 - e) % 64)) hh
        unfold runN at h3
        unfold from_ at h2 h3
        rw [h3] at h2
        cases h2
  · exfalso
    have : allK bs 64 = true := (allK_spec bs 64).2 fun p hp => by
      have := hall ((q + 63 + 64 - p) % 64) (by omega)
      rwa [show (q + 63 - (q + 63 + 64 - p) % 64) % 64 = p by omega] at this
    rw [ha] at this
    cases this

theorem good_ofK {bs : List Bool} (hl : bs.length = 64) (ha : allK bs 64 = false) : Good bs (ofK bs 64) := by
  have hat : ∀ i, i < (ofK bs 64).length → ∃ p, p < 64 ∧ startB bs p = true ∧ atL (ofK bs 64) i = (p, runN bs p) := by
    intro i hi
    have hx : atL (ofK bs 64) i = (ofK bs 64)[i] := by simp [atL, List.getD, hi]
    rw [hx]
    exact (ofK_mem bs 64 _).1 (List.getElem_mem hi)
  have hlt : ∀ i j, i < j → j < (ofK bs 64).length → (atL (ofK bs 64) i).1 < (atL (ofK bs 64) j).1 := by
    intro i j hij hj
    have := List.pairwise_iff_getElem.1 (ofK_sorted bs 64) i j (by omega) hj hij
    simpa [atL, List.getD, hj, show i < (ofK bs 64).length by omega] using this
  refine ⟨?_, ?_, ?_, ?_, ?_⟩
  · intro i hi
    obtain ⟨p, hp, hs, e⟩ := hat i hi
    rw [e]; exact ⟨hp, run_pos hp hs, runN_le bs p⟩
  · intro i hi; exact hlt i (i + 1) (by omega) hi
  · intro i k hi hk
    obtain ⟨p, hp, hs, e⟩ := hat i hi
    rw [e] at hk ⊢
    rw [← Bool.not_eq_true]
    intro hc
    unfold covB at hc
    rw [Bool.or_eq_true, List.any_eq_true] at hc
    rcases hc with ⟨x, hx, hin⟩ | hin
    · obtain ⟨j, hj, ej⟩ := inPart_spec.1 hin
      obtain ⟨m, hm, rfl⟩ := List.mem_take_iff_getElem.1 hx
      have hm2 : m < (ofK bs 64).length := by omega
      obtain ⟨p', hp', hs', e'⟩ := hat m hm2
      have e'' : (ofK bs 64)[m] = (p', runN bs p') := by rw [← e']; simp [atL, List.getD, hm2]
      rw [e''] at hj ej
      have := (apart2 hp' hp hs' hs hj hk ej).1
      have h2 := hlt m i (by omega) hi
      rw [e, e'] at h2
      simp only at h2
      omega
    · obtain ⟨j, hj, ej⟩ := inPart_spec.1 hin
      rw [e] at ej
      have := (apart2 hp hp hs hs (by simp only at hk ⊢; omega) hk ej).2
      omega
  · intro i hi hlt64
    obtain ⟨p, hp, hs, e⟩ := hat i hi
    rw [e] at hlt64 ⊢
    exact runF_end (from_ bs p) 64 0 (by unfold runN at hlt64; simp only at hlt64; omega)
  · apply List.ext_getElem (by rw [rowC_length, hl])
    intro q h1 h2
    have hq : q < 64 := by omega
    rw [in_get h2]
    simp only [rowC, List.getElem_map, List.getElem_range]
    rw [Bool.eq_iff_iff]
    unfold covB
    rw [inPart_zero, Bool.or_false, List.any_eq_true, List.take_length]
    constructor
    · rintro ⟨x, hx, hin⟩
      obtain ⟨p, hp, hs, rfl⟩ := (ofK_mem bs 64 x).1 hx
      obtain ⟨j, hj, ej⟩ := inPart_spec.1 hin
      rw [← ej]
      exact run_in hj
    · intro h
      obtain ⟨p, k, hp, hs, hk, e⟩ := in_arc ha hq h
      exact ⟨(p, runN bs p), (ofK_mem bs 64 _).2 ⟨p, hp, hs, rfl⟩, inPart_spec.2 ⟨k, hk, e⟩⟩
theorem good_all {bs : List Bool} (hl : bs.length = 64) (ha : allK bs 64 = true) : Good bs [(0, 64)] := by
  have hi0 : ∀ i, i < [((0 : Nat), (64 : Nat))].length → i = 0 := by intro i hi; simp at hi; exact hi
  refine ⟨?_, ?_, ?_, ?_, ?_⟩
  · intro i hi; rw [hi0 i hi]; decide
  · intro i hi; simp at hi
  · intro i k hi hk
    rw [hi0 i hi] at hk ⊢
    rw [← Bool.not_eq_true]
    intro hc
    unfold covB at hc
    rw [List.take_zero, List.any_nil, Bool.false_or] at hc
    obtain ⟨j, hj, ej⟩ := inPart_spec.1 hc
    have e0 : atL [((0 : Nat), (64 : Nat))] 0 = (0, 64) := rfl
    rw [e0] at hk ej
    simp only at hk ej
    omega
  · intro i hi h
    rw [hi0 i hi] at h
    have e0 : atL [((0 : Nat), (64 : Nat))] 0 = (0, 64) := rfl
    rw [e0] at h; simp at h
  · apply List.ext_getElem (by rw [rowC_length, hl])
    intro q h1 h2
    have hq : q < 64 := by omega
    rw [in_get h2, (allK_spec bs 64).1 ha q hq]
    simp only [rowC, List.getElem_map, List.getElem_range]
    unfold covB
    rw [inPart_zero, Bool.or_false, List.take_length, List.any_cons, List.any_nil, Bool.or_false]
    exact inPart_spec.2 ⟨q, hq, by simp; omega⟩
theorem good_ofL {bs : List Bool} (hl : bs.length = 64) : Good bs (ofL bs) := by
  unfold ofL
  cases ha : allK bs 64
  · rw [if_neg (by simp)]; exact good_ofK hl ha
  · rw [if_pos rfl]; exact good_all hl ha

end Go.Proofs.Ytikeiocgnjdhbaa
