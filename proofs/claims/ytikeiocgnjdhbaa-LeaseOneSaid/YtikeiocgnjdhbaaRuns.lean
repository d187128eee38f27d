/- Places as arcs: plain lists. -/
import Derived.Test.YtikeiocgnjdhbaaPr
namespace Go.Proofs.Ytikeiocgnjdhbaa
open Go.RowKit Go.Sort
set_option linter.unusedVariables false

/-- is a place in -/
def inB (bs : List Bool) (p : Nat) : Bool := bs.getD p false
/-- from n on, at most so many more that are in -/
def runF (B : Nat → Bool) : Nat → Nat → Nat
  | 0, n => n
  | k + 1, n => if B n then runF B k (n + 1) else n
/-- the place n behind p -/
def from_ (bs : List Bool) (p n : Nat) : Bool := inB bs ((p + n) % 64)
/-- how many places from p on are in -/
def runN (bs : List Bool) (p : Nat) : Nat := runF (from_ bs p) 64 0
theorem runF_step {B : Nat → Bool} {n : Nat} (hn : n < 64) (h : B n = true) : runF B (64 - n) n = runF B (64 - (n + 1)) (n + 1) := by
  rw [show 64 - n = (64 - (n + 1)) + 1 by omega, runF, if_pos h]
theorem runF_stop {B : Nat → Bool} {n : Nat} (hn : n < 64) (h : B n = false) : runF B (64 - n) n = n := by
  rw [show 64 - n = (64 - (n + 1)) + 1 by omega, runF, if_neg (by rw [h]; simp)]
theorem runF_le (B : Nat → Bool) : ∀ k n, n ≤ runF B k n ∧ runF B k n ≤ n + k
  | 0, n => by simp [runF]
  | k + 1, n => by
    have := runF_le B k (n + 1)
    rw [runF]; split <;> omega
theorem runF_all (B : Nat → Bool) : ∀ k n j, n ≤ j → j < runF B k n → B j = true
  | 0, n, j, h1, h2 => by rw [runF] at h2; omega
  | k + 1, n, j, h1, h2 => by
    rw [runF] at h2
    split at h2
    · rename_i hb
      by_cases e : j = n
      · subst e; exact hb
      · exact runF_all B k (n + 1) j (by omega) h2
    · omega
theorem runF_end (B : Nat → Bool) : ∀ k n, runF B k n < n + k → B (runF B k n) = false
  | 0, n, h => by rw [runF] at h; omega
  | k + 1, n, h => by
    rw [runF] at h ⊢
    split at h
    · rename_i hb
      rw [if_pos hb]
      exact runF_end B k (n + 1) (by omega)
    · rename_i hb
      rw [if_neg hb]
      simpa using hb
theorem runN_le (bs : List Bool) (p : Nat) : runN bs p ≤ 64 := by have := (runF_le (from_ bs p) 64 0).2; unfold runN; omega

/-- does an arc begin at p -/
def startB (bs : List Bool) (p : Nat) : Bool := inB bs p && !inB bs ((p + 63) % 64)
/-- the arcs that begin below k -/
def ofK (bs : List Bool) : Nat → List (Nat × Nat)
  | 0 => []
  | k + 1 => if startB bs k then ofK bs k ++ [(k, runN bs k)] else ofK bs k
theorem ofK_yes {bs : List Bool} {k : Nat} (h : startB bs k = true) : ofK bs (k + 1) = ofK bs k ++ [(k, runN bs k)] := by rw [ofK, if_pos h]
theorem ofK_no {bs : List Bool} {k : Nat} (h : startB bs k = false) : ofK bs (k + 1) = ofK bs k := by rw [ofK, if_neg (by rw [h]; simp)]
theorem ofK_length (bs : List Bool) : ∀ k, (ofK bs k).length ≤ k
  | 0 => Nat.le_refl _
  | k + 1 => by
    have := ofK_length bs k
    rw [ofK]; split
    · simp; omega
    · omega
theorem ofK_zero (bs : List Bool) : ofK bs 0 = [] := rfl
/-- the first k are all in -/
def allK (bs : List Bool) : Nat → Bool
  | 0 => true
  | k + 1 => allK bs k && inB bs k
theorem allK_spec (bs : List Bool) : ∀ k, allK bs k = true ↔ ∀ p, p < k → inB bs p = true
  | 0 => by simp [allK]
  | k + 1 => by
    rw [allK, Bool.and_eq_true, allK_spec bs k]
    constructor
    · rintro ⟨h1, h2⟩ p hp
      by_cases e : p = k
      · subst e; exact h2
      · exact h1 p (by omega)
    · intro h; exact ⟨fun p hp => h p (by omega), h k (by omega)⟩
theorem all_true (bs : List Bool) (hl : bs.length = 64) : (bs == List.replicate 64 true) = allK bs 64 := by
  rw [Bool.eq_iff_iff, beq_iff_eq, allK_spec]
  constructor
  · intro h p hp
    rw [h]; unfold inB; rw [List.getD, List.getElem?_replicate, if_pos hp]; rfl
  · intro h
    apply List.ext_getElem (by simp [hl])
    intro i h1 h2
    have := h i (by omega)
    unfold inB at this
    rw [List.getElem_replicate]
    simpa [List.getD, List.getElem?_eq_getElem h1] using this
/-- the places as arcs -/
def ofL (bs : List Bool) : List (Nat × Nat) := if allK bs 64 then [(0, 64)] else ofK bs 64
/-- an arc list's cells -/
def acells (l : List (Nat × Nat)) : List Value := l.flatMap fun x => [.int .i64 (x.1 : Int), .int .i64 (x.2 : Int)]
theorem acells_length (l : List (Nat × Nat)) : (acells l).length = l.length * 2 := by
  induction l with
  | nil => rfl
  | cons x l ih => simp only [acells, List.flatMap_cons] at ih ⊢; simp [ih]; omega
theorem acells_append (l m : List (Nat × Nat)) : acells (l ++ m) = acells l ++ acells m := by simp [acells]
theorem acells_get (l : List (Nat × Nat)) : ∀ (j : Nat) (x : Nat × Nat), l[j]? = some x → (acells l)[j * 2]? = some (.int .i64 (x.1 : Int)) ∧ (acells l)[j * 2 + 1]? = some (.int .i64 (x.2 : Int)) := by
  induction l with
  | nil => intro j x h; simp at h
  | cons y l ih =>
    intro j x h
    match j, h with
    | 0, h => simp at h; subst h; simp [acells]
    | j + 1, h =>
      simp at h
      have := ih j x h
      simp only [acells, List.flatMap_cons] at this ⊢
      rw [show (j + 1) * 2 = j * 2 + 2 by omega, show j * 2 + 2 + 1 = (j * 2 + 1) + 2 by omega]
      simpa using this
theorem in_get {bs : List Bool} {p : Nat} (h : p < bs.length) : bs[p] = inB bs p := by simp [inB, List.getD, h]

/-- a slice of arcs has been made: it owns just these -/
def MadeArcs (w : World) (l : List (Nat × Nat)) (e : Ending) (w' : World) : Prop :=
  ∃ v, e = .returned v ∧ w'.ownsRow w.heap.size 37 2 v l.length (acells l) ∧ Below w.heap.size w w'
theorem arc_info : (Try.prog.info? 37).map (fun i => (i.zero, i.size, i.bytes)) = some (some (.agg #[.int .i64 0, .int .i64 0]), 2, 16) := by kernel_rfl
theorem cell_two_new (w : World) (u v : Value) (t : TypeId) : ∀ j x, [u, v][j]? = some x → (w.alloc (.cells #[u, v] t)).cell? ((⟨w.heap.size, 0, none⟩ : Addr).add j) = some x := by
  intro j x hj
  match j, hj with
  | 0, hj => simp at hj; subst hj; simp [Addr.add]
  | 1, hj => simp at hj; subst hj; simp [Addr.add]
theorem two_ints (x y : Int) : ∀ u ∈ [Value.int .i64 x, Value.int .i64 y], u.oneCell' = true := by
  intro u hu; simp at hu; rcases hu with rfl | rfl <;> rfl
theorem Row.in {w : World} {g t : Nat} {bs : List Bool} (h : Row w g t bs) (hl : bs.length = 64) (i : Nat) (hi : i < 64) : w.cell? ⟨g, i, none⟩ = some (.bool (inB bs i)) := by
  rw [h.cell i (by omega), in_get]
end Go.Proofs.Ytikeiocgnjdhbaa
