/- Same of the document's answer; ArcsOf: the walk. -/
import Derived.Test.YtikeiocgnjdhbaaROf
namespace Go.Proofs.Ytikeiocgnjdhbaa
open Go.RowKit Go.Sort
set_option linter.unusedVariables false

/-- n arcs lie in a slice that begins at ao -/
def SlA (w : World) (ao : Option Addr) (n : Nat) (F G : Nat → Int) : Prop := ∀ j, j < n → ∃ g, ao = some ⟨g, 0, none⟩ ∧ g < w.heap.size ∧ w.cell? ⟨g, j * 2, none⟩ = some (.int .i64 (F j)) ∧ w.cell? ⟨g, j * 2 + 1, none⟩ = some (.int .i64 (G j))
theorem SlA.below {w w' : World} {ao : Option Addr} {n : Nat} {F G : Nat → Int} (h : SlA w ao n F G) (b : Below w.heap.size w w') : SlA w' ao n F G := fun j hj => by
  obtain ⟨g, h1, h2, h3, h4⟩ := h j hj
  exact ⟨g, h1, Nat.lt_of_lt_of_le h2 b.size, (b.cell h2).trans h3, (b.cell h2).trans h4⟩
def fromOf (l : List (Nat × Nat)) (j : Nat) : Int := ((l.getD j (0, 0)).1 : Nat)
def sizeOf_ (l : List (Nat × Nat)) (j : Nat) : Int := ((l.getD j (0, 0)).2 : Nat)
/-- what a made slice of arcs is -/
theorem made_arcs {w' : World} {base : Nat} {l : List (Nat × Nat)} {v : Value} (h : w'.ownsRow base 37 2 v l.length (acells l)) :
    ∃ ao cap, v = .slice ao l.length cap ∧ SlA w' ao l.length (fromOf l) (sizeOf_ l) := by
  obtain ⟨ao, cap, rfl⟩ := own_form h
  refine ⟨ao, cap, rfl, fun j hj => ?_⟩
  rcases h.2 with ⟨h1, h2⟩ | ⟨g, cap', cur, h1, h2, h3, h4⟩
  · omega
  · simp only [Value.slice.injEq, true_and] at h1
    obtain ⟨rfl, rfl⟩ := h1
    have hx : l[j]? = some (l.getD j (0, 0)) := by simp [List.getD, hj]
    have hc := acells_get l j _ hx
    refine ⟨g, rfl, (Array.getElem?_eq_some_iff.1 h3).1, ?_, ?_⟩
    · rw [h.cellAt _ (by omega)]; exact hc.1
    · rw [h.cellAt _ (by omega)]; exact hc.2
theorem ofL_length (bs : List Bool) : (ofL bs).length ≤ 64 := by
  unfold ofL; split
  · simp
  · exact ofK_length bs 64

set_option maxHeartbeats 2000000 in
theorem rsame_any (n : Nat) (hn : n ≤ 64) (F G : Nat → Int) (ao bo : Option Addr) (c d : Nat) (w : World) (h1 : SlA w ao n F G) (h2 : SlA w bo n F G) :
    Calls Try.prog 15 #[.slice ao n c, .slice bo n d] w fun e w' => e = .returned (.bool true) ∧ Below w.heap.size w w' := by
  have H1 := Lib.hid h1; have H2 := Lib.hid h2; clear h1 h2
  go_enter Try.func15, Try.ntmps15
  go_wp2_with fail
  go_loopw [5] (fun i wr => ∃ k : Nat, k ≤ n ∧ i = .int .i64 k ∧ Below w.heap.size w wr) (fun i _ => n - (intOf i).toNat)
  case atStart => exact ⟨0, Nat.zero_le _, rfl, Below.refl _ _⟩
  case round =>
    obtain ⟨k, hk, rfl, hb⟩ := hrel
    by_cases hlt : k < n
    · obtain ⟨g1, rfl, p1, q1, q1'⟩ := (SlA.below H1.out hb) k hlt
      obtain ⟨g2, rfl, p2, q2, q2'⟩ := (SlA.below H2.out hb) k hlt
      have r1 := cell_regrown q1
      have r2 := cell_regrown q2
      have r1' := cell_regrown q1'
      have r2' := cell_regrown q2'
      clear p1 p2 q1 q2 q1' q2'
      go_wp2_with fail
      refine wp_region_quiet_below (by kernel_rfl) (by kernel_rfl) ?_
      repeat (go_big_quiet_step (fail))
      refine wpQuiet_nil ?_
      intro _ hw'
      obtain ⟨⟨dq, osq⟩, hw''⟩ := hw'
      subst hw''
      have lk := below_regrown wr dq osq
      go_wp2_with fail
      go_roundw
      case rel => exact ⟨k + 1, by omega, by go_num, below_next hb lk⟩
      case measure => simp [intOf]; omega
    · obtain rfl : k = n := by omega
      go_wp2_with fail
      go_ret
      exact ⟨rfl, hb⟩

theorem keepR {W w1 w2 : World} {g : Nat} {cs : List Value} (hg : g < W.heap.size) (h : Below W.heap.size W w1 ∧ w1.rangeAt g 0 cs) (k : Below w1.heap.size w1 w2) : Below W.heap.size W w2 ∧ w2.rangeAt g 0 cs :=
  ⟨below_next h.1 k, fun j v hv => (k.cell (p := ⟨g, 0 + j, none⟩) (Nat.lt_of_lt_of_le hg h.1.size)).trans (h.2 j v hv)⟩

/-- the row stands as it stood -/
def OfS (W : World) (g : Nat) (bs : List Bool) (w' : World) : Prop := Below W.heap.size W w' ∧ w'.rangeAt g 0 (bs.map Value.bool)
theorem OfS.keep {W w1 w2 : World} {g : Nat} {bs : List Bool} (hg : g < W.heap.size) (h : OfS W g bs w1) (k : Below w1.heap.size w1 w2) : OfS W g bs w2 := keepR hg h k

end Go.Proofs.Ytikeiocgnjdhbaa
