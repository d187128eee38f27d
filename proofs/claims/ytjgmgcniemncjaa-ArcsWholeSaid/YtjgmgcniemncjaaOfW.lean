/- Same of the document's answer; ArcsOf: the walk. -/
import Derived.Test.YtjgmgcniemncjaaROf
namespace Go.Proofs.Ytjgmgcniemncjaa
open Go.RowKit Go.Sort
set_option linter.unusedVariables false

/-- n arcs lie in a slice that begins at ao -/
def SlA (w : World) (ao : Option Addr) (n : Nat) (F G : Nat → Int) : Prop := ∀ j, j < n → ∃ g, ao = some ⟨g, 0, none⟩ ∧ g < w.heap.size ∧ w.cell? ⟨g, j * 2, none⟩ = some (.int .i64 (F j)) ∧ w.cell? ⟨g, j * 2 + 1, none⟩ = some (.int .i64 (G j))
theorem SlA.below {w w' : World} {ao : Option Addr} {n : Nat} {F G : Nat → Int} (h : SlA w ao n F G) (b : Below w.heap.size w w') : SlA w' ao n F G := fun j hj => by
  obtain ⟨g, h1, h2, h3, h4⟩ := h j hj
  exact ⟨g, h1, Nat.lt_of_lt_of_le h2 b.size, (b.cell h2).trans h3, (b.cell h2).trans h4⟩
def fromOf (l : List (Nat × Nat)) (j : Nat) : Int := ((l.getD j (0, 0)).1 : Nat)
def sizeOf_ (l : List (Nat × Nat)) (j : Nat) : Int := ((l.getD j (0, 0)).2 : Nat)
/-- what a made slice of arcs is -/
theorem made_arcs {w' : World} {base : Nat} {l : List (Nat × Nat)} {v : Value} (h : w'.ownsRow base 23 2 v l.length (acells l)) :
    ∃ ao cap, v = .slice ao l.length cap ∧ SlA w' ao l.length (fromOf l) (sizeOf_ l) := by
  obtain ⟨ao, cap, rfl⟩ := own_form h
  refine ⟨ao, cap, rfl, fun j hj => ?_⟩
  rcases h.2 with ⟨h1, h2⟩ | ⟨g, cap', cur, h1, h2, h3, h4⟩
  · omega
  · simp only [Value.slice.injEq, true_and] at h1
    obtain ⟨rfl, rfl⟩ := h1
    have hx : l[j]? = some (l.getD j (0, 0)) := by simp [List.getD, hj]
    have hc := acells_get l j _ hx
    refine ⟨g, rfl, (Array.getElem?_eq_some_iff.1 h3).1, ?_, ?_⟩
    · rw [h.cellAt _ (by omega)]; exact hc.1
    · rw [h.cellAt _ (by omega)]; exact hc.2
theorem ofL_length (bs : List Bool) : (ofL bs).length ≤ 64 := by
  unfold ofL; split
  · simp
  · exact ofK_length bs 64

set_option maxHeartbeats 2000000 in
theorem rsame_any (n : Nat) (hn : n ≤ 64) (F G : Nat → Int) (ao bo : Option Addr) (c d : Nat) (w : World) (h1 : SlA w ao n F G) (h2 : SlA w bo n F G) :
    Calls Try.prog 24 #[.slice ao n c, .slice bo n d] w fun e w' => e = .returned (.bool true) ∧ Below w.heap.size w w' := by
  have H1 := Lib.hid h1; have H2 := Lib.hid h2; clear h1 h2
  go_enter Try.func24, Try.ntmps24
  go_wp2_with fail
  go_loopw [5] (fun i wr => ∃ k : Nat, k ≤ n ∧ i = .int .i64 k ∧ Below w.heap.size w wr) (fun i _ => n - (intOf i).toNat)
  case atStart => exact ⟨0, Nat.zero_le _, rfl, Below.refl _ _⟩
  case round =>
    obtain ⟨k, hk, rfl, hb⟩ := hrel
    by_cases hlt : k < n
    · obtain ⟨g1, rfl, p1, q1, q1'⟩ := (SlA.below H1.out hb) k hlt
      obtain ⟨g2, rfl, p2, q2, q2'⟩ := (SlA.below H2.out hb) k hlt
      have r1 := cell_regrown q1
      have r2 := cell_regrown q2
      have r1' := cell_regrown q1'
      have r2' := cell_regrown q2'
      clear p1 p2 q1 q2 q1' q2'
      go_wp2_with fail
      refine wp_region_quiet_below (by kernel_rfl) (by kernel_rfl) ?_
      repeat (go_big_quiet_step (fail))
      refine wpQuiet_nil ?_
      intro _ hw'
      obtain ⟨⟨dq, osq⟩, hw''⟩ := hw'
      subst hw''
      have lk := below_regrown wr dq osq
      go_wp2_with fail
      go_roundw
      case rel => exact ⟨k + 1, by omega, by go_num, below_next hb lk⟩
      case measure => simp [intOf]; omega
    · obtain rfl : k = n := by omega
      go_wp2_with fail
      go_ret
      exact ⟨rfl, hb⟩

theorem keepR {W w1 w2 : World} {g : Nat} {cs : List Value} (hg : g < W.heap.size) (h : Below W.heap.size W w1 ∧ w1.rangeAt g 0 cs) (k : Below w1.heap.size w1 w2) : Below W.heap.size W w2 ∧ w2.rangeAt g 0 cs :=
  ⟨below_next h.1 k, fun j v hv => (k.cell (p := ⟨g, 0 + j, none⟩) (Nat.lt_of_lt_of_le hg h.1.size)).trans (h.2 j v hv)⟩

/-- the row stands as it stood -/
def OfS (W : World) (g : Nat) (bs : List Bool) (w' : World) : Prop := Below W.heap.size W w' ∧ w'.rangeAt g 0 (bs.map Value.bool)
theorem OfS.keep {W w1 w2 : World} {g : Nat} {bs : List Bool} (hg : g < W.heap.size) (h : OfS W g bs w1) (k : Below w1.heap.size w1 w2) : OfS W g bs w2 := keepR hg h k

set_option maxHeartbeats 4000000 in
theorem arcsOf_law (bs : List Bool) (hl : bs.length = 64) (w : World) :
    Calls Try.prog 5 #[.agg ⟨bs.map Value.bool⟩] w (LawOk w) := by
  have hu := Try.underlying37
  have hinfo : (Try.prog.info? 37).map (·.size) = some (bs.map Value.bool).length := by rw [List.length_map, hl]; kernel_rfl
  have HL := Lib.hid hl; clear hl
  go_enter Try.func5, Try.ntmps5
  go_wp2_with fail
  have hrow := Row.new w 37 bs
  have hW : Below w.heap.size w (w.alloc (.cells ⟨bs.map Value.bool⟩ 37)) := below_alloc (Below.refl _ _) _
  have hA : w.heap.size < (w.alloc (.cells ⟨bs.map Value.bool⟩ 37)).heap.size := by simp
  generalize w.alloc (.cells ⟨bs.map Value.bool⟩ 37) = W at *
  have hS : Below W.heap.size W W ∧ W.rangeAt w.heap.size 0 (bs.map Value.bool) := ⟨Below.refl _ _, hrow.range⟩
  clear hrow
  have hS0 : OfS W w.heap.size bs W.drew := keepR hA hS ((Below.refl _ _).drew)
  clear hS
  refine wp_region_held_drew (S := OfS W w.heap.size bs) (by kernel_rfl) hS0 (fun hS0 => ?_)
  refine wpAnyH_ready (rs := [0]) (by kernel_rfl) (by simp) ?_
  refine AllReadyH.cons rfl (fun K hK => ?_) AllReadyH.nil
  go_simp
  refine (alive_any _).mono ?_; rintro e w0 ⟨rfl, lk0⟩
  refine hK.out _ _ (OfS.keep hA hS0 lk0) (fun hS1 => ?_)
  clear hK K
  try simp only [Act.put, List.getElem_toArray, List.getElem_cons_succ, List.getElem_cons_zero, List.setIfInBounds_toArray, List.set_cons_zero, List.set_cons_succ]
  refine wpAnyH_take (i := 1) (v := .bool true) rfl (by kernel_rfl) (by kernel_rfl) (by kernel_rfl) (fun _ _ _ h => h) (Or.inl ⟨by rfl, fun w' _ => by go_simp⟩) hS1 ?_
  try simp only [Act.put, List.getElem_toArray, List.getElem_cons_succ, List.getElem_cons_zero, List.setIfInBounds_toArray, List.set_cons_zero, List.set_cons_succ]
  refine wpAnyH_take (i := 2) rfl (by kernel_rfl) (by kernel_rfl) (by kernel_rfl) (fun _ _ _ h => h) (yieldsIf_load_mid (by rfl) 37 (.tmp 1) rfl w.heap.size 0 rfl (bs.map Value.bool) _ (fun w' h => h.2) hu rfl hinfo) hS1 ?_
  try simp only [Act.put, List.getElem_toArray, List.getElem_cons_succ, List.getElem_cons_zero, List.setIfInBounds_toArray, List.set_cons_zero, List.set_cons_succ]
  refine wpAnyH_take (i := 4) rfl (by kernel_rfl) (by kernel_rfl) (by kernel_rfl) (fun _ _ _ h => h) (yieldsIf_load_mid (by rfl) 37 (.tmp 1) rfl w.heap.size 0 rfl (bs.map Value.bool) _ (fun w' h => h.2) hu rfl hinfo) hS1 ?_
  try simp only [Act.put, List.getElem_toArray, List.getElem_cons_succ, List.getElem_cons_zero, List.setIfInBounds_toArray, List.set_cons_zero, List.set_cons_succ]
  refine wpAnyH_ready (rs := [3]) (by kernel_rfl) (by simp) ?_
  refine AllReadyH.cons rfl (fun K hK => ?_) AllReadyH.nil
  go_simp
  refine (of_any bs HL.out _).mono ?_; rintro e w3 ⟨v, rfl, hown3, lk3⟩; obtain ⟨a3, c3, rfl, s3⟩ := made_arcs hown3; have S3 := Lib.hid s3; clear s3 hown3
  refine hK.out _ _ (OfS.keep hA hS1 lk3) (fun hS2 => ?_)
  clear hK K
  try simp only [Act.put, List.getElem_toArray, List.getElem_cons_succ, List.getElem_cons_zero, List.setIfInBounds_toArray, List.set_cons_zero, List.set_cons_succ]
  refine wpAnyH_ready (rs := [5]) (by kernel_rfl) (by simp) ?_
  refine AllReadyH.cons rfl (fun K hK => ?_) AllReadyH.nil
  go_simp
  refine (rof_any bs HL.out _).mono ?_; rintro e w4 ⟨v, rfl, hown4, lk4⟩; obtain ⟨a4, c4, rfl, s4⟩ := made_arcs hown4; have S4 := Lib.hid s4; clear s4 hown4
  refine hK.out _ _ (OfS.keep hA hS2 lk4) (fun hS3 => ?_)
  clear hK K
  try simp only [Act.put, List.getElem_toArray, List.getElem_cons_succ, List.getElem_cons_zero, List.setIfInBounds_toArray, List.set_cons_zero, List.set_cons_succ]
  refine wpAnyH_ready (rs := [6]) (by kernel_rfl) (by simp) ?_
  refine AllReadyH.cons rfl (fun K hK => ?_) AllReadyH.nil
  go_simp
  refine (rsame_any _ (ofL_length bs) _ _ _ _ _ _ _ (SlA.below S3.out lk4) S4.out).mono ?_; rintro e w5 ⟨rfl, lk5⟩
  refine hK.out _ _ (OfS.keep hA hS3 lk5) (fun hS4 => ?_)
  clear hK K
  try simp only [Act.put, List.getElem_toArray, List.getElem_cons_succ, List.getElem_cons_zero, List.setIfInBounds_toArray, List.set_cons_zero, List.set_cons_succ]
  refine wpAnyH_take (i := 7) (v := .bool true) rfl (by kernel_rfl) (by kernel_rfl) (by kernel_rfl) (fun _ _ _ h => h) (Or.inl ⟨by rfl, fun w' _ => by go_simp⟩) hS4 ?_
  try simp only [Act.put, List.getElem_toArray, List.getElem_cons_succ, List.getElem_cons_zero, List.setIfInBounds_toArray, List.set_cons_zero, List.set_cons_succ]
  refine wpAnyH_take (i := 8) (v := .bool true) rfl (by kernel_rfl) (by kernel_rfl) (by kernel_rfl) (fun _ _ _ h => h) (Or.inl ⟨by rfl, fun w' _ => by go_simp⟩) hS4 ?_
  try simp only [Act.put, List.getElem_toArray, List.getElem_cons_succ, List.getElem_cons_zero, List.setIfInBounds_toArray, List.set_cons_zero, List.set_cons_succ]
  refine wpAnyH_done (by kernel_rfl) ?_ _
  have b5 := hS4.1
  clear S3 S4 lk3 lk4 lk5 hS0 hS1 hS2 hS3 hS4 hu hinfo
  go_wp2_with fail
  go_ret
  exact ⟨rfl, below_next hW b5⟩

end Go.Proofs.Ytjgmgcniemncjaa
