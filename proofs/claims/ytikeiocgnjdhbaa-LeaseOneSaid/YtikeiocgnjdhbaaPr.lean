/- Rows of 64 bools, slices of places: what later texts use. -/
import Derived.Test.YtikeiocgnjdhbaaRow
import Derived.Test.YtikeiocgnjdhbaaHas
import Derived.Test.YtikeiocgnjdhbaaPlaces
namespace Go.Proofs.Ytikeiocgnjdhbaa
open Go.RowKit Go.Sort
set_option linter.unusedVariables false

theorem places_row (w : World) {g : Nat} {bs : List Bool} (h : Row w g 69 bs) (hl : bs.length = 64) : (Instr.loadAt 69 (.pointer (some ⟨g, 0, none⟩))).run Try.prog w = .ok (.agg ⟨bs.map Value.bool⟩) w :=
  h.load Try.underlying69 (by kernel_rfl) hl
theorem arr_row (w : World) {g : Nat} {bs : List Bool} (h : Row w g 60 bs) (hl : bs.length = 64) : (Instr.loadAt 60 (.pointer (some ⟨g, 0, none⟩))).run Try.prog w = .ok (.agg ⟨bs.map Value.bool⟩) w :=
  h.load Try.underlying60 (by kernel_rfl) hl
theorem eql_arr (l m : List Bool) (hl : l.length = 64) (hm : m.length = 64) (w : World) : (binOp .eql 60 (.agg ⟨l.map .bool⟩) (.agg ⟨m.map .bool⟩)).run Try.prog w = .ok (.bool (l == m)) w :=
  run_eql_bools 64 _ 4 l m w Try.underlying60 Try.underlying4 (fun _ => by kernel_rfl) (fun _ => by kernel_rfl) hl hm

/-- no place -/
def zeros : List Bool := List.replicate 64 false
theorem zeros_length : zeros.length = 64 := by simp [zeros]
theorem build_places (w : World) : (Instr.build 69 #[]).run Try.prog w = .ok (.agg ⟨zeros.map Value.bool⟩) w := run_build w _ _ _ (by kernel_rfl)


theorem has_spec {f s p : Int} (hr : rightB f s = true) (h0 : 0 ≤ p) (h1 : p < 64) : hasB f s p = true ↔ (f ≤ p ∧ p < f + s) ∨ p < f + s - 64 := by
  have h := right_spec.1 hr
  unfold hasB
  rw [hr, show placeB p = true from place_spec.2 ⟨h0, h1⟩, Bool.true_and, Bool.true_and, decide_eq_true_eq]
  omega
theorem has_no {f s p : Int} (hr : rightB f s = false) : hasB f s p = false := by simp [hasB, hr]

/-- how many of the first k places are in -/
def cnt (F : Int → Bool) : Nat → Nat
  | 0 => 0
  | k + 1 => cnt F k + (if F k then 1 else 0)
theorem cnt_le (F : Int → Bool) : ∀ k, cnt F k ≤ k
  | 0 => Nat.le_refl _
  | k + 1 => by have := cnt_le F k; rw [cnt]; split <;> omega
theorem cnt_none {F : Int → Bool} (h : ∀ p, F p = false) : ∀ k, cnt F k = 0
  | 0 => rfl
  | k + 1 => by rw [cnt, cnt_none h k, h]; rfl
theorem cnt_low {f s : Int} (hr : rightB f s = true) (hs : f + s ≤ 64) : ∀ k : Nat, k ≤ 64 → ((k : Int) ≤ f → (cnt (hasB f s) k : Int) = 0) ∧ (f ≤ k → (k : Int) ≤ f + s → (cnt (hasB f s) k : Int) = k - f) ∧ (f + s ≤ k → (cnt (hasB f s) k : Int) = s)
  | 0, _ => by
    have h := right_spec.1 hr
    rw [cnt]; refine ⟨fun _ => ?_, fun _ _ => ?_, fun _ => ?_⟩ <;> omega
  | k + 1, hk => by
    have h := right_spec.1 hr
    have ih := cnt_low hr hs k (by omega)
    obtain ⟨i1, i2, i3⟩ := ih
    have sp := has_spec hr (p := k) (by omega) (by omega)
    rw [cnt]
    by_cases hv : hasB f s k = true
    · have hv' := sp.1 hv
      rw [if_pos hv]; clear sp hv
      refine ⟨fun _ => ?_, fun _ _ => ?_, fun _ => ?_⟩ <;> omega
    · have hv' : ¬ ((f ≤ (k : Int) ∧ (k : Int) < f + s) ∨ (k : Int) < f + s - 64) := fun x => hv (sp.2 x)
      rw [if_neg hv]; clear sp hv
      refine ⟨fun _ => ?_, fun _ _ => ?_, fun _ => ?_⟩ <;> omega
theorem cnt_high {f s : Int} (hr : rightB f s = true) (hs : ¬ f + s ≤ 64) : ∀ k : Nat, k ≤ 64 → ((k : Int) ≤ f + s - 64 → (cnt (hasB f s) k : Int) = k) ∧ (f + s - 64 ≤ k → (k : Int) ≤ f → (cnt (hasB f s) k : Int) = f + s - 64) ∧ (f ≤ k → (cnt (hasB f s) k : Int) = f + s - 64 + k - f)
  | 0, _ => by
    have h := right_spec.1 hr
    rw [cnt]; refine ⟨fun _ => ?_, fun _ _ => ?_, fun _ => ?_⟩ <;> omega
  | k + 1, hk => by
    have h := right_spec.1 hr
    have ih := cnt_high hr hs k (by omega)
    obtain ⟨i1, i2, i3⟩ := ih
    have sp := has_spec hr (p := k) (by omega) (by omega)
    rw [cnt]
    by_cases hv : hasB f s k = true
    · have hv' := sp.1 hv
      rw [if_pos hv]; clear sp hv
      refine ⟨fun _ => ?_, fun _ _ => ?_, fun _ => ?_⟩ <;> omega
    · have hv' : ¬ ((f ≤ (k : Int) ∧ (k : Int) < f + s) ∨ (k : Int) < f + s - 64) := fun x => hv (sp.2 x)
      rw [if_neg hv]; clear sp hv
      refine ⟨fun _ => ?_, fun _ _ => ?_, fun _ => ?_⟩ <;> omega
theorem cnt_all {f s : Int} (hr : rightB f s = true) : (cnt (hasB f s) 64 : Int) = s := by
  have h := right_spec.1 hr
  by_cases hs : f + s ≤ 64
  · have := (cnt_low hr hs 64 (by omega)).2.2 (by omega); omega
  · have := (cnt_high hr hs 64 (by omega)).2.2 (by omega); omega

theorem own_form {w : World} {base e size n : Nat} {v : Value} {xs : List Value} (h : w.ownsRow base e size v n xs) : ∃ ao cap, v = .slice ao n cap := by
  rcases h.2 with ⟨h1, rfl⟩ | ⟨g, cap, cur, h, _⟩
  · exact ⟨_, _, h1⟩
  · exact ⟨_, _, h⟩
theorem places_length (f s : Int) : (places f s).length = if rightB f s then s.toNat else 0 := by
  unfold places; split <;> simp [pl_length]

/-- n integers lie in a slice that begins at ao -/
def SlI (w : World) (ao : Option Addr) (n : Nat) (F : Nat → Int) : Prop := ∀ j, j < n → ∃ g, ao = some ⟨g, 0, none⟩ ∧ g < w.heap.size ∧ w.cell? ⟨g, j, none⟩ = some (.int .i64 (F j))
theorem SlI.below {w w' : World} {ao : Option Addr} {n : Nat} {F : Nat → Int} (h : SlI w ao n F) (b : Below w.heap.size w w') : SlI w' ao n F := fun j hj => by
  obtain ⟨g, h1, h2, h3⟩ := h j hj
  exact ⟨g, h1, Nat.lt_of_lt_of_le h2 b.size, (b.cell h2).trans h3⟩

/-- how many places an arc has -/
def np (f s : Int) : Nat := (places f s).length
theorem np_le (f s : Int) : np f s ≤ 64 := by
  unfold np; rw [places_length]
  split
  · rename_i h; have := right_spec.1 h; omega
  · omega
theorem places_get (f s : Int) (j : Nat) (hj : j < np f s) : (places f s)[j]? = some ((f + j) % 64) := by
  unfold np at hj
  unfold places at hj ⊢
  split at hj
  · rename_i h; rw [if_pos h]; rw [pl_length] at hj; simp [pl, hj]
  · simp at hj
theorem sl_of_own {w : World} {base e n cap : Nat} {ao : Option Addr} {l : List Int} (h : w.ownsRow base e 1 (.slice ao n cap) n (l.map (.int .i64))) : ∀ j x, l[j]? = some x → ∃ g, ao = some ⟨g, 0, none⟩ ∧ g < w.heap.size ∧ w.cell? ⟨g, j, none⟩ = some (.int .i64 x) := by
  intro j x hx
  have hj : j < l.length := (List.getElem?_eq_some_iff.1 hx).1
  have hl : l.length = n := by simpa using h.1
  rcases h.2 with ⟨h1, h2⟩ | ⟨g, cap', cur, h1, h2, h3, h4⟩
  · omega
  · simp only [Value.slice.injEq, true_and] at h1
    obtain ⟨rfl, rfl⟩ := h1
    refine ⟨g, rfl, (Array.getElem?_eq_some_iff.1 h3).1, ?_⟩
    rw [h.cellAt j (by omega)]
    simp [hx]
/-- what a made slice of an arc's places is -/
theorem made_places {w w' : World} {base f s : Int} {b : Nat} {v : Value} (h : w'.ownsRow b 3 1 v (places f s).length ((places f s).map (Value.int .i64))) :
    ∃ ao cap, v = .slice ao (np f s) cap ∧ SlI w' ao (np f s) (fun j => (f + (j : Nat)) % 64) := by
  obtain ⟨ao, cap, rfl⟩ := own_form h
  exact ⟨ao, cap, rfl, fun j hj => sl_of_own h j _ (places_get f s j hj)⟩

theorem has_mem {f s : Int} {j : Nat} (hj : j < np f s) : hasB f s ((f + j) % 64) = true := by
  unfold np at hj
  rw [places_length] at hj
  split at hj
  · rename_i h; have hr := right_spec.1 h
    rw [has_spec h (by omega) (by omega)]
    omega
  · omega
theorem has_ex {f s p : Int} (h : hasB f s p = true) : ∃ j, j < np f s ∧ p = (f + (j : Nat)) % 64 := by
  unfold hasB at h
  simp only [Bool.and_eq_true, decide_eq_true_eq] at h
  obtain ⟨h1, h2, h3⟩ := h
  have hr := right_spec.1 h1
  have hp := place_spec.1 h2
  refine ⟨((p - f + 64) % 64).toNat, ?_, ?_⟩
  · unfold np; rw [places_length, if_pos h1]; omega
  · omega
theorem has_place {f s p : Int} (h : hasB f s p = true) : 0 ≤ p ∧ p < 64 := by
  unfold hasB at h
  simp only [Bool.and_eq_true, decide_eq_true_eq] at h
  exact place_spec.1 h.2.1


theorem own_keep {w w' : World} {base e size n : Nat} {v : Value} {xs : List Value} (h : w.ownsRow base e size v n xs) (b : Below w.heap.size w w') : w'.ownsRow base e size v n xs := by
  refine ⟨h.1, ?_⟩
  rcases h.2 with hn | ⟨g, cap, cur, h1, h2, h3, rest⟩
  · exact .inl hn
  · exact .inr ⟨g, cap, cur, h1, h2, (b.block g (Array.getElem?_eq_some_iff.1 h3).1).trans h3, rest⟩
theorem own_at {w : World} {base e n cap k : Nat} {ao : Option Addr} {xs : List Value} (h : w.ownsRow base e 1 (.slice ao n cap) n xs) (hk : k < n) :
    ∃ g x, ao = some ⟨g, 0, none⟩ ∧ base ≤ g ∧ w.cell? ⟨g, k, none⟩ = some x ∧ w.frozen? ⟨g, k, none⟩ = false := by
  have hl : xs.length = n := by simpa using h.1
  rcases h.2 with ⟨h1, h2⟩ | ⟨g, cap', cur, h1, h2, h3, h4⟩
  · omega
  · simp only [Value.slice.injEq, true_and] at h1
    obtain ⟨rfl, rfl⟩ := h1
    refine ⟨g, xs[k]'(by omega), rfl, h2, ?_, h.frozenAt k⟩
    rw [h.cellAt k (by omega), List.getElem?_eq_getElem (by omega)]
theorem keep2 {W w1 w2 : World} {A : Nat} {v0 v1 : Value} (hA : A < W.heap.size)
    (h : Below W.heap.size W w1 ∧ w1.cell? ⟨A, 0, none⟩ = some v0 ∧ w1.cell? ⟨A, 1, none⟩ = some v1) (k : Below w1.heap.size w1 w2) :
    Below W.heap.size W w2 ∧ w2.cell? ⟨A, 0, none⟩ = some v0 ∧ w2.cell? ⟨A, 1, none⟩ = some v1 := by
  obtain ⟨hb, h0, h1⟩ := h
  have hs := hb.size
  have hlt : A < w1.heap.size := by omega
  exact ⟨below_next hb k, (k.cell (p := ⟨A, 0, none⟩) hlt).trans h0, (k.cell (p := ⟨A, 1, none⟩) hlt).trans h1⟩

end Go.Proofs.Ytikeiocgnjdhbaa
