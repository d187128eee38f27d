/- Arguments that are slices of integers. -/
import Derived.Test.YtjhdlohcjodgjaaArg
namespace Go.Proofs.Ytjhdlohcjodgjaa
open Go.ChangeShapes Go.WideShapes Go.ChangeAt Go.RowKit Go.Deep
set_option linter.unusedVariables false

/-- a slice reads as integers -/
def IntsRd (W : World) (ao : Option Addr) (l : List Int) : Prop :=
  (∀ c ∈ l, -9223372036854775808 ≤ c ∧ c ≤ 9223372036854775807) ∧ ∀ (j : Nat) (z : Int), l[j]? = some z → ∃ g o, ao = some ⟨g, o, none⟩ ∧ g < W.heap.size ∧ W.cell? ⟨g, o + j, none⟩ = some (.int .i64 z)
theorem IntsRd.nil (W : World) (ao : Option Addr) : IntsRd W ao [] := ⟨by simp, by simp⟩
theorem IntsRd.below {W W' : World} {ao : Option Addr} {l : List Int} (h : IntsRd W ao l) (b : Below W.heap.size W W') : IntsRd W' ao l := ⟨h.1, fun j z hj => by
  obtain ⟨g, o, e, h0, h1⟩ := h.2 j z hj
  exact ⟨g, o, e, Nat.lt_of_lt_of_le h0 b.size, (b.cell h0).trans h1⟩⟩
section
variable {H : Type} {enc : TypeId × Value → H} {W : World} {held : Bool}
/-- a slice of integers by its reading -/
theorem ints_of_trod {fuel : Nat} {cs0 : List Value} {d : DataW H} {p : List MemPlace} (h : DataW.trod enc Try.prog W 0 (fun _ => true) held fuel 65 cs0 = some (d, p)) :
    ∃ ao n cap l, cs0 = [.slice ao n cap] ∧ l.length = n ∧ n ≤ cap ∧ cap ≤ maxLen ∧ IntsRd W ao l ∧ (n = 0 ∨ ∃ elems spare, d = .slice elems spare ∧ elems.length = n) := by
  rcases open_ints Try.underlying65 Try.underlying3 (by kernel_rfl) h with ⟨hcs, hx⟩ | ⟨a, len, cap, zs, hcs, hb, hl, hm, hz, hx, hcell, hwf⟩
  · exact ⟨none, 0, 0, [], hcs, rfl, Nat.le_refl _, Nat.zero_le _, IntsRd.nil _ _, .inl rfl⟩
  · simp only [if_true] at hz
    refine ⟨some a, len, cap, zs.take len, hcs, by simp; omega, hl, hm, ⟨?_, ?_⟩, .inr ⟨_, _, congrArg Prod.fst hx, by simp [lits]; omega⟩⟩
    · intro c hc
      exact bounds_i64 (hwf c (List.mem_of_mem_take hc))
    · intro j z hj
      obtain ⟨hj1, hj2⟩ := List.getElem?_eq_some_iff.1 hj
      rw [List.length_take] at hj1
      obtain ⟨b, off, rfl, hc⟩ := ints_at hcell (by omega)
      have h1 := hc j (by omega)
      refine ⟨b, off, rfl, World.block_lt_of_cell? W _ h1, ?_⟩
      rw [h1]
      rw [List.getElem_take] at hj2
      have hj3 : j < zs.length := by omega
      rw [← hj2, List.getD_eq_getElem?_getD, List.getElem?_eq_getElem hj3]
      rfl
set_option maxRecDepth 100000 in
theorem ints_arg {ts : List TypeId} {ds : List (DataW H)} (hsz : (DataW.weightsEach Try.prog ts ds).all (· ≤ reachBytes) = true) {d : DataW H} (j : Nat) (ht : ts[j]? = some 65) (hd : ds[j]? = some d)
    {base : Nat} {v : Value} {p : List MemPlace} (ok : Value.okWide Try.prog W .any base 65 v) (k : DataW.Trod enc Try.prog W 0 (fun _ => true) held 65 v d p) :
    ∃ ao n cap l, v = .slice ao n cap ∧ l.length = n ∧ n ≤ cap ∧ cap ≤ maxLen ∧ n ≤ 17592186043904 ∧ IntsRd W ao l := by
  obtain ⟨a0, len0, cap0, rfl⟩ := okWide_slice Try.underlying65 ok
  obtain ⟨fuel, hf⟩ := k
  obtain ⟨ao, n, cap, l, e, h1, h2, h3, h4, h5⟩ := ints_of_trod hf
  have e' : Value.slice a0 len0 cap0 = .slice ao n cap := by simpa [Value.cells] using e
  refine ⟨ao, n, cap, l, e', h1, h2, h3, ?_, h4⟩
  rcases h5 with rfl | ⟨elems, spare, rfl, rfl⟩
  · omega
  · have := sized_slice hsz ht hd Try.underlying65
    have hby : Try.prog.bytesOf 3 = 8 := by kernel_rfl
    rw [hby] at this
    have e : reachBytes = 140737488351232 := rfl
    omega

end
end Go.Proofs.Ytjhdlohcjodgjaa
