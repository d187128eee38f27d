/- Arguments that are slices of bytes; the table, out of what the card lays. -/
import Derived.Test.YtbbafjgbcmlacaaDoorSum
import Derived.SizedLaws
import Derived.Lib.LaidTab
import Derived.LaidMore
import Derived.MakeChecks
import Derived.Deep.Slices
import Derived.Deep.SlicePairs
namespace Go.Proofs.YtbbafjgbcmlacaaDoor
open Go.ChangeShapes Go.WideShapes Go.ChangeAt Go.RowKit
set_option linter.unusedVariables false

theorem table_name : Tryd.prog.globalNamed "tontine/frame.remainders" = some 0 := by kernel_rfl
theorem table_type : (Tryd.prog.globals[0]?).map (·.type) = some 56 := by kernel_rfl
def table : List Int := [0, 274646895, 549293790, 820201905, 1098587580, 1361435347, 1640403810, 1905808397, 2197175160, 2460548119, 2722870694, 2987750089, 3280807620, 3553878443, 3811616794, 4084100981]
theorem table_at (i : Nat) (h : i < 16) : table.getD i 0 = (shifts 4 i : Nat) := by
  have : ∀ i, i < 16 → table.getD i 0 = (shifts 4 i : Nat) := by decide +kernel
  exact this i h
theorem tab_of_laid {W : World} (h : laidMetH Tryd.prog [("tontine/frame.remainders", Rows.laid_tontine_frame_remainders)] W) : Tab W := by
  rw [MakeChecks.laidMetH_plain _ _ _ (by kernel_rfl)] at h
  have h1 : laidMet Tryd.prog (("tontine/frame.remainders", Lib.tabData .u32 table) :: []) W := h
  have h2 := Lib.tabIs_of_head table_name table_type Tryd.underlying56 Tryd.underlying23 (by kernel_rfl) (by kernel_rfl) h1
  have h3 : ∀ i, i < 16 → W.cell? ⟨0, i, none⟩ = some (.int .u32 (shifts 4 i : Nat)) := fun i hi => by
    rw [h2.cell table_name i (by simpa [table] using hi), table_at i hi]
  exact ⟨World.block_lt_of_cell? W _ (h3 0 (by omega)), h3⟩

theorem byte_cells : Tryd.prog.cellsOf 5 = 1 := by kernel_rfl
theorem byte_bytes : Tryd.prog.bytesOf 5 = 1 := by kernel_rfl

section
variable {H : Type} {enc : TypeId × Value → H} {W : World} {held : Bool}
/-- a slice of bytes by its reading, whatever is read -/
theorem bytes_of_trod {fuel : Nat} {cs0 : List Value} {d : DataW H} {p : List MemPlace} (h : DataW.trod enc Tryd.prog W 0 (fun _ => true) held fuel 22 cs0 = some (d, p)) :
    ∃ ao n cap l, cs0 = [.slice ao n cap] ∧ l.length = n ∧ n ≤ cap ∧ cap ≤ maxLen ∧ Rd W ao l ∧ (n = 0 ∨ ∃ elems spare, d = .slice elems spare ∧ elems.length = n) := by
  rcases open_ints Tryd.underlying22 Tryd.underlying5 byte_cells h with ⟨hcs, hx⟩ | ⟨a, len, cap, zs, hcs, hb, hl, hm, hz, hx, hcell, hwf⟩
  · exact ⟨none, 0, 0, [], hcs, rfl, Nat.le_refl _, Nat.zero_le _, Rd.nil _ _, .inl rfl⟩
  · simp only [if_true] at hz
    have hby : ∀ z ∈ zs, 0 ≤ z ∧ z < 256 := fun z hz => by have := bounds_u8 (hwf z hz); omega
    refine ⟨some a, len, cap, (zs.take len).map Int.toNat, hcs, by simp; omega, hl, hm, ⟨?_, ?_⟩, .inr ⟨_, _, congrArg Prod.fst hx, by simp [lits]; omega⟩⟩
    · intro c hc
      obtain ⟨z, hz1, rfl⟩ := List.mem_map.1 hc
      have := hby z (List.mem_of_mem_take hz1)
      omega
    · intro j hj
      simp at hj
      obtain ⟨b, off, rfl, hc⟩ := ints_at hcell (by omega)
      have h1 := hc j (by omega)
      refine ⟨b, off, rfl, World.block_lt_of_cell? W _ h1, ?_⟩
      rw [h1]
      have hzj : zs[j]? = some (zs.getD j 0) := by simp [List.getD, show j < zs.length by omega]
      have h2 := hby (zs.getD j 0) (List.mem_of_getElem? hzj)
      have e : bt ((zs.take len).map Int.toNat) j = (zs.getD j 0).toNat := by
        unfold bt
        rw [List.getD_eq_getElem?_getD, List.getElem?_map, List.getElem?_take, if_pos (by omega), hzj]
        rfl
      rw [e]
      unfold u8v
      rw [Int.toNat_of_nonneg h2.1]
theorem bytes_arg {base : Nat} {v : Value} {d : DataW H} {p : List MemPlace} (ok : Value.okWide Tryd.prog W .any base 22 v) (k : DataW.Trod enc Tryd.prog W 0 (fun _ => true) held 22 v d p) :
    ∃ ao n cap l, v = .slice ao n cap ∧ l.length = n ∧ n ≤ cap ∧ cap ≤ maxLen ∧ Rd W ao l ∧ (n = 0 ∨ ∃ elems spare, d = .slice elems spare ∧ elems.length = n) := by
  obtain ⟨a0, len0, cap0, rfl⟩ := okWide_slice Tryd.underlying22 ok
  obtain ⟨fuel, hf⟩ := k
  obtain ⟨ao, n, cap, l, e, h⟩ := bytes_of_trod hf
  have e' : Value.slice a0 len0 cap0 = .slice ao n cap := by simpa [Value.cells] using e
  exact ⟨ao, n, cap, l, e', h⟩
theorem bytes_size {ts : List TypeId} {ds : List (DataW H)} {d : DataW H} {n : Nat} (hsz : (DataW.weightsEach Tryd.prog ts ds).all (· ≤ reachBytes) = true) (j : Nat) (ht : ts[j]? = some 22) (hd : ds[j]? = some d)
    (h : n = 0 ∨ ∃ elems spare, d = .slice elems spare ∧ elems.length = n) : n ≤ 140737488351232 := by
  rcases h with rfl | ⟨elems, spare, rfl, rfl⟩
  · omega
  · have := sized_slice hsz ht hd Tryd.underlying22
    rw [byte_bytes] at this
    have e : reachBytes = 140737488351232 := rfl
    omega
end
end Go.Proofs.YtbbafjgbcmlacaaDoor
