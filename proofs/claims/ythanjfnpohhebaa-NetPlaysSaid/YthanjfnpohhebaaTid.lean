/- NetPlays: the twin's own id. -/
import Derived.Test.YthanjfnpohhebaaTwn
namespace Go.Proofs.Ythanjfnpohhebaa
open Go.RowKit Go.Sort
set_option linter.unusedVariables false
set_option linter.unusedSectionVars false
set_option linter.unusedSimpArgs false
set_option maxRecDepth 100000
/-- an op's cells -/
abbrev opC (kind fr dn at_ : Int) (id : Nat) (raw : Bool) (b : Int) (v : Value) : Array Value := #[.int .i64 kind, .int .i64 fr, .int .i64 dn, .int .i64 at_, .int .u64 (id : Int), .bool raw, .int .u8 b, v]
/-- the number that an op speaks of -/
def pickId (D : List Pkt) (raw : Bool) (id : Nat) : Nat := if raw = true ∨ D.length = 0 then id else match D[id % D.length]? with | some p => p.id | none => 0
section
variable {w w' : World} {B tb hn nb room made last : Nat} {tg : Nat → Nat} {S D L V : List Pkt} {T T2 : Tr}
/-- the twin's row, read -/
theorem TwW.cells (h : TwW w B tb tg hn nb room S made T D last T2 L V) : w.cell? ⟨tb, 0, none⟩ = some (.pointer (some ⟨hn, 0, none⟩)) ∧ w.cell? ⟨tb, 1, none⟩ = some (.pointer (some ⟨nb, 0, none⟩)) ∧ tb < w.heap.size := by
  obtain ⟨la, l2, wa, wc, h5, _⟩ := h.out
  exact ⟨cell_of_row w tb 0 _ _ (0, 0) h5, cell_of_row w tb 1 _ _ (0, 0) h5, (Array.getElem?_eq_some_iff.1 h5).1⟩
set_option maxHeartbeats 3200000 in
theorem tid_any (w : World) (h : TwW w B tb tg hn nb room S made T D last T2 L V) (kind fr dn at_ : Int) (id : Nat) (hid : id < 18446744073709551616) (raw : Bool) (b : Int) (v : Value) :
    Calls Try.prog 21 #[.pointer (some ⟨tb, 0, none⟩), .agg (opC kind fr dn at_ id raw b v)] w fun e w' => e = .returned (.int .u64 (pickId D raw id : Int)) ∧ Below w.heap.size w w' := by
  obtain ⟨c0, c1, hlt⟩ := h.cells
  obtain ⟨lo, lc, hr, _⟩ := h.rn
  have r2 := hr.at_ 2
  simp only [rowR, List.getElem?_toArray, List.getElem?_cons_succ, List.getElem?_cons_zero] at r2
  have hnl := hr.lt
  have hfew := hr.few
  obtain ⟨m, hm⟩ : ∃ m, D.length = m := ⟨_, rfl⟩
  rw [hm] at r2 hfew
  have hmi : (m : Int) ≤ 4096 := by omega
  have hidi : (id : Int) < 18446744073709551616 := by omega
  have b0 := below_alloc (Below.refl w.heap.size w) (.cells (opC kind fr dn at_ id raw b v) 41)
  have q0 := heap_alloc_new w (.cells (opC kind fr dn at_ id raw b v) 41)
  have c1a := (b0.cell (p := ⟨tb, 1, none⟩) hlt).trans c1
  have r2a := (b0.cell (p := ⟨nb, 2, none⟩) hnl).trans r2
  have HR := Lib.hid (hr.below b0)
  have B0 := Lib.hid b0
  have Q0 := Lib.hid q0
  have HM := Lib.hid hm
  clear h c0 c1 r2 hr b0 q0 hm
  cases raw
  · by_cases hz : m = 0
    · have hp : pickId D false id = id := by unfold pickId; rw [if_pos (.inr (HM.out.trans hz))]
      rw [hp]
      subst hz
      go_enter Try.func21, Try.ntmps21
      go_wp2_with fail
      go_ret
      exact ⟨rfl, B0.out⟩
    · have hk : id % m < m := Nat.mod_lt _ (by omega)
      obtain ⟨k, hkk⟩ : ∃ k, id % m = k := ⟨_, rfl⟩
      rw [hkk] at hk
      obtain ⟨p, hpk⟩ : ∃ p, D[k]? = some p := ⟨_, List.getElem?_eq_getElem (by rw [HM.out]; exact hk)⟩
      have hp : pickId D false id = p.id := by
        unfold pickId
        rw [if_neg (by rw [HM.out]; simp [hz]), HM.out, hkk, hpk]
      rw [hp]
      obtain ⟨g, rfl, hg, hc⟩ := HR.out.pkt hpk
      have d0 := hc 0 (by omega)
      simp only [List.getElem?_cons_zero, Nat.add_zero] at d0
      have hmod : (id : Int) % (m : Int) = (k : Int) := by rw [← hkk]; exact (Int.natCast_emod id m).symm
      have hmod2 : (id : Int).tmod (m : Int) = (k : Int) := by rw [Int.tmod_eq_emod_of_nonneg (by omega)]; exact hmod
      have hk0 : (0 : Int) ≤ (k : Int) := by omega
      have hkm : (k : Int) < (m : Int) := by omega
      have hz2 : ¬ (m : Int) = 0 := by omega
      have hz3 : ((m : Int) == 0) = false := by simp [hz]
      have w1 : IntKind.u64.wrap (m : Int) = (m : Int) := IntWalk.u64_in _ (by omega)
      have w2 : IntKind.i64.wrap (k : Int) = (k : Int) := IntWalk.i64_in _ (by omega)
      have w3 : IntKind.u64.wrap (k : Int) = (k : Int) := IntWalk.u64_in _ (by omega)
      clear hc hpk hkk hp
      go_enter Try.func21, Try.ntmps21
      go_upto_region 3 with (fail)
      have hbx := cell_of_row (w.alloc (.cells (opC kind fr dn at_ id false b v) 41)) w.heap.size 4 _ _ (0, 0) Q0.out
      simp only [List.getElem?_toArray, List.getElem?_cons_succ, List.getElem?_cons_zero] at hbx
      have hs0 : w.heap.size < (w.alloc (.cells (opC kind fr dn at_ id false b v) 41)).heap.size := by simp
      generalize w.alloc (.cells #[.int .i64 kind, .int .i64 fr, .int .i64 dn, .int .i64 at_, .int .u64 (id : Int), .bool false, .int .u8 b, v] 41) = w1' at *
      go_quiet (fail)
      have b2 := below_drewN (Below.refl w1'.heap.size w1') nq
      clear hbx c1a r2a d0
      generalize w1'.drewN nq = w2' at *
      go_wp2_with fail
      go_ret
      exact ⟨rfl, below_next B0.out b2⟩
  · have hp : pickId D true id = id := by unfold pickId; rw [if_pos (.inl rfl)]
    rw [hp]
    go_enter Try.func21, Try.ntmps21
    go_wp2_with fail
    go_ret
    exact ⟨rfl, B0.out⟩
end
end Go.Proofs.Ythanjfnpohhebaa
