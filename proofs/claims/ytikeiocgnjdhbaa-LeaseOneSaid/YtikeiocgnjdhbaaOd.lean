/- lease.Owned, ownsAll. -/
import Derived.Test.YtikeiocgnjdhbaaNw
namespace Go.Proofs.Ytikeiocgnjdhbaa
open Go.RowKit Go.Sort
set_option linter.unusedVariables false
set_option linter.unusedSimpArgs false
set_option maxRecDepth 100000

/-- a node's places -/
def ownL (T : Tb) (n : Int) : List Bool := upto (fun p => ownB T n p.toNat) 64
theorem ownL_length (T : Tb) (n : Int) : (ownL T n).length = 64 := upto_length _ _
set_option maxHeartbeats 2000000 in
theorem owned_any (T : Tb) (s : T.Sz) (n : Int) (w : World) : Calls Try.prog 16 #[.agg ⟨T.list⟩, .int .i64 n] w (MadeArcs w (ofL (ownL T n))) := by
  have HU := Lib.hid (upto_succ fun p => ownB T n p.toNat)
  have CO := Lib.hid (fun (p : Nat) hp => owns_any T s n p hp)
  have H1 := Lib.hid (TbR.new w T)
  have hW : Below w.heap.size w (w.alloc (.cells ⟨T.list⟩ 29)) := below_alloc (Below.refl _ _) _
  have hA : w.heap.size < (w.alloc (.cells ⟨T.list⟩ 29)).heap.size := by simp
  have hz : ownL T n = upto (fun p => ownB T n p.toNat) 64 := rfl
  rw [hz]
  go_enter Try.func16, Try.ntmps16
  go_upto_region 1 with (fail)
  generalize w.alloc (.cells ⟨T.list⟩ 29) = W at *
  go_wp2_with fail
  change Code.wp _ _ _ _ (World.alloc W (.cells ⟨zeros.map Value.bool⟩ 60))
  have H2 := Lib.hid (show Row (W.alloc (.cells ⟨zeros.map Value.bool⟩ 60)) W.heap.size 60 (upto (fun p => ownB T n p.toNat) 0) by rw [upto_zero]; exact Row.new W _ zeros)
  have HB := Lib.hid (below_alloc (Below.refl W.heap.size W) (.cells ⟨zeros.map Value.bool⟩ 60))
  generalize W.alloc (.cells ⟨zeros.map Value.bool⟩ 60) = W2 at *
  go_loopw [6, 7] (fun _ i wr => ∃ k : Nat, k ≤ 64 ∧ i = .int .i64 (k : Int) ∧ Row wr W.heap.size 60 (upto (fun p => ownB T n p.toNat) k) ∧ Below W.heap.size W wr) (fun _ i _ => 64 - (intOf i).toNat)
  case atStart => exact ⟨0, Nat.zero_le _, rfl, H2.out, HB.out⟩
  case round =>
    obtain ⟨k, hk, rfl, hr, hb⟩ := hrel
    clear H2 HB
    have HR := Lib.hid hr
    have HB := Lib.hid hb
    have HT := Lib.hid (H1.out.below hb hA)
    clear hr hb
    by_cases hlt : k < 64
    · have C1 := Lib.hid (CO.out k hlt)
      clear CO
      go_wp2_with (first
        | (refine load_tb (T := T) rfl rfl rfl HT.out s ?_))
      refine (C1.out _).mono ?_
      rintro e w3 ⟨rfl, l3⟩
      have c3 := (HR.out.keep l3).cell k (by rw [upto_length]; exact hlt)
      have z3 := (HR.out.keep l3).frozen k
      have HB3 := Lib.hid (below_next HB.out l3)
      have hs := (HR.out.keep l3).set k (ownB T n k)
      have hu := HU.out k
      rw [show ((k : Int)).toNat = k by simp] at hu
      rw [← hu] at hs
      have HN := Lib.hid hs
      clear l3 hs hu
      go_wp2_with fail
      go_roundw
      case rel => exact ⟨k + 1, by omega, by go_num, HN.out, HB3.out.setCell (by simp) _⟩
      case measure => simp [intOf]; omega
    · obtain rfl : 64 = k := by omega
      go_wp2_with (first
        | (refine wpList_value rfl _ (exec_load 60 (.tmp 5) rfl rfl (arr_row _ HR.out (upto_length _ _))) ?_))
      refine (of_any _ (upto_length _ _) _).mono ?_
      rintro e w3 ⟨v, rfl, hown, l3⟩
      have HO := Lib.hid hown
      have hwb := hW.trans (HB.out.mono hW.size)
      have HL := Lib.hid (below_next hwb l3)
      have hsz := hwb.size
      clear l3 hown hwb
      go_wp2_with fail
      go_ret
      exact ⟨_, rfl, own_base HO.out hsz, HL.out⟩

/-- are the first k of an arc's places the node's -/
def allB (T : Tb) (n f : Int) (k : Nat) : Bool := (List.range k).all fun j : Nat => ownB T n ((f + (j : Int)) % 64).toNat
theorem allB_succ (T : Tb) (n f : Int) (k : Nat) : allB T n f (k + 1) = (allB T n f k && ownB T n ((f + (k : Int)) % 64).toNat) := by
  simp [allB, List.range_succ]
theorem allB_no {T : Tb} {n f : Int} {k : Nat} (h : ownB T n ((f + (k : Int)) % 64).toNat = false) : ∀ m, k < m → allB T n f m = false
  | 0, hm => by omega
  | m + 1, hm => by
    rw [allB_succ]
    by_cases hk : k = m
    · subst hk; rw [h, Bool.and_false]
    · rw [allB_no h m (by omega), Bool.false_and]
set_option maxHeartbeats 2000000 in
theorem ownsall_any (T : Tb) (s : T.Sz) (n f z : Int) : Ret 42 #[.agg ⟨T.list⟩, .int .i64 n, arc f z] (.returned (.bool (allB T n f (np f z)))) := by
  intro w
  have hnp := np_le f z
  have CO := Lib.hid (fun (p : Nat) hp => owns_any T s n p hp)
  have HS := Lib.hid (fun k => allB_succ T n f k)
  have HN := Lib.hid (fun k h => @allB_no T n f k h (np f z))
  have h1 := (TbR.new w T).alloc (.cells #[.int .i64 f, .int .i64 z] 37)
  have hA : w.heap.size < ((w.alloc (.cells ⟨T.list⟩ 29)).alloc (.cells #[.int .i64 f, .int .i64 z] 37)).heap.size := by simp; omega
  have hW : Below w.heap.size w ((w.alloc (.cells ⟨T.list⟩ 29)).alloc (.cells #[.int .i64 f, .int .i64 z] 37)) := below_alloc (below_alloc (Below.refl _ _) _) _
  have m1 := ((Holds.nil (w.alloc (.cells ⟨T.list⟩ 29))).new2 (.int .i64 f) (.int .i64 z) 37)
  obtain ⟨g1, g2, g3⟩ := m1.two
  simp only [World.size_alloc] at g1 g2 g3
  clear m1 g3
  go_enter Try.func42, Try.ntmps42
  go_upto_region 1 with (fail)
  generalize (w.alloc (.cells ⟨T.list⟩ 29)).alloc (.cells #[.int .i64 f, .int .i64 z] 37) = W at *
  go_wp2_with fail
  refine (places_any f z _).mono ?_
  rintro e w1 ⟨v, rfl, hown, l1⟩
  obtain ⟨ao, cap, rfl, s1⟩ := made_places (base := 0) (w := w) hown
  have S1 := Lib.hid s1; clear s1 hown
  have H1 := Lib.hid (h1.keep l1)
  have hA1 := Nat.lt_of_lt_of_le hA l1.size
  have HB1 := Lib.hid (below_next hW l1)
  clear h1 l1 hW hA g1 g2
  generalize hm : np f z = m at *
  have HM := Lib.hid hm; clear hm
  go_wp2_with fail
  go_loopw [8, 12] (fun _ i wr => ∃ k : Nat, k ≤ m ∧ i = .int .i64 (k : Int) ∧ allB T n f k = true ∧ Below w1.heap.size w1 wr) (fun _ i _ => m - (intOf i).toNat)
  case atStart => exact ⟨0, Nat.zero_le _, rfl, rfl, Below.refl _ _⟩
  case round =>
    obtain ⟨k, hk, rfl, ha, hb⟩ := hrel
    by_cases hlt : k < m
    · obtain ⟨g, rfl, hg, hc⟩ := (S1.out.below hb) k hlt
      have hq0 : ((f + (k : Int)) % 64).toNat < 64 := by omega
      have hq1 : (f + (k : Int)) % 64 = ((((f + (k : Int)) % 64).toNat : Nat) : Int) := by omega
      have hs := HS.out k
      have hn := HN.out k
      have C1 := Lib.hid (CO.out ((f + (k : Int)) % 64).toNat hq0)
      replace hc : wr.cell? ⟨g, k, none⟩ = some (.int .i64 ((f + (k : Int)) % 64)) := hc
      rw [hq1] at hc
      rw [ha, Bool.true_and] at hs
      clear hq1 hq0 CO HS
      generalize ((f + (k : Int)) % 64).toNat = q at *
      have HT := Lib.hid (H1.out.below hb hA1)
      have HB := Lib.hid hb
      have HS := Lib.hid hs
      have HN1 := Lib.hid hn
      clear hb hg hs hn ha HN
      cases hv : ownB T n q
      · rw [hv] at C1
        have HV := Lib.hid hv; clear hv
        go_wp2_with (first
          | (refine load_tb (T := T) rfl rfl rfl HT.out s ?_))
        refine (C1.out _).mono ?_
        rintro e w3 ⟨rfl, l3⟩
        have HB3 := Lib.hid (below_next HB1.out (below_next HB.out l3))
        clear l3
        go_wp2_with fail
        go_ret
        exact ⟨ret_bool (by rw [HM.out]; exact (HN1.out HV.out hlt).symm), HB3.out⟩
      · rw [hv] at C1
        have HV := Lib.hid hv; clear hv
        go_wp2_with (first
          | (refine load_tb (T := T) rfl rfl rfl HT.out s ?_))
        refine (C1.out _).mono ?_
        rintro e w3 ⟨rfl, l3⟩
        have HB3 := Lib.hid (below_next HB.out l3)
        clear l3
        go_wp2_with fail
        go_roundw
        case rel => exact ⟨k + 1, by omega, by go_num, HS.out.trans HV.out, HB3.out⟩
        case measure => simp [intOf]; omega
    · obtain rfl : m = k := by omega
      have HB := Lib.hid (below_next HB1.out hb)
      clear hb
      go_wp2_with fail
      go_ret
      exact ⟨ret_bool (by rw [HM.out]; exact ha.symm), HB.out⟩
end Go.Proofs.Ytikeiocgnjdhbaa
