/- The document's some, owns, Owned. -/
import Derived.Test.YtikeiocgnjdhbaaOk
namespace Go.Proofs.Ytikeiocgnjdhbaa
open Go.RowKit Go.Sort
set_option linter.unusedVariables false
set_option linter.unusedSimpArgs false
set_option maxRecDepth 100000

theorem ownB_ok {T : Tb} (h : T.Ok) (n : Int) {p : Nat} (hp : p < 64) : ownB T n p = (T.o p == n) := by
  obtain ⟨q, e, hq, _⟩ := h.o p hp
  unfold ownB
  rw [e]
  by_cases hh : (q : Int) = n
  · subst hh; simp [isN]; omega
  · have : ((q : Int) == n) = false := by simpa using hh
    rw [this, Bool.and_false]
/-- is one of the first k places the node's -/
def someK (T : Tb) (n : Int) (k : Nat) : Bool := (List.range k).any fun p => T.o p == n
theorem someK_succ (T : Tb) (n : Int) (k : Nat) : someK T n (k + 1) = (someK T n k || T.o k == n) := by simp [someK, List.range_succ]
theorem some_has {T : Tb} (h : T.Ok) (n : Int) : someK T n 64 = hasAny T n := by
  rw [Bool.eq_iff_iff]
  unfold someK hasAny
  rw [List.any_eq_true, decide_eq_true_eq]
  constructor
  · rintro ⟨p, hp, he⟩
    have hp' : p < 64 := by simpa using hp
    apply Classical.byContradiction
    intro hc
    have := ofL_none (ownL_length T n) (by omega) hp'
    rw [ownL_in T n hp', ownB_ok h n hp', he] at this
    cases this
  · intro hl
    apply Classical.byContradiction
    intro hc
    have hno : ∀ p, p < 64 → inB (ownL T n) p = false := fun p hp => by
      rw [ownL_in T n hp, ownB_ok h n hp, ← Bool.not_eq_true]
      exact fun he => hc ⟨p, by simpa using hp, he⟩
    have : ofL (ownL T n) = [] := by
      unfold ofL
      have ha : allK (ownL T n) 64 = false := by
        rw [← Bool.not_eq_true]; intro ha
        have := (allK_spec _ 64).1 ha 0 (by omega)
        rw [hno 0 (by omega)] at this; cases this
      rw [ha, if_neg (by simp)]
      apply List.eq_nil_iff_forall_not_mem.2
      intro x hx
      obtain ⟨p, hp, hs, _⟩ := (ofK_mem _ 64 x).1 hx
      have := (start_spec hs).1
      rw [hno p hp] at this; cases this
    rw [this] at hl
    simp at hl
set_option maxHeartbeats 2000000 in
theorem rsome_any {T : Tb} (h : T.Ok) (n : Int) : Ret 25 #[.agg ⟨T.list⟩, .int .i64 n] (.returned (.bool (hasAny T n))) := by
  intro w
  rw [← some_has h n]
  have s := h.sz
  have HS := Lib.hid (someK_succ T n)
  have hsm : ∀ k m, someK T n k = true → k ≤ m → someK T n m = true := fun k m h1 h2 => by
    obtain ⟨p, hp, he⟩ := List.any_eq_true.1 h1
    exact List.any_eq_true.2 ⟨p, by simp at hp ⊢; omega, he⟩
  have HM := Lib.hid hsm
  clear hsm h
  have H1 := Lib.hid (TbR.new w T)
  have hW : Below w.heap.size w (w.alloc (.cells ⟨T.list⟩ 29)) := below_alloc (Below.refl _ _) _
  obtain ⟨r, hr⟩ : ∃ r, r = someK T n 64 := ⟨_, rfl⟩
  rw [← hr]
  have HR := Lib.hid hr
  clear hr
  go_enter Try.func25, Try.ntmps25
  go_upto_region 1 with (fail)
  generalize w.alloc (.cells ⟨T.list⟩ 29) = W at *
  go_wp2_with fail
  go_loop [5] (fun i => ∃ k : Nat, k ≤ 64 ∧ i = .int .i64 (k : Int) ∧ someK T n k = false) (fun i => 64 - (intOf i).toNat)
  case atStart => exact ⟨0, Nat.zero_le _, rfl, rfl⟩
  case round =>
    obtain ⟨k, hk, rfl, hf⟩ := hrel
    by_cases hlt : k < 64
    · have c1 := H1.out.own s hlt
      have hs := HS.out k
      rw [hf, Bool.false_or] at hs
      have HS1 := Lib.hid hs
      clear hs hf
      cases hv : (T.o k == n)
      · have hne : ¬ T.o k = n := by simpa using hv
        have HV := Lib.hid hv; clear hv
        go_wp2_with fail
        go_round
        case rel => exact ⟨k + 1, by omega, by go_num, HS1.out.trans HV.out⟩
        case measure => simp [intOf]; omega
      · have he : T.o k = n := by simpa using hv
        rw [he] at c1
        have HV := Lib.hid hv; clear hv he
        go_wp2_with fail
        go_ret
        exact ⟨ret_bool (by rw [HR.out]; exact (HM.out (k + 1) 64 (HS1.out.trans HV.out) (by omega)).symm), hW⟩
    · obtain rfl : 64 = k := by omega
      have HF := Lib.hid hf; clear hf
      go_wp2_with fail
      go_ret
      exact ⟨ret_bool (by rw [HR.out]; exact HF.out.symm), hW⟩

set_option maxHeartbeats 2000000 in
theorem rowned_any {T : Tb} (h : T.Ok) (n : Int) (w : World) : Calls Try.prog 17 #[.agg ⟨T.list⟩, .int .i64 n] w (MadeArcs w (ofL (ownL T n))) := by
  have s := h.sz
  have HU := Lib.hid (upto_succ fun p => ownB T n p.toNat)
  have HO := Lib.hid (fun (p : Nat) hp => ownB_ok h n (p := p) hp)
  have H1 := Lib.hid (TbR.new w T)
  have hW : Below w.heap.size w (w.alloc (.cells ⟨T.list⟩ 29)) := below_alloc (Below.refl _ _) _
  have hA : w.heap.size < (w.alloc (.cells ⟨T.list⟩ 29)).heap.size := by simp
  have hz : ownL T n = upto (fun p => ownB T n p.toNat) 64 := rfl
  rw [hz]
  clear h
  go_enter Try.func17, Try.ntmps17
  go_upto_region 1 with (fail)
  generalize w.alloc (.cells ⟨T.list⟩ 29) = W at *
  go_wp2_with fail
  change Code.wp _ _ _ _ (World.alloc W (.cells ⟨zeros.map Value.bool⟩ 60))
  have H2 := Lib.hid (show Row (W.alloc (.cells ⟨zeros.map Value.bool⟩ 60)) W.heap.size 60 (upto (fun p => ownB T n p.toNat) 0) by rw [upto_zero]; exact Row.new W _ zeros)
  have HB := Lib.hid (below_alloc (Below.refl W.heap.size W) (.cells ⟨zeros.map Value.bool⟩ 60))
  generalize W.alloc (.cells ⟨zeros.map Value.bool⟩ 60) = W2 at *
  go_loopw [6] (fun i wr => ∃ k : Nat, k ≤ 64 ∧ i = .int .i64 (k : Int) ∧ Row wr W.heap.size 60 (upto (fun p => ownB T n p.toNat) k) ∧ Below W.heap.size W wr) (fun i _ => 64 - (intOf i).toNat)
  case atStart => exact ⟨0, Nat.zero_le _, rfl, H2.out, HB.out⟩
  case round =>
    obtain ⟨k, hk, rfl, hr, hb⟩ := hrel
    clear H2 HB
    have HR := Lib.hid hr
    have HB := Lib.hid hb
    have HT := Lib.hid (H1.out.below hb hA)
    clear hr hb
    by_cases hlt : k < 64
    · have c1 := HT.out.own s hlt
      have c3 := HR.out.cell k (by rw [upto_length]; exact hlt)
      have z3 := HR.out.frozen k
      have hs := HR.out.set k (T.o k == n)
      have hu := HU.out k
      rw [show ((k : Int)).toNat = k by simp, HO.out k hlt] at hu
      rw [← hu] at hs
      have HN := Lib.hid hs
      clear hs hu
      go_wp2_with fail
      go_roundw
      case rel => exact ⟨k + 1, by omega, by go_num, HN.out, HB.out.setCell (by simp) _⟩
      case measure => simp [intOf]; omega
    · obtain rfl : 64 = k := by omega
      go_wp2_with (first
        | (refine wpList_value rfl _ (exec_load 60 (.tmp 5) rfl rfl (arr_row _ HR.out (upto_length _ _))) ?_))
      refine (rof_any _ (upto_length _ _) _).mono ?_
      rintro e w3 ⟨v, rfl, hown, l3⟩
      have HOw := Lib.hid hown
      have hwb := hW.trans (HB.out.mono hW.size)
      have HL := Lib.hid (below_next hwb l3)
      have hsz := hwb.size
      clear l3 hown hwb
      go_wp2_with fail
      go_ret
      exact ⟨_, rfl, own_base HOw.out hsz, HL.out⟩

set_option maxHeartbeats 2000000 in
theorem rowns_any {T : Tb} (h : T.Ok) (n f z : Int) : Ret 37 #[.agg ⟨T.list⟩, .int .i64 n, arc f z] (.returned (.bool (allB T n f (np f z)))) := by
  intro w
  have s := h.sz
  have hnp := np_le f z
  have HO := Lib.hid (fun (p : Nat) hp => ownB_ok h n (p := p) hp)
  have HS := Lib.hid (fun k => allB_succ T n f k)
  have HN := Lib.hid (fun k h => @allB_no T n f k h (np f z))
  clear h
  have h1 := (TbR.new w T).alloc (.cells #[.int .i64 f, .int .i64 z] 37)
  have hA : w.heap.size < ((w.alloc (.cells ⟨T.list⟩ 29)).alloc (.cells #[.int .i64 f, .int .i64 z] 37)).heap.size := by simp; omega
  have hW : Below w.heap.size w ((w.alloc (.cells ⟨T.list⟩ 29)).alloc (.cells #[.int .i64 f, .int .i64 z] 37)) := below_alloc (below_alloc (Below.refl _ _) _) _
  have m1 := ((Holds.nil (w.alloc (.cells ⟨T.list⟩ 29))).new2 (.int .i64 f) (.int .i64 z) 37)
  obtain ⟨g1, g2, g3⟩ := m1.two
  simp only [World.size_alloc] at g1 g2 g3
  clear m1 g3
  go_enter Try.func37, Try.ntmps37
  go_upto_region 1 with (fail)
  generalize (w.alloc (.cells ⟨T.list⟩ 29)).alloc (.cells #[.int .i64 f, .int .i64 z] 37) = W at *
  go_wp2_with fail
  refine (rplaces_any f z _).mono ?_
  rintro e w1 ⟨v, rfl, hown, l1⟩
  obtain ⟨ao, cap, rfl, s1⟩ := made_places (base := 0) (w := w) hown
  have S1 := Lib.hid s1; clear s1 hown
  have H1 := Lib.hid (h1.keep l1)
  have hA1 := Nat.lt_of_lt_of_le hA l1.size
  have HB1 := Lib.hid (below_next hW l1)
  clear h1 l1 hW hA g1 g2
  generalize hm : np f z = m at *
  have HM := Lib.hid hm; clear hm
  go_wp2_with fail
  go_loopw [8] (fun i wr => ∃ k : Nat, k ≤ m ∧ i = .int .i64 (k : Int) ∧ allB T n f k = true ∧ Below w1.heap.size w1 wr) (fun i _ => m - (intOf i).toNat)
  case atStart => exact ⟨0, Nat.zero_le _, rfl, rfl, Below.refl _ _⟩
  case round =>
    obtain ⟨k, hk, rfl, ha, hb⟩ := hrel
    by_cases hlt : k < m
    · obtain ⟨g, rfl, hg, hc⟩ := (S1.out.below hb) k hlt
      have hq0 : ((f + (k : Int)) % 64).toNat < 64 := by omega
      have hq1 : (f + (k : Int)) % 64 = ((((f + (k : Int)) % 64).toNat : Nat) : Int) := by omega
      have hs := HS.out k
      have hn := HN.out k
      have ho := HO.out _ hq0
      replace hc : wr.cell? ⟨g, k, none⟩ = some (.int .i64 ((f + (k : Int)) % 64)) := hc
      rw [hq1] at hc
      rw [ha, Bool.true_and] at hs
      clear hq1 HO HS
      generalize ((f + (k : Int)) % 64).toNat = q at *
      have HT := Lib.hid (H1.out.below hb hA1)
      have c1 := HT.out.own s hq0
      have HB := Lib.hid hb
      have HS := Lib.hid hs
      have HN1 := Lib.hid hn
      clear hb hg hs hn ha HN
      cases hv : (T.o q == n)
      · have hne : ¬ T.o q = n := by simpa using hv
        rw [hv] at ho
        have HV := Lib.hid ho; clear hv ho
        go_wp2_with fail
        go_ret
        exact ⟨ret_bool (by rw [HM.out]; exact (HN1.out HV.out hlt).symm), below_next HB1.out HB.out⟩
      · have he : T.o q = n := by simpa using hv
        rw [hv] at ho
        rw [he] at c1
        have HV := Lib.hid ho; clear hv ho he
        go_wp2_with fail
        go_roundw
        case rel => exact ⟨k + 1, by omega, by go_num, HS.out.trans HV.out, HB.out⟩
        case measure => simp [intOf]; omega
    · obtain rfl : m = k := by omega
      have HB := Lib.hid (below_next HB1.out hb)
      clear hb
      go_wp2_with fail
      go_ret
      exact ⟨ret_bool (by rw [HM.out]; exact ha.symm), HB.out⟩
end Go.Proofs.Ytikeiocgnjdhbaa
