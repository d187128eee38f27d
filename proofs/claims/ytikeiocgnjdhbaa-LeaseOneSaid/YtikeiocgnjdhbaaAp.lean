/- lease.Apply. -/
import Derived.Test.YtikeiocgnjdhbaaBh
namespace Go.Proofs.Ytikeiocgnjdhbaa
open Go.RowKit Go.Sort
set_option linter.unusedVariables false
set_option linter.unusedSimpArgs false
set_option maxRecDepth 100000

/-- what a decree that may be is like -/
theorem refuse_ok {T : Tb} {D : Dc} (h : refuse T D = 0) : (D.kind = 1 ∨ D.kind = 2 ∨ D.kind = 3 ∨ D.kind = 4 ∨ D.kind = 5) ∧ (∃ q : Nat, D.node = (q : Int) ∧ q < 12) ∧ T.ver < 2147483647 := by
  unfold refuse at h
  split at h
  · cases h
  · rename_i hn
    have h1 : ¬ D.kind < 1 := fun x => hn (.inl x)
    have h2 : ¬ 5 < D.kind := fun x => hn (.inr (.inl x))
    have h3 : isN D.node = true := by cases hh : isN D.node; exact absurd (.inr (.inr (.inl hh))) hn; rfl
    have h4 : ¬ 2147483647 ≤ T.ver := fun x => hn (.inr (.inr (.inr x)))
    have h5 := isN_spec.1 h3
    exact ⟨by omega, ⟨D.node.toNat, by omega, by omega⟩, by omega⟩
theorem behind_any (T : Tb) (s : T.Sz) (D : Dc) (v0 : 0 ≤ T.ver) (h : refuse T D = 0) : Ret 24 #[T.v, D.v] (.returned (.agg ⟨(behindT T D).list⟩)) := by
  obtain ⟨hk, ⟨q, hq, hq12⟩, v1⟩ := refuse_ok h
  unfold behindT
  have hqt : D.node.toNat = q := by omega
  rw [hqt]
  rcases hk with hk | hk | hk | hk | hk
  · rw [if_pos hk]; exact bh_renew T s D q hq hq12 v0 v1 hk
  · rw [if_neg (by omega), if_neg (by omega), if_neg (by omega), hk, hq]; exact bh_move T s D q hq hq12 v0 v1 hk
  · rw [if_neg (by omega), if_neg (by omega), if_neg (by omega), hk, hq]; exact bh_take T s D q hq hq12 v0 v1 hk
  · rw [if_neg (by omega), if_pos hk]; exact bh_join T s D q hq hq12 v0 v1 hk
  · rw [if_neg (by omega), if_neg (by omega), if_pos hk]; exact bh_leave T s D q hq hq12 v0 v1 hk
/-- the table behind a decree -/
def apT (T : Tb) (D : Dc) : Tb := if refuse T D = 0 then behindT T D else T
theorem behindT_sz {T : Tb} (s : T.Sz) (D : Dc) : (behindT T D).Sz := by
  unfold behindT
  split
  · exact (s.setVer _).setRen _ _
  · split
    · exact ((s.setVer _).setMem _ _).setRen _ _
    · split
      · exact (s.setVer _).setMem _ _
      · exact mvK_sz _ _ _ _ (s.setVer _) _
theorem apT_sz {T : Tb} (s : T.Sz) (D : Dc) : (apT T D).Sz := by
  unfold apT; split
  · exact behindT_sz s D
  · exact s
abbrev apR (T : Tb) (D : Dc) : Value := .tuple #[.agg ⟨(apT T D).list⟩, .int .i64 (refuse T D)]
set_option maxHeartbeats 2000000 in
theorem apply_any (T : Tb) (s : T.Sz) (D : Dc) (v0 : 0 ≤ T.ver) (hr : ∀ n, n < 12 → 0 ≤ T.r n ∧ T.r n ≤ 4294967295) (c0 : 0 ≤ D.cnt) (c1 : D.cnt ≤ 4294967295) : Ret 13 #[T.v, D.v] (.returned (apR T D)) := by
  intro w
  have hz := zero_run
  have C1 := Lib.hid (refuse_any T s D hr c0 c1)
  have C2 := Lib.hid (behind_any T s D v0)
  have SB := Lib.hid (behindT_sz s D)
  have HE : Hid (apR T D = .tuple #[.agg ⟨(if refuse T D = 0 then behindT T D else T).list⟩, .int .i64 (refuse T D)]) := Lib.hid rfl
  clear hr c0 c1 v0
  obtain ⟨W, HWE, h1, h2, h3, hW, hsz⟩ := three_boxes w T D
  go_enter Try.func13, Try.ntmps13
  go_upto_region 1 with (fail)
  rw [← HWE]
  clear HWE hz
  have ck := h2.kk
  have cn := h2.nn
  have cb := h2.bb
  have cf := h2.ff
  have cz := h2.zz
  have cc := h2.cc
  have cs := h2.ss
  have H1 := Lib.hid h1
  have H2 := Lib.hid h2
  have H3 := Lib.hid h3
  have HW := Lib.hid hW
  clear h1 h2 h3 hW hsz
  generalize hy : refuse T D = y at *
  generalize hB : behindT T D = B at *
  clear hB
  go_wp2_with (first
    | (refine load_tb (T := T) rfl rfl rfl H1.out s ?_))
  refine (C1.out _).mono ?_
  rintro e w1 ⟨rfl, l1⟩
  replace H1 := Lib.hid (H1.out.keep l1)
  replace H2 := Lib.hid (H2.out.keep l1)
  replace H3 := Lib.hid (H3.out.keep l1)
  replace HW := Lib.hid (below_next HW.out l1)
  clear l1 ck cn cb cf cz cc cs
  have hne : (y != 0) = decide (¬ y = 0) := by by_cases h : y = 0 <;> simp [h]
  by_cases h0 : y = 0
  · subst h0
    have ck := H2.out.kk
    have cn := H2.out.nn
    have cb := H2.out.bb
    have cf := H2.out.ff
    have cz := H2.out.zz
    have cc := H2.out.cc
    have cs := H2.out.ss
    have HY := Lib.hid hy
    clear hy hne
    have C3 := Lib.hid (C2.out rfl)
    go_wp2_with (first
      | (refine load_tb (T := T) rfl rfl rfl H1.out s ?_))
    refine (C3.out _).mono ?_
    rintro e w2 ⟨rfl, l2⟩
    replace H3 := Lib.hid (H3.out.keep l2)
    replace HW := Lib.hid (below_next HW.out l2)
    have HV := Lib.hid ((H3.out.setRow B).var SB.out)
    clear l2 ck cn cb cf cz cc cs
    go_wp2_with (first
      | (refine store_tb (U := B) rfl rfl rfl rfl H3.out Tb.zero_sz SB.out ?_))
    exact bodyPost_ret (v := .tuple #[.agg ⟨B.list⟩, .int .i64 0]) (results_cell_tmp Try.results13 rfl rfl HV.out) rfl ⟨by rw [HE.out]; simp, below_setRow HW.out _ _ (by omega)⟩
  · have HV := Lib.hid ((H3.out.setRow T).var s)
    have HN := Lib.hid h0
    go_wp2_with (first
      | (refine load_tb (T := T) rfl rfl rfl H1.out s ?_)
      | (refine store_tb (U := T) rfl rfl rfl rfl H3.out Tb.zero_sz s ?_))
    exact bodyPost_ret (v := .tuple #[.agg ⟨T.list⟩, .int .i64 y]) (results_cell_tmp Try.results13 rfl rfl HV.out) rfl ⟨by rw [HE.out, if_neg HN.out], below_setRow HW.out _ _ (by omega)⟩
end Go.Proofs.Ytikeiocgnjdhbaa
