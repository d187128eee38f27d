/- alive. -/
import Derived.Test.YtikeiocgnjdhbaaAp
namespace Go.Proofs.Ytikeiocgnjdhbaa
open Go.RowKit Go.Sort
set_option linter.unusedVariables false
set_option linter.unusedSimpArgs false
set_option maxRecDepth 100000

theorem newT_sz (n : Nat) : (newT n).Sz := newAt_sz n n 64
theorem newT_ren (n k : Nat) (hk : k < 12) : 0 ≤ (newT n).r k ∧ (newT n).r k ≤ 4294967295 := by
  have : (newT n).r k = 0 := by
    show (List.replicate 12 (0 : Int)).getD k 0 = 0
    simp only [List.getD, List.getElem?_replicate, if_pos hk, Option.getD_some]
  omega
/-- the world behind 'var t Table; t = v' -/
theorem laid_tb {w : World} {T U : Tb} : TbR ((w.alloc (.cells ⟨U.list⟩ 29)).setRow w.heap.size ⟨T.list⟩) w.heap.size T ∧ Below w.heap.size w ((w.alloc (.cells ⟨U.list⟩ 29)).setRow w.heap.size ⟨T.list⟩) ∧ w.heap.size < ((w.alloc (.cells ⟨U.list⟩ 29)).setRow w.heap.size ⟨T.list⟩).heap.size := by
  have h := (TbR.new w U).setRow T
  exact ⟨h, below_setRow (below_alloc (Below.refl _ _) _) _ _ (Nat.le_refl _), h.lt⟩
abbrev aliveD : Dc := ⟨3, 1, 0, 0, 16, 0, 0⟩
theorem alive_ok : refuse (newT 4) aliveD = 0 := by decide +kernel
def aliveT : Tb := behindT (newT 4) aliveD
theorem alive_t : aliveT.ver = 2 ∧ aliveT.o 15 = 1 ∧ aliveT.i 15 = 2 ∧ aliveT.i 16 = 1 ∧ (newT 4).o 15 = 0 ∧ (newT 4).o 16 = 1 := by decide +kernel
theorem aliveT_sz : aliveT.Sz := behindT_sz (newT_sz 4) _
set_option maxHeartbeats 2000000 in
theorem alive_any : Ret 12 #[] (.returned (.bool true)) := by
  intro w
  have hz := zero_run
  have NW := Lib.hid (fun w => new_yes 4 (by omega) (by omega) w)
  have AP := Lib.hid (apply_any (newT 4) (newT_sz 4) aliveD (by decide) (newT_ren 4) (by decide) (by decide))
  have HR : apR (newT 4) aliveD = .tuple #[.agg ⟨aliveT.list⟩, .int .i64 0] := by
    unfold apR apT
    rw [alive_ok, if_pos rfl]
    rfl
  rw [HR] at AP
  clear HR
  obtain ⟨t1, t2, t3, t4, t5, t6⟩ := alive_t
  have s1 := newT_sz 4
  have s2 := aliveT_sz
  have HT := Lib.hid (And.intro t1 (And.intro t2 (And.intro t3 (And.intro t4 (And.intro t5 t6)))))
  clear t1 t2 t3 t4 t5 t6
  generalize newT 4 = A at *
  generalize aliveT = B at *
  go_enter Try.func12, Try.ntmps12
  go_wp2_with fail
  refine (NW.out _).mono ?_
  rintro e w1 ⟨rfl, l1⟩
  obtain ⟨h2, l2, hlt2⟩ := laid_tb (w := w1) (T := A) (U := Tb.zero)
  have H1 := Lib.hid (TbR.new w1 Tb.zero)
  have H2 := Lib.hid h2
  have HW := Lib.hid (below_next l1 l2)
  clear h2 l2 l1 NW
  go_upto_region 2 with (first
    | (refine store_tb (U := A) rfl rfl rfl rfl H1.out Tb.zero_sz s1 ?_))
  clear H1
  generalize (w1.alloc (.cells ⟨Tb.zero.list⟩ 29)).setRow w1.heap.size ⟨A.list⟩ = W at *
  go_wp2_with (first
    | (refine load_tb (T := A) rfl rfl rfl H2.out s1 ?_))
  refine (AP.out _).mono ?_
  rintro e w2 ⟨rfl, l2⟩
  replace H2 := Lib.hid (H2.out.keep l2)
  have hlt2 := Nat.lt_of_lt_of_le hlt2 l2.size
  replace HW := Lib.hid (below_next HW.out l2)
  clear l2 AP
  obtain ⟨h3, l3, hlt3⟩ := laid_tb (w := w2) (T := B) (U := Tb.zero)
  have H1 := Lib.hid (TbR.new w2 Tb.zero)
  have H3 := Lib.hid h3
  replace HW := Lib.hid (below_next HW.out l3)
  replace H2 := Lib.hid (H2.out.keep l3)
  clear h3 l3
  go_upto_region 3 with (first
    | (refine store_tb (U := B) rfl rfl rfl rfl H1.out Tb.zero_sz s2 ?_))
  clear H1
  generalize (w2.alloc (.cells ⟨Tb.zero.list⟩ 29)).setRow w2.heap.size ⟨B.list⟩ = W3 at *
  have c1 := H2.out.own s1 (p := 15) (by omega)
  have c2 := H2.out.own s1 (p := 16) (by omega)
  have c3 := H3.out.ver
  have c4 := H3.out.own s2 (p := 15) (by omega)
  have c5 := H3.out.inc s2 (p := 15) (by omega)
  have c6 := H3.out.inc s2 (p := 16) (by omega)
  obtain ⟨t1, t2, t3, t4, t5, t6⟩ := HT.out
  rw [t5] at c1; rw [t6] at c2; rw [t1] at c3; rw [t2] at c4; rw [t3] at c5; rw [t4] at c6
  clear t1 t2 t3 t4 t5 t6 HT
  go_wp2_with fail
  go_ret
  exact ⟨rfl, HW.out⟩
end Go.Proofs.Ytikeiocgnjdhbaa
