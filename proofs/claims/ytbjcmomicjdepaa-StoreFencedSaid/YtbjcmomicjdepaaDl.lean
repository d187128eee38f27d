/- slices.DeleteFunc of locks by their transaction. -/
import Derived.Test.YtbjcmomicjdepaaVt
namespace Go.Proofs.Ytbjcmomicjdepaa
open Go.RowKit Go.Sort
set_option linter.unusedVariables false
set_option linter.unusedSimpArgs false
set_option linter.unusedSectionVars false
set_option maxRecDepth 100000

abbrev zL : Array Value := #[.int .u64 0, .int .i64 0, .int .i64 0, .int .i64 0, .int .i64 0, .int .u32 0, .bool false, .slice none 0 0, .int .u32 0, .int .u32 0, .int .u32 0, .int .u32 0]
theorem zeroL (w : World) : (zeroValue 38).run Try.prog w = .ok (.agg zL) w := by kernel_rfl
theorem zL_one : ∀ n : Nat, ∀ v ∈ (Builtin.zeroCells zL n).toList, v.oneCell' = true := fun n v hv => by
  simp only [Builtin.zeroCells, Array.toList_map, List.mem_map] at hv
  obtain ⟨i, _, rfl⟩ := hv
  have hm : i % zL.size < 12 := Nat.mod_lt _ (by decide)
  generalize i % zL.size = k at *
  have : k = 0 ∨ k = 1 ∨ k = 2 ∨ k = 3 ∨ k = 4 ∨ k = 5 ∨ k = 6 ∨ k = 7 ∨ k = 8 ∨ k = 9 ∨ k = 10 ∨ k = 11 := by omega
  rcases this with rfl | rfl | rfl | rfl | rfl | rfl | rfl | rfl | rfl | rfl | rfl | rfl <;> rfl
theorem run_clearL (w : World) (g off n cap : Nat) (ty : TypeId) (hn : 0 < n) (ht : w.there g off (n * 12)) :
    ∃ vs : List Value, vs.length = n * 12 ∧ (Builtin.clear_ #[40] ty #[.slice (some ⟨g, off, none⟩) n cap]).run Try.prog w = .ok (.tuple #[]) (w.setCells g off vs) := by
  refine ⟨(Builtin.zeroCells zL n).toList, by rw [Array.length_toList, size_zeroCells]; rfl, ?_⟩
  have hl : (Builtin.zeroCells zL n).toList.length = n * 12 := by rw [Array.length_toList, size_zeroCells]; rfl
  have hs := run_storeCells_cells (P := Try.prog) g off (Builtin.zeroCells zL n).toList 0 w (fun j hj => by rw [Nat.add_zero]; exact (ht j (by rw [← hl]; exact hj)).1) (fun j hj => by rw [Nat.add_zero]; exact (ht j (by rw [← hl]; exact hj)).2) (zL_one n)
  rw [Nat.add_zero] at hs
  obtain ⟨m, rfl⟩ : ∃ m, n = m + 1 := ⟨n - 1, by omega⟩
  unfold Builtin.clear_
  simp [run_underlying Try.underlying40, zeroL, Result.andThen]
  simp only [Value.cells]
  rw [hs]
theorem wpList_clrL {w w' : World} {ops : Array Oper} {rest : List Oper} {o : Oper} {a : Act} {Q : Exit → Act → World → Prop} (hgd : o.guard = none) (m : Operand) (mt : TypeId)
    (ho : o.op = .call { callee := .builtin .clear, args := #[m], argTypes := #[mt] }) {mv : Value} (hm : a.eval m = mv)
    (hr : (Builtin.clear_ #[mt] o.type #[mv]).run Try.prog w = .ok (.tuple #[]) w') (h : wpList Try.prog ops Q rest (a.put o.dst (.tuple #[])) w') : wpList Try.prog ops Q (o :: rest) a w := by
  refine wpList_plain hgd fun K hK => ?_
  unfold Oper.wp execOp
  simp only [ho, resolve, invoke, builtin, Sem.run_bind, Sem.run_pure, Result.andThen_ok, List.map_toArray, List.map_cons, List.map_nil, hm, hr]
  exact hK _ _ h
/-- cells behind the first m elements do not count -/
theorem own_cut {α : Type} {c : α → List Value} {w : World} {B z n cap g o m : Nat} {e : TypeId} {l : List α} {vs : List Value} (hz : ∀ t, (c t).length = z) (h : w.ownsRow B e z (.slice (some ⟨g, 0, none⟩) n cap) n (fl c l)) (hl : l.length = n) (hm : m ≤ n) (ho : m * z ≤ o) (hn : 0 < n) :
    (w.setCells g o vs).ownsRow B e z (.slice (some ⟨g, 0, none⟩) m cap) m (fl c (l.take m)) := by
  have hmz : m * z ≤ n * z := Nat.mul_le_mul_right z hm
  refine ⟨by rw [fl_len hz, List.length_take, hl, Nat.min_eq_left hm], ?_⟩
  rcases h.2 with ⟨h2, h3⟩ | ⟨g', cap', cur, h2, hb, hg', h3, h4, h5, h6⟩
  · omega
  · cases h2
    refine .inr ⟨g, cap, lay cur o vs, rfl, hb, heap_lay g e vs o w cur hg', by omega, h4, by rw [lay_size, h5], ?_⟩
    rw [← fl_take hz, ← h6]
    apply List.ext_getElem?
    intro q
    by_cases hq : q < m * z
    · rw [List.getElem?_take, if_pos hq, Array.getElem?_toList, lay_out _ _ _ _ (by omega), List.getElem?_take, if_pos hq, List.getElem?_take, if_pos (by omega), Array.getElem?_toList]
    · rw [List.getElem?_take, if_neg hq, List.getElem?_take, if_neg hq]
theorem there_own {w : World} {B z n cap g : Nat} {e : TypeId} {xs : List Value} (h : w.ownsRow B e z (.slice (some ⟨g, 0, none⟩) n cap) n xs) (o k : Nat) (hk : o + k ≤ n * z) : w.there g o k := fun j hj => by
  rcases h.2 with ⟨h2, h3⟩ | ⟨g', cap', cur, h2, hb, hg', h3, h4, h5, h6⟩
  · cases h2
  · cases h2
    refine ⟨?_, frozen_of_row w g _ cur _ hg'⟩
    rw [cell_of_row w g _ cur _ (0, 0) hg']
    have : n * z ≤ cap * z := Nat.mul_le_mul_right z h3
    have : o + j < cur.size := by omega
    simp [this]
section
variable {l : Lk} {t : Sd} {Z : List (Lk × Sd)}
abbrev keepP (l : Lk) (x : Lk × Sd) : Bool := !(txP l x.1)
/-- how the row stands when j elements are through: i of them stay -/
structure DelI (l : Lk) (Z Y : List (Lk × Sd)) (i j : Nat) : Prop where
  len : Y.length = Z.length
  ii : i = ((Z.take j).filter (keepP l)).length
  lt : i < j
  low : Y.take i = (Z.take j).filter (keepP l)
  high : ∀ q, j ≤ q → Y[q]? = Z[q]?
theorem DelI.start {k : Nat} {x : Lk × Sd} (hk : Z[k]? = some x) (hx : txP l x.1 = true) (h : ∀ j y, j < k → Z[j]? = some y → txP l y.1 = false) : DelI l Z Z k (k + 1) := by
  have hlt := (List.getElem?_eq_some_iff.1 hk).1
  have e : (Z.take (k + 1)).filter (keepP l) = Z.take k := by
    rw [List.take_add_one, hk, List.filter_append, Option.toList_some]
    rw [List.filter_eq_self.2 (fun y hy => by
      obtain ⟨j, hj⟩ := List.getElem?_of_mem hy
      have hjk : j < k := by have := (List.getElem?_eq_some_iff.1 hj).1; simp at this; omega
      rw [List.getElem?_take, if_pos hjk] at hj
      simp [keepP, h j y hjk hj])]
    simp [keepP, hx]
  refine ⟨rfl, by rw [e]; simp; omega, by omega, by rw [e], fun q _ => rfl⟩
theorem DelI.skip {Y : List (Lk × Sd)} {i j : Nat} {x : Lk × Sd} (h : DelI l Z Y i j) (hj : Z[j]? = some x) (hx : txP l x.1 = true) : DelI l Z Y i (j + 1) := by
  have e : (Z.take (j + 1)).filter (keepP l) = (Z.take j).filter (keepP l) := by
    rw [List.take_add_one, hj, List.filter_append]; simp [keepP, hx]
  exact ⟨h.len, by rw [e]; exact h.ii, by have := h.lt; omega, by rw [e]; exact h.low, fun q hq => h.high q (by omega)⟩
theorem DelI.keep {Y : List (Lk × Sd)} {i j : Nat} {x : Lk × Sd} (h : DelI l Z Y i j) (hj : Z[j]? = some x) (hx : txP l x.1 = false) : DelI l Z (Y.set i x) (i + 1) (j + 1) := by
  have hlt := (List.getElem?_eq_some_iff.1 hj).1
  have hij := h.lt
  have hiY : i < Y.length := by rw [h.len]; omega
  have e : (Z.take (j + 1)).filter (keepP l) = (Z.take j).filter (keepP l) ++ [x] := by
    rw [List.take_add_one, hj, List.filter_append]; simp [keepP, hx]
  refine ⟨by rw [List.length_set, h.len], by rw [e, List.length_append, ← h.ii]; rfl, by omega, ?_, fun q hq => ?_⟩
  · rw [e, ← h.low, List.take_add_one, List.getElem?_set_self hiY, List.take_set_of_le (by omega)]
    rfl
  · rw [List.getElem?_set_ne (by omega)]
    exact h.high q (by omega)
set_option maxHeartbeats 8000000 in
theorem delete_any (w : World) {B n cap bx : Nat} {ao : Option Addr} (hown : w.ownsRow B 38 12 (.slice ao n cap) n (fl lkc Z)) (hn : Z.length = n) (hle : n ≤ 1099511627776) (hb : LkB w bx l t) (hbx : bx ∉ blk ao) :
    Calls Try.prog 41 #[.slice ao n cap, .func (.func 42) #[] #[.pointer (some ⟨bx, 0, none⟩)]] w fun e w' =>
      e = .returned (.slice ao (Z.filter (keepP l)).length cap) ∧ w'.ownsRow B 38 12 (.slice ao (Z.filter (keepP l)).length cap) (Z.filter (keepP l)).length (fl lkc (Z.filter (keepP l))) ∧ Keep (blk ao) w w' := by
  have C := Lib.hid (index42_any (l := l) (s := t) w ao n cap bx (Rds.of_own lkc_len hn hown) hn hle hb)
  have HO := Lib.hid hown; have HN := Lib.hid hn; have HB := Lib.hid hb; have HBX := Lib.hid hbx
  have hni : (n : Int) ≤ 1099511627776 := by omega
  obtain ⟨m, hm⟩ : ∃ m, (Z.filter (keepP l)).length = m := ⟨_, rfl⟩
  have HM := Lib.hid hm
  rw [hm]
  clear hown hn hle hb hbx hm
  cases hfi : Z.findIdx? (fun x => txP l x.1) with
  | none =>
    have hz : idxP (txP l) Z = -1 := by unfold idxP; rw [hfi]
    rw [hz] at C
    have hall : Z.filter (keepP l) = Z := List.filter_eq_self.2 fun x hx => by
      rw [List.findIdx?_eq_none_iff] at hfi
      simp [keepP, hfi x hx]
    have hmn : m = n := by have := HM.out; rw [hall, HN.out] at this; exact this.symm
    subst hmn
    have HALL := Lib.hid hall
    clear hfi hz hall
    go_enter Try.func41, Try.ntmps41
    go_wp2_with fail
    refine C.out.mono ?_; rintro e w1 ⟨rfl, b1⟩
    go_wp2_with fail
    go_ret
    exact ⟨rfl, by rw [HALL.out]; exact own_below HO.out b1, Keep.of_below b1 _⟩
  | some k0 =>
    have hz : idxP (txP l) Z = (k0 : Int) := by unfold idxP; rw [hfi]
    rw [hz] at C
    rw [List.findIdx?_eq_some_iff_getElem] at hfi
    obtain ⟨hk0, hk1, hk2⟩ := hfi
    have hk0n : k0 < n := by rw [← HN.out]; exact hk0
    have ST := Lib.hid (DelI.start (l := l) (List.getElem?_eq_getElem hk0) hk1 (fun j y hj hy => by
      have := hk2 j hj
      obtain ⟨_, hg⟩ := List.getElem?_eq_some_iff.1 hy
      rw [← hg]; simpa using this))
    obtain ⟨g, rfl, _, _, hgB, _⟩ := owns_none HO.out (by omega)
    have HGB := Lib.hid hgB
    clear hz hk0 hk1 hk2 hgB
    go_enter Try.func41, Try.ntmps41
    go_wp2_with fail
    refine C.out.mono ?_; rintro e w1 ⟨rfl, b1⟩
    have O1 := Lib.hid (own_below HO.out b1)
    have K1 := Lib.hid (Keep.of_below b1 [g])
    clear b1 C HO
    have hne1 : ((k0 : Int) == -1) = false := beq_eq_false_iff_ne.2 (by omega)
    go_wp2_with fail
    go_loopw [5, 6] (fun v5 v6 wr => ∃ (i j : Nat) (Y : List (Lk × Sd)), v5 = .int .i64 (i : Int) ∧ v6 = .int .i64 (j : Int) ∧ j ≤ n ∧ Hid (DelI l Z Y i j) ∧ Hid (wr.ownsRow B 38 12 (.slice (some ⟨g, 0, none⟩) n cap) n (fl lkc Y)) ∧ Hid (Keep [g] w wr)) (fun _ v6 _ => n - (intOf v6).toNat)
    case atStart => exact ⟨k0, k0 + 1, Z, rfl, by go_num, by omega, ST, O1, K1⟩
    case round =>
      obtain ⟨i, j, Y, rfl, rfl, hj, DI, OR, KR⟩ := hrel
      clear O1 K1 ST
      have hij := DI.out.lt
      have hYl : Y.length = n := DI.out.len.trans HN.out
      have HYL := Lib.hid hYl
      by_cases hjn : j < n
      · obtain ⟨x, hx⟩ : ∃ x, Z[j]? = some x := ⟨_, List.getElem?_eq_getElem (by rw [HN.out]; exact hjn)⟩
        have hxY : Y[j]? = some x := (DI.out.high j (Nat.le_refl _)).trans hx
        obtain ⟨g', e', _, hgl, hcap, hrg, _, _⟩ := own_elem lkc_len OR.out hYl hxY
        cases e'
        have RG := Lib.hid hrg
        have hji : (j : Int) < (n : Int) := by omega
        have hj0 : (0 : Int) ≤ (j : Int) := by omega
        have hi0 : (0 : Int) ≤ (i : Int) := by omega
        have hin : (i : Int) < (n : Int) := by omega
        obtain ⟨x, sx⟩ := x
        have HX := Lib.hid hx
        clear hrg hx hxY hYl
        go_upto_region 8 with (refine wpList_load_mid rfl 38 (.tmp 24) rfl g (j * 12) rfl (lkc (x, sx)) _ RG.out Try.underlying38 rfl (lk_size _ _) ?_)
        have b2 := below_alloc (Below.refl wr.heap.size wr) (.cells (x.cells sx) 38)
        have q2 := LkB.new wr x sx
        have hl2 : wr.heap.size < (wr.alloc (.cells (x.cells sx) 38)).heap.size := by simp
        have O2 := Lib.hid (own_below OR.out b2)
        have K2 := Lib.hid (KR.out.trans (Keep.of_below b2 [g]))
        have C2 := Lib.hid (clo42_any (l := l) (s := t) (m := x) (t := sx) (wr.alloc (.cells (x.cells sx) 38)) bx (HB.out.keep K2.out (by have := HBX.out; simpa [blk] using this)))
        simp only [Lk.cells] at b2 q2 hl2 O2 K2 C2
        clear b2
        generalize wr.alloc (.cells #[.int .u64 x.tx, .int .i64 x.m0, .int .i64 x.m1, .int .i64 x.m2, .int .i64 x.it.bucket, .int .u32 x.it.ver, .bool x.it.write, .slice sx.ao x.it.es.length sx.cap, .int .u32 x.it.i0, .int .u32 x.it.i1, .int .u32 x.it.i2, .int .u32 x.it.i3] 38) = w2 at *
        have HGX := Lib.hid (show wr.heap.size ≠ g by omega)
        generalize wr.heap.size = xb at *
        have Q2 := Lib.hid q2
        have RQ := Lib.hid q2.range
        clear q2 hl2
        cases hp : txP l x with
        | true =>
          rw [hp] at C2
          have HP := Lib.hid hp
          clear hp
          go_wp2_with (refine wpList_load_mid rfl 38 (.tmp 7) rfl xb 0 rfl (lkc (x, sx)) _ RQ.out Try.underlying38 rfl (lk_size _ _) ?_)
          refine C2.out.mono ?_; rintro e w3 ⟨rfl, b3⟩
          have O3 := Lib.hid (own_below O2.out b3)
          have K3 := Lib.hid (K2.out.trans (Keep.of_below b3 [g]))
          clear b3
          go_wp2_with fail
          go_roundw
          case rel => exact ⟨i, j + 1, Y, rfl, by go_num, by omega, Lib.hid (DI.out.skip HX.out HP.out), O3, K3⟩
          case measure => simp [intOf]; omega
        | false =>
          rw [hp] at C2
          have HP := Lib.hid hp
          clear hp
          go_wp2_with (refine wpList_load_mid rfl 38 (.tmp 7) rfl xb 0 rfl (lkc (x, sx)) _ RQ.out Try.underlying38 rfl (lk_size _ _) ?_)
          refine C2.out.mono ?_; rintro e w3 ⟨rfl, b3⟩
          have O3 := Lib.hid (own_below O2.out b3)
          have K3 := Lib.hid (K2.out.trans (Keep.of_below b3 [g]))
          have RQ3 := Lib.hid (Q2.out.below b3).range
          have TH := Lib.hid (there_own O3.out (i * 12) 12 (by omega))
          have O4 := Lib.hid (own_setCells lkc_len O3.out HYL.out (j := i) (by omega) (x, sx))
          have K4 := Lib.hid (K3.out.trans (keep_setCells g (lkc (x, sx)) (i * 12) w3))
          clear b3
          go_wp2_with (first
            | (refine wpList_load_mid rfl 38 (.tmp 7) rfl xb 0 rfl (lkc (x, sx)) _ RQ3.out Try.underlying38 rfl (lk_size _ _) ?_)
            | (refine wpList_store_mid rfl 38 (.tmp 33) (.tmp 32) rfl g (i * 12) ⟨lkc (x, sx)⟩ rfl rfl TH.out (lk_size _ _) (lk_ones _ _) ?_; change wpList _ _ _ _ _ (w3.setCells g (i * 12) (lkc (x, sx))); generalize w3.setCells g (i * 12) (lkc (x, sx)) = w4 at *))
          go_roundw
          case rel =>
            refine ⟨i + 1, j + 1, Y.set i (x, sx), by go_num, by go_num, by omega, Lib.hid (DI.out.keep HX.out HP.out), O4, K4⟩
          case measure => simp [intOf]; omega
      · obtain rfl : n = j := by omega
        have hmi : i = m := by
          have := DI.out.ii
          rw [List.take_of_length_le (by rw [HN.out]; exact Nat.le_refl _), HM.out] at this
          exact this
        subst hmi
        have hin : (i : Int) < (n : Int) := by omega
        have hi0 : (0 : Int) ≤ (i : Int) := by omega
        have hni2 : (n : Int) - (i : Int) = ((n - i : Nat) : Int) := by omega
        have hic : (i : Int) ≤ (cap : Int) := by have := (owns_none OR.out (by omega)).choose_spec.2.2.1; omega
        have hcn : (n : Int) ≤ (cap : Int) := by have := (owns_none OR.out (by omega)).choose_spec.2.2.1; omega
        obtain ⟨vs, hvl, hclr⟩ := run_clearL wr g (i * 12) (n - i) (cap - i) 0 (by omega) (there_own OR.out _ _ (by omega))
        have OC := Lib.hid (own_cut (vs := vs) (o := i * 12) lkc_len OR.out hYl (m := i) (by omega) (by omega) (by omega))
        have KC := Lib.hid (KR.out.trans (keep_setCells g vs (i * 12) wr))
        have HLOW := Lib.hid DI.out.low
        generalize wr.setCells g (i * 12) vs = w4 at *
        clear hYl hvl
        go_wp2_with fail
        go_ret
        refine ⟨rfl, ?_, KC.out⟩
        have := OC.out
        rw [HLOW.out, List.take_of_length_le (by rw [HN.out]; exact Nat.le_refl _)] at this
        exact this
end
end Go.Proofs.Ytbjcmomicjdepaa
