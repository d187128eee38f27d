/- The document's learner. -/
import Derived.Test.YtgfalpiifgoonaaRq
import Derived.Laws.MakeOwn
namespace Go.Proofs.Ytgfalpiifgoonaa
open Go.RowKit Go.Sort
set_option linter.unusedVariables false
set_option linter.unusedSectionVars false
set_option linter.unusedSimpArgs false
set_option maxRecDepth 100000

structure Rls where
  L : List Ac
  is : Bool
  ch : ByteArray
structure RlW (w : World) (B rb lb n : Nat) (s : Rls) : Prop where
  row : w.heap[rb]? = some (.cells #[.slice (some ⟨lb, 0, none⟩) n n, .bool s.is, .string s.ch] 55 (0, 0))
  arr : w.heap[lb]? = some (.cells ⟨fl cA s.L⟩ 100 (0, 0))
  len : s.L.length = n
  base : B ≤ rb
  lbase : B ≤ lb
  ne : rb ≠ lb
  n1 : 1 ≤ n
  n9 : n ≤ 9
theorem said_info : (Try.prog.info? 100).map (fun i => (i.zero, i.size, i.bytes)) = some (some (.agg #[.bool false, .int .u32 0, .int .u8 0, .string ⟨#[]⟩]), 4, 32) := by kernel_rfl
theorem made_said (n : Nat) (h1 : 1 ≤ n) (h2 : n ≤ 9) : madeCells #[.bool false, .int .u32 0, .int .u8 0, .string ⟨#[]⟩] (n * 4) = ⟨fl cA (List.replicate n a0)⟩ := by
  have hl : (fl cA (List.replicate n a0)).length = n * 4 := by rw [fl_len cA_len, List.length_replicate]
  apply Array.ext_getElem?
  intro j
  unfold madeCells
  rw [Array.getElem?_map, Array.getElem?_range]
  rw [List.getElem?_toArray]
  by_cases hlt : j < n * 4
  · rw [if_pos hlt]
    have hm : j % 4 < 4 := Nat.mod_lt _ (by omega)
    have hq : j / 4 < n := by omega
    have hj : j = j / 4 * 4 + j % 4 := by omega
    have h3 := fl_at cA_len (List.replicate n a0) (j / 4) (j % 4) hm
    rw [← hj] at h3
    rw [h3, List.getElem?_replicate, if_pos hq]
    simp only [Option.map_some, Option.bind_some]
    have : j % 4 = 0 ∨ j % 4 = 1 ∨ j % 4 = 2 ∨ j % 4 = 3 := by omega
    rcases this with h | h | h | h <;> simp [h]
  · rw [if_neg hlt, List.getElem?_eq_none (by omega)]
    rfl
theorem run_said (w : World) (n : Nat) (h1 : 1 ≤ n) (h2 : n ≤ 9) : (Instr.makeSlice 53 (.int .i64 (n : Int)) (.int .i64 (n : Int))).run Try.prog w = .ok (.slice (some ⟨w.heap.size, 0, none⟩) n n) (w.alloc (.cells ⟨fl cA (List.replicate n a0)⟩ 100)) := by
  obtain ⟨i, g1, g2, g3, g4⟩ := info_parts said_info
  have := run_make (P := Try.prog) w 53 100 i _ Try.underlying53 g1 g2 .i64 .i64 n n (by omega) (Int.le_refl _) (by rw [g4]; omega) (by omega)
  rw [g3] at this
  simp only [Value.cells, Int.toNat_natCast] at this
  rw [made_said n h1 h2] at this
  exact this
theorem eql_said (a b : Ac) (w : World) : (binOp .eql 100 (.agg #[.bool a.is, .int .u32 a.b.round, .int .u8 a.b.node, .string a.v]) (.agg #[.bool b.is, .int .u32 b.b.round, .int .u8 b.b.node, .string b.v])).run Try.prog w = .ok (.bool (decide (a = b))) w := by
  have hu := Try.underlying100
  have hv := Try.underlying34
  rw [run_eql_struct, run_equalIn_agg w 9999 _ _ _ (by kernel_rfl) (by kernel_rfl)]
  rw [show (Try.prog.fieldsOf 100) = _ from by unfold Program.fieldsOf; rw [hu]]
  have hb : ∀ w, (Op.equalIn 9999 34 (.agg #[.int .u32 a.b.round, .int .u8 a.b.node]) (.agg #[.int .u32 b.b.round, .int .u8 b.b.node])).run Try.prog w = .ok (decide (a.b = b.b)) w := fun w => by
    rw [run_equalIn_agg w 9998 _ _ _ (by kernel_rfl) (by kernel_rfl)]
    rw [show (Try.prog.fieldsOf 34) = _ from by unfold Program.fieldsOf; rw [hv]]
    obtain ⟨_, ⟨r1, n1⟩, _⟩ := a
    obtain ⟨_, ⟨r2, n2⟩, _⟩ := b
    go_simp
    by_cases h1 : r1 = r2 <;> by_cases h2 : n1 = n2 <;> simp [h1, h2]
  have hs := str_eq a.v b.v
  obtain ⟨i1, b1, v1⟩ := a
  obtain ⟨i2, b2, v2⟩ := b
  simp only at hb hs
  by_cases h1 : i1 = i2 <;> by_cases h2 : b1 = b2 <;> by_cases h3 : v1 = v2 <;> simp only [h1, h2, h3, decide_true, decide_false] at hb hs <;> go_simp <;> simp_all
section
variable {w w' : World} {B rb lb n : Nat} {s : Rls} {b : Bl} {v : ByteArray}
theorem RlW.hlt (h : RlW w B rb lb n s) : rb < w.heap.size := (Array.getElem?_eq_some_iff.1 h.row).1
theorem RlW.llt (h : RlW w B rb lb n s) : lb < w.heap.size := (Array.getElem?_eq_some_iff.1 h.arr).1
theorem RlW.keep {U : List Nat} (h : RlW w B rb lb n s) (k : Keep U w w') (h1 : rb ∉ U) (h2 : lb ∉ U) : RlW w' B rb lb n s :=
  ⟨(k.block rb h.hlt h1).trans h.row, (k.block lb h.llt h2).trans h.arr, h.len, h.base, h.lbase, h.ne, h.n1, h.n9⟩
theorem RlW.below (h : RlW w B rb lb n s) (k : Below w.heap.size w w') : RlW w' B rb lb n s := h.keep (Keep.of_below k []) (by simp) (by simp)
theorem RlW.all (h : RlW w B rb lb n s) : w.cell? ⟨rb, 0, none⟩ = some (.slice (some ⟨lb, 0, none⟩) n n) ∧ w.cell? ⟨rb, 1, none⟩ = some (.bool s.is) ∧ w.cell? ⟨rb, 2, none⟩ = some (.string s.ch) :=
  ⟨cell_of_row w rb 0 _ _ (0, 0) h.row, cell_of_row w rb 1 _ _ (0, 0) h.row, cell_of_row w rb 2 _ _ (0, 0) h.row⟩
theorem RlW.fr (h : RlW w B rb lb n s) (i : Nat) : w.frozen? ⟨rb, i, none⟩ = false := frozen_of_row w rb i _ _ h.row
theorem RlW.lfr (h : RlW w B rb lb n s) (i : Nat) : w.frozen? ⟨lb, i, none⟩ = false := frozen_of_row w lb i _ _ h.arr
theorem RlW.at_ (h : RlW w B rb lb n s) (k : Nat) (x : Ac) (hx : s.L[k]? = some x) : w.cell? ⟨lb, k * 4, none⟩ = some (.bool x.is) ∧ w.cell? ⟨lb, k * 4 + 1, none⟩ = some (.int .u32 x.b.round) ∧ w.cell? ⟨lb, k * 4 + 2, none⟩ = some (.int .u8 x.b.node) ∧ w.cell? ⟨lb, k * 4 + 3, none⟩ = some (.string x.v) := by
  have : ∀ i, i < 4 → w.cell? ⟨lb, k * 4 + i, none⟩ = (cA x)[i]? := fun i hi => by
    rw [cell_of_row w lb _ _ _ (0, 0) h.arr, List.getElem?_toArray, fl_at cA_len s.L k i hi, hx]; rfl
  exact ⟨this 0 (by omega), this 1 (by omega), this 2 (by omega), this 3 (by omega)⟩
abbrev layS (w : World) (lb k : Nat) (a : Ac) : World := (((w.setCell ⟨lb, k * 4, none⟩ (.bool a.is)).setCell ⟨lb, k * 4 + 1, none⟩ (.int .u32 a.b.round)).setCell ⟨lb, k * 4 + 2, none⟩ (.int .u8 a.b.node)).setCell ⟨lb, k * 4 + 3, none⟩ (.string a.v)
theorem layS_keep (w : World) (lb k : Nat) (a : Ac) : Keep [lb] w (layS w lb k a) :=
  (((Keep.setCell w ⟨lb, k * 4, none⟩ _).trans (Keep.setCell _ ⟨lb, k * 4 + 1, none⟩ _)).trans (Keep.setCell _ ⟨lb, k * 4 + 2, none⟩ _)).trans (Keep.setCell _ ⟨lb, k * 4 + 3, none⟩ _)
theorem fl_set4 (L : List Ac) (k : Nat) (hk : k < L.length) (a : Ac) : (((((fl cA L).set (k * 4) (.bool a.is)).set (k * 4 + 1) (.int .u32 a.b.round)).set (k * 4 + 2) (.int .u8 a.b.node)).set (k * 4 + 3) (.string a.v)) = fl cA (L.set k a) := by
  have hf : (fl cA L).length = L.length * 4 := fl_len cA_len L
  refine fl_set (c := cA) (z := 4) cA_len L k a _ (by simp) hk (fun i hi => ?_) (fun q hq => ?_)
  · have : i = 0 ∨ i = 1 ∨ i = 2 ∨ i = 3 := by omega
    rcases this with rfl | rfl | rfl | rfl
    · rw [List.getElem?_set_ne (by omega), List.getElem?_set_ne (by omega), List.getElem?_set_ne (by omega), Nat.add_zero, List.getElem?_set_self (by omega)]; rfl
    · rw [List.getElem?_set_ne (by omega), List.getElem?_set_ne (by omega), List.getElem?_set_self (by rw [List.length_set]; omega)]; rfl
    · rw [List.getElem?_set_ne (by omega), List.getElem?_set_self (by rw [List.length_set, List.length_set]; omega)]; rfl
    · rw [List.getElem?_set_self (by rw [List.length_set, List.length_set, List.length_set]; omega)]; rfl
  · rw [List.getElem?_set_ne (by omega), List.getElem?_set_ne (by omega), List.getElem?_set_ne (by omega), List.getElem?_set_ne (by omega)]
theorem RlW.set (h : RlW w B rb lb n s) (k : Nat) (hk : k < n) (a : Ac) : RlW (layS w lb k a) B rb lb n ⟨s.L.set k a, s.is, s.ch⟩ := by
  refine ⟨row_keep h.row (layS_keep w lb k a) (by simpa using h.ne), ?_, by simp only [List.length_set]; exact h.len, h.base, h.lbase, h.ne, h.n1, h.n9⟩
  have h1 : (layS w lb k a).heap[lb]? = some _ := heap_setCell_same _ lb (k * 4 + 3) _ _ _ (heap_setCell_same _ lb (k * 4 + 2) _ _ _ (heap_setCell_same _ lb (k * 4 + 1) _ _ _ (heap_setCell_same w lb (k * 4) _ _ _ h.arr)))
  rw [h1]
  simp only [List.setIfInBounds_toArray]
  rw [fl_set4 s.L k (by rw [h.len]; exact hk) a]
theorem RlW.choose (h : RlW w B rb lb n s) (v : ByteArray) : RlW ((w.setCell ⟨rb, 1, none⟩ (.bool true)).setCell ⟨rb, 2, none⟩ (.string v)) B rb lb n ⟨s.L, true, v⟩ :=
  ⟨heap_setCell_same _ rb 2 _ _ _ (heap_setCell_same w rb 1 _ _ _ h.row), row_keep h.arr ((Keep.setCell w ⟨rb, 1, none⟩ _).trans (Keep.setCell _ ⟨rb, 2, none⟩ _)) (by simpa using Ne.symm h.ne), h.len, h.base, h.lbase, h.ne, h.n1, h.n9⟩
set_option maxHeartbeats 1600000 in
theorem rlnew_any (n : Nat) (h1 : 1 ≤ n) (h2 : n ≤ 9) (w : World) : Calls Try.prog 11 #[.int .i64 (n : Int)] w fun e w' =>
    ∃ rb lb, e = .returned (.pointer (some ⟨rb, 0, none⟩)) ∧ RlW w' w.heap.size rb lb n ⟨List.replicate n a0, false, nov⟩ ∧ Below w.heap.size w w' := by
  have hmk := run_said w n h1 h2
  have hn := heap_alloc_new (w.alloc (.cells ⟨fl cA (List.replicate n a0)⟩ 100)) (.cells #[.slice (some ⟨w.heap.size, 0, none⟩) n n, .bool false, .string nov] 55)
  have hl : ((w.alloc (.cells ⟨fl cA (List.replicate n a0)⟩ 100)).alloc (.cells #[.slice (some ⟨w.heap.size, 0, none⟩) n n, .bool false, .string nov] 55)).heap[w.heap.size]? = some (.cells ⟨fl cA (List.replicate n a0)⟩ 100 (0, 0)) := by
    have := (below_alloc (Below.refl (w.alloc (.cells ⟨fl cA (List.replicate n a0)⟩ 100)).heap.size (w.alloc (.cells ⟨fl cA (List.replicate n a0)⟩ 100))) (.cells #[.slice (some ⟨w.heap.size, 0, none⟩) n n, .bool false, .string nov] 55)).block w.heap.size (by simp)
    rw [this]; exact heap_alloc_new w _
  have hs : (w.alloc (.cells ⟨fl cA (List.replicate n a0)⟩ 100)).heap.size = w.heap.size + 1 := by simp
  rw [hs] at hn
  have HN := Lib.hid (RlW.mk (B := w.heap.size) (s := ⟨List.replicate n a0, false, nov⟩) hn hl (by simp) (by omega) (Nat.le_refl _) (by omega) h1 h2)
  clear h1 h2 hn hl hs
  go_enter Try.func11, Try.ntmps11
  go_wp2_with fail
  go_ret
  exact ⟨_, _, rfl, HN.out, below_alloc (below_alloc (Below.refl _ _) _) _⟩
structure RLR where
  s : Rls
  v : ByteArray
  ok : Bool
def raccL (n : Nat) (s : Rls) (fr : Int) (b : Bl) (v : ByteArray) : RLR :=
  if s.is = true ∨ fr < 0 ∨ (n : Int) ≤ fr then ⟨s, nov, false⟩
  else match s.L[fr.toNat]? with
    | none => ⟨s, nov, false⟩
    | some old => if (old.is && !(low old.b b)) = true then ⟨s, nov, false⟩
      else if n < 2 * occ (s.L.set fr.toNat ⟨true, b, v⟩) ⟨true, b, v⟩ then ⟨⟨s.L.set fr.toNat ⟨true, b, v⟩, true, v⟩, v, true⟩ else ⟨⟨s.L.set fr.toNat ⟨true, b, v⟩, s.is, s.ch⟩, nov, false⟩
set_option maxHeartbeats 1600000 in
theorem racc_no (fr : Int) (hno : s.is = true ∨ fr < 0 ∨ (n : Int) ≤ fr) (w : World) (h : RlW w B rb lb n s) :
    Calls Try.prog 17 #[.pointer (some ⟨rb, 0, none⟩), .int .i64 fr, b.ag, .string v] w fun e w' => e = .returned (.tuple #[.string ⟨#[]⟩, .bool false]) ∧ Below w.heap.size w w' := by
  have HB := Lib.hid (below_alloc (Below.refl w.heap.size w) (Bl.obj b))
  obtain ⟨c0, c1', _⟩ := (h.below HB.out).all
  simp only [Bl.obj] at c0 c1' HB
  clear h
  obtain ⟨L, is, ch⟩ := s
  simp only at c1' hno
  cases is
  · by_cases h1 : fr < 0
    · clear hno
      go_enter Try.func17, Try.ntmps17
      go_wp2_with fail
      go_ret2
      exact ⟨rfl, HB.out⟩
    · have h2 : (n : Int) ≤ fr := by
        rcases hno with h | h | h
        · cases h
        · exact absurd h h1
        · exact h
      clear hno
      go_enter Try.func17, Try.ntmps17
      go_wp2_with fail
      go_ret2
      exact ⟨rfl, HB.out⟩
  · clear hno
    go_enter Try.func17, Try.ntmps17
    go_wp2_with fail
    go_ret2
    exact ⟨rfl, HB.out⟩
/-- what Accepted leaves, of an acceptor that is one -/
def RaEnd (w : World) (B rb lb n : Nat) (s : Rls) (k : Nat) (old : Ac) (b : Bl) (v : ByteArray) (e : Ending) (w' : World) : Prop :=
  if (old.is && !(low old.b b)) = true then e = .returned (.tuple #[.string ⟨#[]⟩, .bool false]) ∧ Below w.heap.size w w'
  else Keep [rb, lb] w w' ∧ if n < 2 * occ (s.L.set k ⟨true, b, v⟩) ⟨true, b, v⟩ then e = .returned (.tuple #[.string v, .bool true]) ∧ RlW w' B rb lb n ⟨s.L.set k ⟨true, b, v⟩, true, v⟩
    else e = .returned (.tuple #[.string ⟨#[]⟩, .bool false]) ∧ RlW w' B rb lb n ⟨s.L.set k ⟨true, b, v⟩, s.is, s.ch⟩
set_option maxHeartbeats 6400000 in
theorem racc_go (k : Nat) (hk : k < n) (old : Ac) (hold : s.L[k]? = some old) (his : s.is = false) (w : World) (h : RlW w B rb lb n s) :
    Calls Try.prog 17 #[.pointer (some ⟨rb, 0, none⟩), .int .i64 (k : Int), b.ag, .string v] w (RaEnd w B rb lb n s k old b v) := by
  have HB := Lib.hid (below_alloc (Below.refl w.heap.size w) (Bl.obj b))
  have T := Lib.hid (h.below HB.out)
  have Q := Lib.hid (Row2.new w b)
  have HL := Lib.hid (show rb < w.heap.size ∧ lb < w.heap.size from ⟨h.hlt, h.llt⟩)
  have HOLD := Lib.hid hold
  have HIS := Lib.hid his
  have hn9 := h.n9
  have k0 : (0 : Int) ≤ (k : Int) := by omega
  have k0d : decide ((k : Int) < 0) = false := decide_eq_false (by omega)
  have k1 : (k : Int) < (n : Int) := by omega
  have k1d : decide (n ≤ k) = false := decide_eq_false (by omega)
  simp only [Bl.obj] at HB T Q
  clear h hold his hn9
  go_enter Try.func17, Try.ntmps17
  go_upto_region 1 with (fail)
  generalize w.alloc (.cells #[.int .u32 b.round, .int .u8 b.node] 34) = W at *
  generalize hbi : w.heap.size = bi at *
  obtain ⟨c0, c1', c2⟩ := T.out.all
  rw [HIS.out] at c1'
  obtain ⟨d0, d1, _, _⟩ := Row2.all Q.out
  obtain ⟨p0, p1, p2, p3⟩ := T.out.at_ k old HOLD.out
  go_upto_region 3 with (fail)
  have x0 := cell_regrown c0; have x1 := cell_regrown p1; have x2 := cell_regrown p2; have x3 := cell_regrown d0; have x4 := cell_regrown d1
  have WL := Lib.hid (fun d os => Calls.regrown_of (rless_any old.b b (grow (redrawn W d) os)))
  clear c0 c1' c2 d0 d1 p0 p1 p2 p3
  refine wp_region_quiet_below (by kernel_rfl) (by kernel_rfl) ?_
  repeat (go_big_quiet_step (exact WL.out _ _))
  refine wpQuiet_nil ?_
  intro _ hw'
  obtain ⟨⟨dq, osq⟩, hw''⟩ := hw'
  subst hw''
  have lk := below_regrown W dq osq
  have T1 := Lib.hid (T.out.below lk); have Q1 := Lib.hid (Row2.below Q.out lk)
  have B1 := Lib.hid (HB.out.trans (lk.mono (by have := HB.out.size; omega)))
  clear x0 x1 x2 x3 x4 WL lk T Q HB
  generalize grow (redrawn W dq) osq = w1 at *
  obtain ⟨c0, c1', c2⟩ := T1.out.all
  obtain ⟨p0, p1, p2, p3⟩ := T1.out.at_ k old HOLD.out
  have hoi : old.is = false ∨ old.is = true := by cases old.is <;> simp
  have hlw : low old.b b = false ∨ low old.b b = true := by cases low old.b b <;> simp
  by_cases hst : (old.is && !(low old.b b)) = true
  · have h1 : old.is = true := by
      rcases hoi with h | h
      · rw [h] at hst; cases hst
      · exact h
    have h2 : low old.b b = false := by
      rcases hlw with h | h
      · exact h
      · rw [h1, h] at hst; cases hst
    rw [h1] at p0
    have HST := Lib.hid hst
    clear hst h1 hoi hlw
    rw [h2]
    go_wp2_with fail
    go_ret2
    unfold RaEnd
    rw [if_pos HST.out]
    exact ⟨rfl, by first | exact B1.out | (rw [hbi]; exact B1.out)⟩
  · have HST := Lib.hid hst
    clear hst
    have hway : (old.is = false) ∨ (old.is = true ∧ low old.b b = true) := by
      rcases hoi with h | h
      · exact .inl h
      · rcases hlw with h2 | h2
        · exact absurd (by rw [h, h2]; rfl) HST.out
        · exact .inr ⟨h, h2⟩
    clear hoi hlw
    rcases hway with h1 | ⟨h1, h2⟩
    · rw [h1] at p0
      clear h1
      go_upto_region 6 with (fail)
      obtain ⟨d0, d1, _, _⟩ := Row2.all Q1.out
      have x0 := cell_regrown c0; have x3 := cell_regrown d0; have x4 := cell_regrown d1
      clear c0 c1' c2 p0 p1 p2 p3 d0 d1
      refine region_tail 9 (by kernel_rfl) (by kernel_rfl) ?_
      simp only [List.take_succ_cons, List.take_zero, List.drop_succ_cons, List.drop_zero]
      repeat (go_big_quiet_step (fail))
      refine wpQuiet_nil ?_
      intro _ hw'
      obtain ⟨⟨dq2, osq2⟩, hw''⟩ := hw'
      subst hw''
      have lk := below_regrown w1 dq2 osq2
      have T2 := Lib.hid (T1.out.below lk); have Q2 := Lib.hid (Row2.below Q1.out lk)
      have B2 := Lib.hid (B1.out.trans (lk.mono (by have := B1.out.size; omega)))
      clear x0 x3 x4 lk T1 Q1 B1
      generalize grow (redrawn w1 dq2) osq2 = w2 at *
      obtain ⟨p0, p1, p2, p3⟩ := T2.out.at_ k old HOLD.out
      have f0 := T2.out.lfr (k * 4); have f1 := T2.out.lfr (k * 4 + 1); have f2 := T2.out.lfr (k * 4 + 2); have f3 := T2.out.lfr (k * 4 + 3)
      go_upto_region 7 with (fail)
      have T3 := Lib.hid (T2.out.set k (by omega) ⟨true, b, v⟩)
      have kk := layS_keep w2 lb k ⟨true, b, v⟩
      have Q3 := Lib.hid (show Row2 (layS w2 lb k ⟨true, b, v⟩) bi b from row_keep Q2.out kk (by have := HL.out; simp; omega))
      have K3 := Lib.hid ((show Keep [rb, lb] w w2 from Keep.of_below (by rw [hbi]; exact B2.out) _).trans (kk.mono (T := [rb, lb]) (by simp)))
      simp only [layS] at T3 Q3 K3
      clear kk p0 p1 p2 p3 f0 f1 f2 f3 T2 Q2 B2
      generalize (((w2.setCell ⟨lb, k * 4, none⟩ (.bool true)).setCell ⟨lb, k * 4 + 1, none⟩ (.int .u32 b.round)).setCell ⟨lb, k * 4 + 2, none⟩ (.int .u8 b.node)).setCell ⟨lb, k * 4 + 3, none⟩ (.string v) = w3 at *
      obtain ⟨L2, hL2⟩ : ∃ L2, s.L.set k ⟨true, b, v⟩ = L2 := ⟨_, rfl⟩
      rw [hL2] at T3
      have HL2 := Lib.hid hL2
      clear hL2
      go_wp2_with fail
      go_loopw [11, 12] (fun v11 v12 wx => ∃ q : Nat, v12 = .int .i64 (q : Int) ∧ q ≤ n ∧ v11 = .int .i64 (occ (L2.take q) ⟨true, b, v⟩ : Int) ∧ RlW wx B rb lb n ⟨L2, s.is, s.ch⟩ ∧ Row2 wx bi b ∧ Keep [rb, lb] w wx) (fun _ v12 _ => n - (intOf v12).toNat)
      case atStart => exact ⟨0, rfl, Nat.zero_le _, rfl, T3.out, Q3.out, K3.out⟩
      case round =>
        obtain ⟨q, rfl, hq1, rfl, hT, hQ, hK⟩ := hrel
        clear T3 Q3 K3
        have hq0 : (0 : Int) ≤ (q : Int) := by omega
        have hoc : occ (L2.take q) ⟨true, b, v⟩ ≤ q := by
          have h1 : (L2.take q).length ≤ q := List.length_take_le _ _
          have h2 : occ (L2.take q) ⟨true, b, v⟩ ≤ (L2.take q).length := List.countP_le_length
          omega
        have hn9 := hT.n9
        obtain ⟨c0, c1', c2⟩ := hT.all
        by_cases hlt : q < n
        · have hlt1 : (q : Int) < (n : Int) := by omega
          obtain ⟨A, hA⟩ : ∃ A, L2[q]? = some A := ⟨_, List.getElem?_eq_getElem (by have := hT.len; simp only at this; omega)⟩
          obtain ⟨p0, p1, p2, p3⟩ := hT.at_ q A hA
          obtain ⟨d0, d1, _, _⟩ := Row2.all hQ
          have HTK := Lib.hid (show occ (L2.take (q + 1)) ⟨true, b, v⟩ = occ (L2.take q) ⟨true, b, v⟩ + (if A = ⟨true, b, v⟩ then 1 else 0) by
            rw [List.take_add_one, hA]
            simp only [occ, Option.toList_some, List.countP_append, List.countP_cons, List.countP_nil, decide_eq_true_eq, Nat.zero_add])
          generalize occ (L2.take q) ⟨true, b, v⟩ = oc at *
          have x0 := cell_regrown c0; have x1 := cell_regrown p0; have x2 := cell_regrown p1; have x3 := cell_regrown p2; have x4 := cell_regrown p3; have x5 := cell_regrown d0; have x6 := cell_regrown d1
          have HT := Lib.hid hT; have HQ := Lib.hid hQ; have HK := Lib.hid hK
          have hob : (oc : Int) ≤ 9 := by omega
          have hob0 : (0 : Int) ≤ (oc : Int) := by omega
          have E : ∀ w, (binOp .eql 100 (.agg #[.bool A.is, .int .u32 A.b.round, .int .u8 A.b.node, .string A.v]) (.agg #[.bool true, .int .u32 b.round, .int .u8 b.node, .string v])).run Try.prog w = .ok (.bool (decide (A = ⟨true, b, v⟩))) w := fun w => eql_said A ⟨true, b, v⟩ w
          obtain ⟨eb, heb⟩ : ∃ eb, decide (A = ⟨true, b, v⟩) = eb := ⟨_, rfl⟩
          simp only [heb] at E
          have HEB := Lib.hid heb
          clear hT hQ hK p0 p1 p2 p3 d0 d1 hA heb hoc
          go_upto_region 11 with (fail)
          clear c0 c1' c2
          refine wp_region_quiet_below (by kernel_rfl) (by kernel_rfl) ?_
          repeat (go_big_quiet_step (fail))
          refine wpQuiet_nil ?_
          intro _ hw'
          obtain ⟨⟨dq3, osq3⟩, hw''⟩ := hw'
          subst hw''
          have lk := below_regrown wr dq3 osq3
          have T4 := Lib.hid (HT.out.below lk); have Q4 := Lib.hid (Row2.below HQ.out lk); have K4 := Lib.hid (HK.out.trans (Keep.of_below lk _))
          clear x0 x1 x2 x3 x4 x5 x6 lk E HT HQ HK
          generalize grow (redrawn wr dq3) osq3 = w5 at *
          have hcb : eb = true ∨ eb = false := by cases eb <;> simp
          rcases hcb with hcb | hcb
          · subst hcb
            have HE := Lib.hid (show occ (L2.take (q + 1)) ⟨true, b, v⟩ = oc + 1 by rw [HTK.out, if_pos (of_decide_eq_true HEB.out)])
            go_wp2_with fail
            go_roundw
            case rel => exact ⟨q + 1, by go_num, by omega, by rw [HE.out]; go_num, T4.out, Q4.out, K4.out⟩
            case measure => simp [intOf]; omega
          · subst hcb
            have HE := Lib.hid (show occ (L2.take (q + 1)) ⟨true, b, v⟩ = oc by rw [HTK.out, if_neg (of_decide_eq_false HEB.out)]; rfl)
            go_wp2_with fail
            go_roundw
            case rel => exact ⟨q + 1, by go_num, by omega, by rw [HE.out], T4.out, Q4.out, K4.out⟩
            case measure => simp [intOf]; omega
        · obtain rfl : q = n := by omega
          have HTA := Lib.hid (show occ (L2.take q) ⟨true, b, v⟩ = occ L2 ⟨true, b, v⟩ by rw [List.take_of_length_le (by have := hT.len; simp only at this; omega)])
          rw [HTA.out] at hoc ⊢
          generalize hocc : occ L2 ⟨true, b, v⟩ = oc at *
          have hob : (oc : Int) ≤ 9 := by omega
          have hob0 : (0 : Int) ≤ (oc : Int) := by omega
          have f1 := hT.fr 1; have f2 := hT.fr 2
          have HT := Lib.hid hT; have HK := Lib.hid hK
          have HN := Lib.hid hT.ne
          clear hT hQ hK HTA
          by_cases hmj : q < 2 * oc
          · have hd : (q : Int) < 2 * (oc : Int) := by omega
            have HMJ := Lib.hid hmj
            clear hmj
            go_upto_region 17 with (fail)
            have T4 := Lib.hid (HT.out.choose v)
            have K4 := Lib.hid (HK.out.trans (((Keep.setCell wr ⟨rb, 1, none⟩ (.bool true)).trans (Keep.setCell _ ⟨rb, 2, none⟩ (.string v))).mono (T := [rb, lb]) (by simp)))
            clear c0 c1' c2 f1 f2 HT HK
            go_wp2_with fail
            go_ret2
            unfold RaEnd
            rw [if_neg HST.out]
            refine ⟨K4.out, ?_⟩
            rw [HL2.out, hocc, if_pos HMJ.out]
            exact ⟨rfl, T4.out⟩
          · have hd : 2 * (oc : Int) ≤ (q : Int) := by omega
            have HMJ := Lib.hid hmj
            clear hmj
            go_wp2_with fail
            go_ret2
            unfold RaEnd
            rw [if_neg HST.out]
            refine ⟨HK.out, ?_⟩
            rw [HL2.out, hocc, if_neg HMJ.out]
            exact ⟨rfl, HT.out⟩
    · rw [h1] at p0
      rw [h2]
      clear h1 h2
      go_upto_region 6 with (fail)
      obtain ⟨d0, d1, _, _⟩ := Row2.all Q1.out
      have x0 := cell_regrown c0; have x3 := cell_regrown d0; have x4 := cell_regrown d1
      clear c0 c1' c2 p0 p1 p2 p3 d0 d1
      refine region_tail 9 (by kernel_rfl) (by kernel_rfl) ?_
      simp only [List.take_succ_cons, List.take_zero, List.drop_succ_cons, List.drop_zero]
      repeat (go_big_quiet_step (fail))
      refine wpQuiet_nil ?_
      intro _ hw'
      obtain ⟨⟨dq2, osq2⟩, hw''⟩ := hw'
      subst hw''
      have lk := below_regrown w1 dq2 osq2
      have T2 := Lib.hid (T1.out.below lk); have Q2 := Lib.hid (Row2.below Q1.out lk)
      have B2 := Lib.hid (B1.out.trans (lk.mono (by have := B1.out.size; omega)))
      clear x0 x3 x4 lk T1 Q1 B1
      generalize grow (redrawn w1 dq2) osq2 = w2 at *
      obtain ⟨p0, p1, p2, p3⟩ := T2.out.at_ k old HOLD.out
      have f0 := T2.out.lfr (k * 4); have f1 := T2.out.lfr (k * 4 + 1); have f2 := T2.out.lfr (k * 4 + 2); have f3 := T2.out.lfr (k * 4 + 3)
      go_upto_region 7 with (fail)
      have T3 := Lib.hid (T2.out.set k (by omega) ⟨true, b, v⟩)
      have kk := layS_keep w2 lb k ⟨true, b, v⟩
      have Q3 := Lib.hid (show Row2 (layS w2 lb k ⟨true, b, v⟩) bi b from row_keep Q2.out kk (by have := HL.out; simp; omega))
      have K3 := Lib.hid ((show Keep [rb, lb] w w2 from Keep.of_below (by rw [hbi]; exact B2.out) _).trans (kk.mono (T := [rb, lb]) (by simp)))
      simp only [layS] at T3 Q3 K3
      clear kk p0 p1 p2 p3 f0 f1 f2 f3 T2 Q2 B2
      generalize (((w2.setCell ⟨lb, k * 4, none⟩ (.bool true)).setCell ⟨lb, k * 4 + 1, none⟩ (.int .u32 b.round)).setCell ⟨lb, k * 4 + 2, none⟩ (.int .u8 b.node)).setCell ⟨lb, k * 4 + 3, none⟩ (.string v) = w3 at *
      obtain ⟨L2, hL2⟩ : ∃ L2, s.L.set k ⟨true, b, v⟩ = L2 := ⟨_, rfl⟩
      rw [hL2] at T3
      have HL2 := Lib.hid hL2
      clear hL2
      go_wp2_with fail
      go_loopw [11, 12] (fun v11 v12 wx => ∃ q : Nat, v12 = .int .i64 (q : Int) ∧ q ≤ n ∧ v11 = .int .i64 (occ (L2.take q) ⟨true, b, v⟩ : Int) ∧ RlW wx B rb lb n ⟨L2, s.is, s.ch⟩ ∧ Row2 wx bi b ∧ Keep [rb, lb] w wx) (fun _ v12 _ => n - (intOf v12).toNat)
      case atStart => exact ⟨0, rfl, Nat.zero_le _, rfl, T3.out, Q3.out, K3.out⟩
      case round =>
        obtain ⟨q, rfl, hq1, rfl, hT, hQ, hK⟩ := hrel
        clear T3 Q3 K3
        have hq0 : (0 : Int) ≤ (q : Int) := by omega
        have hoc : occ (L2.take q) ⟨true, b, v⟩ ≤ q := by
          have h1 : (L2.take q).length ≤ q := List.length_take_le _ _
          have h2 : occ (L2.take q) ⟨true, b, v⟩ ≤ (L2.take q).length := List.countP_le_length
          omega
        have hn9 := hT.n9
        obtain ⟨c0, c1', c2⟩ := hT.all
        by_cases hlt : q < n
        · have hlt1 : (q : Int) < (n : Int) := by omega
          obtain ⟨A, hA⟩ : ∃ A, L2[q]? = some A := ⟨_, List.getElem?_eq_getElem (by have := hT.len; simp only at this; omega)⟩
          obtain ⟨p0, p1, p2, p3⟩ := hT.at_ q A hA
          obtain ⟨d0, d1, _, _⟩ := Row2.all hQ
          have HTK := Lib.hid (show occ (L2.take (q + 1)) ⟨true, b, v⟩ = occ (L2.take q) ⟨true, b, v⟩ + (if A = ⟨true, b, v⟩ then 1 else 0) by
            rw [List.take_add_one, hA]
            simp only [occ, Option.toList_some, List.countP_append, List.countP_cons, List.countP_nil, decide_eq_true_eq, Nat.zero_add])
          generalize occ (L2.take q) ⟨true, b, v⟩ = oc at *
          have x0 := cell_regrown c0; have x1 := cell_regrown p0; have x2 := cell_regrown p1; have x3 := cell_regrown p2; have x4 := cell_regrown p3; have x5 := cell_regrown d0; have x6 := cell_regrown d1
          have HT := Lib.hid hT; have HQ := Lib.hid hQ; have HK := Lib.hid hK
          have hob : (oc : Int) ≤ 9 := by omega
          have hob0 : (0 : Int) ≤ (oc : Int) := by omega
          have E : ∀ w, (binOp .eql 100 (.agg #[.bool A.is, .int .u32 A.b.round, .int .u8 A.b.node, .string A.v]) (.agg #[.bool true, .int .u32 b.round, .int .u8 b.node, .string v])).run Try.prog w = .ok (.bool (decide (A = ⟨true, b, v⟩))) w := fun w => eql_said A ⟨true, b, v⟩ w
          obtain ⟨eb, heb⟩ : ∃ eb, decide (A = ⟨true, b, v⟩) = eb := ⟨_, rfl⟩
          simp only [heb] at E
          have HEB := Lib.hid heb
          clear hT hQ hK p0 p1 p2 p3 d0 d1 hA heb hoc
          go_upto_region 11 with (fail)
          clear c0 c1' c2
          refine wp_region_quiet_below (by kernel_rfl) (by kernel_rfl) ?_
          repeat (go_big_quiet_step (fail))
          refine wpQuiet_nil ?_
          intro _ hw'
          obtain ⟨⟨dq3, osq3⟩, hw''⟩ := hw'
          subst hw''
          have lk := below_regrown wr dq3 osq3
          have T4 := Lib.hid (HT.out.below lk); have Q4 := Lib.hid (Row2.below HQ.out lk); have K4 := Lib.hid (HK.out.trans (Keep.of_below lk _))
          clear x0 x1 x2 x3 x4 x5 x6 lk E HT HQ HK
          generalize grow (redrawn wr dq3) osq3 = w5 at *
          have hcb : eb = true ∨ eb = false := by cases eb <;> simp
          rcases hcb with hcb | hcb
          · subst hcb
            have HE := Lib.hid (show occ (L2.take (q + 1)) ⟨true, b, v⟩ = oc + 1 by rw [HTK.out, if_pos (of_decide_eq_true HEB.out)])
            go_wp2_with fail
            go_roundw
            case rel => exact ⟨q + 1, by go_num, by omega, by rw [HE.out]; go_num, T4.out, Q4.out, K4.out⟩
            case measure => simp [intOf]; omega
          · subst hcb
            have HE := Lib.hid (show occ (L2.take (q + 1)) ⟨true, b, v⟩ = oc by rw [HTK.out, if_neg (of_decide_eq_false HEB.out)]; rfl)
            go_wp2_with fail
            go_roundw
            case rel => exact ⟨q + 1, by go_num, by omega, by rw [HE.out], T4.out, Q4.out, K4.out⟩
            case measure => simp [intOf]; omega
        · obtain rfl : q = n := by omega
          have HTA := Lib.hid (show occ (L2.take q) ⟨true, b, v⟩ = occ L2 ⟨true, b, v⟩ by rw [List.take_of_length_le (by have := hT.len; simp only at this; omega)])
          rw [HTA.out] at hoc ⊢
          generalize hocc : occ L2 ⟨true, b, v⟩ = oc at *
          have hob : (oc : Int) ≤ 9 := by omega
          have hob0 : (0 : Int) ≤ (oc : Int) := by omega
          have f1 := hT.fr 1; have f2 := hT.fr 2
          have HT := Lib.hid hT; have HK := Lib.hid hK
          have HN := Lib.hid hT.ne
          clear hT hQ hK HTA
          by_cases hmj : q < 2 * oc
          · have hd : (q : Int) < 2 * (oc : Int) := by omega
            have HMJ := Lib.hid hmj
            clear hmj
            go_upto_region 17 with (fail)
            have T4 := Lib.hid (HT.out.choose v)
            have K4 := Lib.hid (HK.out.trans (((Keep.setCell wr ⟨rb, 1, none⟩ (.bool true)).trans (Keep.setCell _ ⟨rb, 2, none⟩ (.string v))).mono (T := [rb, lb]) (by simp)))
            clear c0 c1' c2 f1 f2 HT HK
            go_wp2_with fail
            go_ret2
            unfold RaEnd
            rw [if_neg HST.out]
            refine ⟨K4.out, ?_⟩
            rw [HL2.out, hocc, if_pos HMJ.out]
            exact ⟨rfl, T4.out⟩
          · have hd : 2 * (oc : Int) ≤ (q : Int) := by omega
            have HMJ := Lib.hid hmj
            clear hmj
            go_wp2_with fail
            go_ret2
            unfold RaEnd
            rw [if_neg HST.out]
            refine ⟨HK.out, ?_⟩
            rw [HL2.out, hocc, if_neg HMJ.out]
            exact ⟨rfl, HT.out⟩
/-- what Accepted answers and leaves, whatever comes -/
theorem racc_any (fr : Int) (w : World) (h : RlW w B rb lb n s) :
    Calls Try.prog 17 #[.pointer (some ⟨rb, 0, none⟩), .int .i64 fr, b.ag, .string v] w fun e w' =>
      e = .returned (.tuple #[.string (raccL n s fr b v).v, .bool (raccL n s fr b v).ok]) ∧ RlW w' B rb lb n (raccL n s fr b v).s ∧ Keep [rb, lb] w w' := by
  by_cases h1 : s.is = true ∨ fr < 0 ∨ (n : Int) ≤ fr
  · have e : raccL n s fr b v = ⟨s, nov, false⟩ := by unfold raccL; rw [if_pos h1]
    rw [e]
    exact (racc_no fr h1 w h).mono fun e w' ⟨h2, h3⟩ => ⟨h2, h.below h3, Keep.of_below h3 _⟩
  · have hi : s.is = false := by
      cases hq : s.is
      · rfl
      · exact absurd (.inl hq) h1
    obtain ⟨k, rfl⟩ : ∃ k : Nat, fr = (k : Int) := ⟨fr.toNat, by omega⟩
    have hk : k < n := by omega
    have hold : s.L[k]? = some (s.L[k]'(by rw [h.len]; exact hk)) := List.getElem?_eq_getElem _
    generalize s.L[k]'(by rw [h.len]; exact hk) = old at hold
    have e : raccL n s (k : Int) b v = if (old.is && !(low old.b b)) = true then ⟨s, nov, false⟩
      else if n < 2 * occ (s.L.set k ⟨true, b, v⟩) ⟨true, b, v⟩ then ⟨⟨s.L.set k ⟨true, b, v⟩, true, v⟩, v, true⟩ else ⟨⟨s.L.set k ⟨true, b, v⟩, s.is, s.ch⟩, nov, false⟩ := by
      unfold raccL
      rw [if_neg h1]
      simp only [Int.toNat_natCast, hold]
    rw [e]
    refine (racc_go k hk old hold hi w h).mono fun e w' hq => ?_
    unfold RaEnd at hq
    by_cases h2 : (old.is && !(low old.b b)) = true
    · rw [if_pos h2] at hq ⊢
      exact ⟨hq.1, h.below hq.2, Keep.of_below hq.2 _⟩
    · rw [if_neg h2] at hq ⊢
      obtain ⟨h3, h4⟩ := hq
      by_cases h5 : n < 2 * occ (s.L.set k ⟨true, b, v⟩) ⟨true, b, v⟩
      · rw [if_pos h5] at h4 ⊢
        exact ⟨h4.1, h4.2, h3⟩
      · rw [if_neg h5] at h4 ⊢
        exact ⟨h4.1, h4.2, h3⟩
end
end Go.Proofs.Ytgfalpiifgoonaa
