/- No net; awake. -/
import Derived.Test.YthanjfnpohhebaaSpoil
import Derived.Lib.SlBytesConst
namespace Go.Proofs.Ythanjfnpohhebaa
open Go.RowKit Go.Sort
set_option linter.unusedVariables false

theorem results_cell1 {P : Program} {fn : Func} {t : Tmp} {u : TypeId} {tmps : Array Value} {w : World} {ad : Addr} {v : Value} (h : fn.results = #[.cell t u]) (ht : tmps.getD t undef = .pointer (some ad))
    (hl : (loadVar u ad).run P w = .ok v w) : (results fn tmps).run P w = .ok v w := by
  have ht' : tmps[t]?.getD undef = .pointer (some ad) := by simpa using ht
  simp [results, h, ht', hl, asAddr]
theorem Rd.lit (w : World) (l : List Nat) (hl : ∀ c ∈ l, c < 256) (fr : Nat × Nat) : Rd (w.alloc (.cells ⟨cs l⟩ 5 fr)) (some ⟨w.heap.size, 0, none⟩) l := by
  refine ⟨hl, fun j hj => ⟨_, 0, rfl, by simp, ?_⟩⟩
  rw [cell_of_row _ _ _ ⟨cs l⟩ 5 fr (heap_alloc_new w _), List.getElem?_toArray, Nat.zero_add, List.getElem?_map, bt_get hj]
  rfl
section
variable {B hn gm : Nat} {S : List Pkt} {room made : Nat} {T : Tr} {Bs : List Nat}
abbrev trv (T : Tr) : Value := .agg #[.int .i64 (T.sent : Int), .int .i64 (T.twice : Int), .int .i64 (T.spoilt : Int), .int .i64 (T.taken : Int), .int .i64 (T.lost : Int)]
set_option maxRecDepth 100000 in
set_option maxHeartbeats 400000 in
theorem told_any (w : World) (h : Net w B hn Bs S room made T) : Calls Try.prog 10 #[.pointer (some ⟨hn, 0, none⟩)] w fun e w' => e = .returned (trv T) ∧ Below w.heap.size w w' := by
  obtain ⟨gm, rfl, h⟩ := h
  have hlt := h.hlt
  have c3 := h.at_ 3; have c4 := h.at_ 4; have c5 := h.at_ 5; have c6 := h.at_ 6; have c7 := h.at_ 7
  simp only [rowN, List.getElem?_toArray, List.getElem?_cons_succ, List.getElem?_cons_zero] at c3 c4 c5 c6 c7
  clear h
  go_enter Try.func10, Try.ntmps10
  go_wp2_with fail
  refine bodyPost_ret (v := trv T) (results_cell1 Try.results10 rfl ?_) rfl ⟨rfl, below_alloc (Below.refl _ _) _⟩
  go_simp
set_option maxRecDepth 100000 in
set_option maxHeartbeats 400000 in
theorem told_nil (w : World) : Calls Try.prog 10 #[.pointer none] w fun e w' => e = .returned (.agg #[.int .i64 0, .int .i64 0, .int .i64 0, .int .i64 0, .int .i64 0]) ∧ Below w.heap.size w w' := by
  go_enter Try.func10, Try.ntmps10
  go_wp2_with fail
  refine bodyPost_ret (v := .agg #[.int .i64 0, .int .i64 0, .int .i64 0, .int .i64 0, .int .i64 0]) (results_cell1 Try.results10 rfl ?_) rfl ⟨rfl, below_alloc (Below.refl _ _) _⟩
  go_simp
set_option maxHeartbeats 400000 in
theorem numbers_nil (f : Value) (w : World) : Calls Try.prog 31 #[.pointer none, f] w fun e w' => e = .returned (.slice none 0 0) ∧ w = w' := by
  go_enter Try.func31, Try.ntmps31
  go_wp2_with fail
  go_ret
  exact ⟨rfl, rfl⟩
set_option maxHeartbeats 400000 in
theorem list_nil (w : World) : Calls Try.prog 12 #[.pointer none] w fun e w' => e = .returned (.slice none 0 0) ∧ w = w' := by
  go_enter Try.func12, Try.ntmps12
  go_wp2_with fail
  refine (numbers_nil _ _).mono ?_; rintro e w1 ⟨rfl, rfl⟩
  go_wp2_with fail
  go_ret
  exact ⟨rfl, rfl⟩
set_option maxHeartbeats 400000 in
theorem forget_nil (w : World) (x : Int) : Calls Try.prog 19 #[.pointer none, .int .i64 x] w fun e w' => e = .returned (.int .i64 0) ∧ Below w.heap.size w w' := by
  go_enter Try.func19, Try.ntmps19
  go_wp2_with fail
  refine (numbers_nil _ _).mono ?_; rintro e w1 ⟨rfl, rfl⟩
  go_wp2_with fail
  refine wp_loop_rounds 1 ?_
  rw [rounds_succ]
  go_wp2_with fail
  go_ret
  exact ⟨rfl, below_alloc (Below.refl _ _) _⟩
theorem zpE : agv zp = zpk := rfl
theorem take_nil (w : World) (id : Nat) : Calls Try.prog 15 #[.pointer none, .int .u64 (id : Int)] w fun e w' => e = .returned (.tuple #[zpk, .int .i64 1]) ∧ Below w.heap.size w w' :=
  take_no w _ id zp 1 (by decide) (find_nil id _)
theorem lose_nil (w : World) (id : Nat) : Calls Try.prog 16 #[.pointer none, .int .u64 (id : Int)] w fun e w' => e = .returned (.int .i64 1) ∧ Below w.heap.size w w' :=
  lose_no w _ id zp 1 (by decide) (find_nil id _)
theorem twice_nil (w : World) (id : Nat) : Calls Try.prog 17 #[.pointer none, .int .u64 (id : Int)] w fun e w' => e = .returned (.tuple #[.int .u64 0, .int .i64 1]) ∧ Below w.heap.size w w' :=
  twice_no w _ id zp 1 (by decide) (find_nil id _)
theorem spoil_nil (w : World) (id : Nat) (a b : Int) : Calls Try.prog 18 #[.pointer none, .int .u64 (id : Int), .int .i64 a, .int .u8 b] w fun e w' => e = .returned (.int .i64 1) ∧ Below w.heap.size w w' :=
  spoil_no w _ id zp 1 a b (by decide) (find_nil id _)

set_option maxRecDepth 100000 in
set_option maxHeartbeats 4000000 in
theorem awake_any : Ret 6 #[] (.returned (.bool true)) := by
  intro w
  have hc := fun w => new_yes 2 (by omega) (by omega) w
  have C := Lib.hid hc; clear hc
  go_enter Try.func6, Try.ntmps6
  go_wp2_with fail
  refine (C.out _).mono ?_; rintro e w1 ⟨hn, Bs, rfl, h1, b1⟩
  have H1 := Lib.hid h1; have B1 := Lib.hid b1
  have HO := Lib.hid (Rd.lit w1 [97, 98] (by decide) (2, 3))
  have bb := below_alloc (Below.refl w1.heap.size w1) (.cells ⟨cs [97, 98]⟩ 5 (2, 3))
  have kc := fun (C : Array Value) (n c : Nat) => Lib.run_convert_bytes_const (P := Try.prog) w1 39 5 C n c Try.underlying39 Try.underlying5
  have hlt := fun q hq => (h1.blocks q hq).2
  have hnb : hn < w1.heap.size := by obtain ⟨gm, rfl, h2⟩ := h1; exact h2.hlt
  have SE := Lib.hid (send_yes (M := 1) (n := 2) (cap := 2) (w1.alloc (.cells ⟨cs [97, 98]⟩ 5 (2, 3))) 1 2 HO.out rfl (by omega) (by simp) rfl (by omega) (h1.below bb) (by simp [blk]; omega) (by decide))
  have BB := Lib.hid (below_next b1 bb)
  have HBS := Lib.hid (fun q hq => (h1.blocks q hq).1)
  clear h1 b1 bb hlt
  go_wp2_with fail
  refine SE.out.mono ?_; rintro e w2 ⟨ao, cap, Bs', rfl, h2, t2⟩
  have B2 := Lib.hid (BB.out.trans (t2.below BB.out.size HBS.out))
  have LK := Lib.hid (look_any w2 1 (by omega) h2)
  have CN := Lib.hid (fun w' (b : Below w2.heap.size w2 w') => count_any w' (h2.below b))
  clear h2 t2
  go_wp2_with fail
  refine LK.out.mono ?_; rintro e w3 ⟨ao3, cap3, he, _, b3⟩
  have he2 : e = .returned (.tuple #[.agg #[.int .u64 1, .int .i64 1, .int .i64 2, .slice ao3 2 cap3], .int .i64 0]) := he
  subst he2
  have CN3 := Lib.hid (CN.out _ (below_alloc b3 (.cells #[.int .u64 1, .int .i64 1, .int .i64 2, .slice ao3 2 cap3] 52)))
  have B3 := Lib.hid (below_alloc (below_next B2.out b3) (.cells #[.int .u64 1, .int .i64 1, .int .i64 2, .slice ao3 2 cap3] 52))
  clear b3 he CN LK
  go_wp2_with fail
  refine CN3.out.mono ?_; rintro e w4 ⟨rfl, rfl⟩
  go_wp2_with fail
  go_ret
  exact ⟨rfl, B3.out⟩
end
end Go.Proofs.Ythanjfnpohhebaa
