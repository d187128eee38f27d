/- New, find, Wait, Leave. -/
import Derived.Test.YtlfnkplgjlpaaaaPeers
import Derived.Laws.IdiomMaps
namespace Go.Proofs.Ytlfnkplgjlpaaaa
open Go.RowKit Go.Sort
set_option linter.unusedVariables false

abbrev nodeO : Obj := .cells zcells 76
theorem wf_small {x : Int} (h0 : -9223372036854775808 ≤ x) (h1 : x ≤ 9223372036854775807) : (Lit.int .i64 x).wf = true := by
  simp [Lit.wf, IntKind.min, IntKind.max, IntKind.signed, IntKind.bits]; omega
theorem DetW.new (w : World) (guess : Nat) (hg : 1 ≤ guess ∧ guess ≤ 4096) : DetW (w.alloc (.cells #[.int .i64 (guess : Int), .map none] 67)) w.heap.size w.heap.size none [] guess :=
  ⟨rfl, heap_alloc_new w _, Nat.le_refl _, (by intro gm h; cases h), List.Pairwise.nil, (by simp), (by simp), hg⟩
set_option maxHeartbeats 800000 in
theorem new_yes (guess : Nat) (hg : 1 ≤ guess ∧ guess ≤ 4096) (w : World) : Calls Try.prog 9 #[.int .i64 (guess : Int)] w fun e w' =>
    ∃ hn, e = .returned (.tuple #[.pointer (some ⟨hn, 0, none⟩), .int .i64 0]) ∧ Det w' w.heap.size hn [hn] [] guess ∧ Below w.heap.size w w' := by
  have C := within64 (guess : Int) 1 4096 (by omega) w
  rw [show decide (1 ≤ (guess : Int) ∧ (guess : Int) ≤ 4096) = true by simp; omega] at C
  have HN := Lib.hid (DetW.new w guess hg)
  clear hg
  go_enter Try.func9, Try.ntmps9
  go_wp2_with fail
  refine C.mono ?_; rintro e w1 ⟨rfl, rfl⟩
  go_wp2_with fail
  go_ret2
  exact ⟨_, rfl, ⟨none, rfl, HN.out⟩, below_alloc (Below.refl _ _) _⟩
set_option maxHeartbeats 800000 in
theorem new_no (guess : Int) (hg : ¬ (1 ≤ guess ∧ guess ≤ 4096)) (w : World) : Calls Try.prog 9 #[.int .i64 guess] w fun e w' => e = .returned (.tuple #[.pointer none, .int .i64 1]) ∧ w = w' := by
  have C := within64 guess 1 4096 (by omega) w
  rw [show decide (1 ≤ guess ∧ guess ≤ 4096) = false by simpa using hg] at C
  clear hg
  go_enter Try.func9, Try.ntmps9
  go_wp2_with fail
  refine C.mono ?_; rintro e w1 ⟨rfl, rfl⟩
  go_wp2_with fail
  go_ret2
  exact ⟨rfl, rfl⟩

/-- what find answers -/
def findE (S : List Nd) (id : Int) : Value := match look S id with | some p => .tuple #[agv p, .int .i64 0] | none => .tuple #[znd, .int .i64 92]
set_option maxHeartbeats 800000 in
theorem find_nil (id : Int) (w : World) : Calls Try.prog 35 #[.pointer none, .int .i64 id] w fun e w' => e = .returned (.tuple #[znd, .int .i64 1]) ∧ Below w.heap.size w w' := by
  go_enter Try.func35, Try.ntmps35
  go_wp2_with fail
  refine bodyPost_ret (v := .tuple #[znd, .int .i64 1]) (results_cell_tmp Try.results35 rfl ?_ rfl) rfl ⟨rfl, ?_⟩
  · go_simp
  · exact below_alloc (Below.refl _ _) _
section
variable {w w' : World} {B hn guess : Nat} {mg : Option Nat} {S : List Nd} {Bs : List Nat}
set_option maxRecDepth 100000 in
set_option maxHeartbeats 1600000 in
theorem find_any (id : Int) (hid : (Lit.int .i64 id).wf = true) (w : World) (h : Det w B hn Bs S guess) : Calls Try.prog 35 #[.pointer (some ⟨hn, 0, none⟩), .int .i64 id] w fun e w' => e = .returned (findE S id) ∧ Below w.heap.size w w' := by
  obtain ⟨mg, rfl, h⟩ := h
  have c1 := h.at1
  have hl := (h.below (below_alloc (Below.refl w.heap.size w) nodeO)).map.look id hid
  have hlt := h.hlt
  clear h
  unfold findE
  cases hk : look S id with
  | none =>
    rw [hk] at hl
    simp only [Option.map_none, Option.getD_none, Option.isSome_none] at hl
    go_enter Try.func35, Try.ntmps35
    go_wp2_with fail
    refine bodyPost_ret (v := .tuple #[znd, .int .i64 92]) (results_cell_tmp Try.results35 rfl ?_ rfl) rfl ⟨rfl, ?_⟩
    · go_simp
    · exact below_alloc (below_alloc (Below.refl _ _) _) _
  | some p =>
    rw [hk] at hl
    simp only [Option.map_some, Option.getD_some, Option.isSome_some] at hl
    obtain ⟨pid, last, mean, marg, bad⟩ := p
    go_enter Try.func35, Try.ntmps35
    go_wp2_with fail
    refine bodyPost_ret (v := .tuple #[agv _, .int .i64 0]) (results_cell_tmp Try.results35 rfl ?_ rfl) rfl ⟨rfl, ?_⟩
    · go_simp
    · exact below_alloc (below_alloc (Below.refl _ _) _) _

set_option maxHeartbeats 800000 in
theorem waitM_nil (id : Int) (w : World) : Calls Try.prog 15 #[.pointer none, .int .i64 id] w fun e w' => e = .returned (.tuple #[.int .i64 0, .int .i64 1]) ∧ Below w.heap.size w w' := by
  have C := Lib.hid (find_nil id w)
  go_enter Try.func15, Try.ntmps15
  go_wp2_with fail
  refine C.out.mono ?_; rintro e w1 ⟨rfl, b1⟩
  go_wp2_with fail
  go_ret2
  exact ⟨rfl, below_alloc b1 _⟩
set_option maxHeartbeats 800000 in
theorem waitM_no (id : Int) (hid : (Lit.int .i64 id).wf = true) (w : World) (h : Det w B hn Bs S guess) (hl : look S id = none) : Calls Try.prog 15 #[.pointer (some ⟨hn, 0, none⟩), .int .i64 id] w fun e w' => e = .returned (.tuple #[.int .i64 0, .int .i64 92]) ∧ Below w.heap.size w w' := by
  have C := find_any id hid w h
  unfold findE at C; rw [hl] at C
  have C := Lib.hid C
  clear h hl
  go_enter Try.func15, Try.ntmps15
  go_wp2_with fail
  refine C.out.mono ?_; rintro e w1 ⟨rfl, b1⟩
  go_wp2_with fail
  go_ret2
  exact ⟨rfl, below_alloc b1 _⟩
set_option maxHeartbeats 800000 in
theorem waitM_yes (id : Int) (hid : (Lit.int .i64 id).wf = true) (w : World) (h : Det w B hn Bs S guess) {n : Nd} (hl : look S id = some n) (hok : n.Ok) : Calls Try.prog 15 #[.pointer (some ⟨hn, 0, none⟩), .int .i64 id] w fun e w' => e = .returned (.tuple #[.int .i64 (n.wait : Int), .int .i64 0]) ∧ Below w.heap.size w w' := by
  have C := find_any id hid w h
  unfold findE at C; rw [hl] at C
  have W1 := Lib.hid (show Ret _ _ _ from fun w => wait_any n hok w)
  generalize n.wait = wt at *
  obtain ⟨pid, last, mean, marg, bad⟩ := n
  have C := Lib.hid C
  clear h hl hok
  go_enter Try.func15, Try.ntmps15
  go_wp2_with fail
  refine C.out.mono ?_; rintro e w1 ⟨rfl, b1⟩
  have B1 := Lib.hid b1; clear b1
  go_wp2_with fail
  refine (W1.out _).mono ?_; rintro e w2 ⟨rfl, b2⟩
  go_wp2_with fail
  go_ret2
  exact ⟨rfl, below_next (below_alloc B1.out _) b2⟩

theorem DetW.delMap (h : DetW w B hn mg S guess) {id : Int} (hid : (Lit.int .i64 id).wf = true) {n : Nd} (hl : look S id = some n) (ty : TypeId) :
    ∃ gm w', mg = some gm ∧ (Builtin.delete_ #[65, 3] ty #[.map mg, .int .i64 id]).run Try.prog w = .ok (.tuple #[]) w' ∧ DetW w' B hn mg (wo S id) guess ∧ Keep [gm] w w' := by
  cases mg with
  | none =>
    obtain rfl : S = [] := h.map
    cases hl
  | some gm =>
    obtain ⟨w', h1, h2, h3⟩ := MapV.del h.map id hid ty
    rw [show (fmap S id).isSome = true by simp [fmap, hl], fmap_wo] at h2
    have hlen := wo_len h.inc hl
    have hg := h.gbase gm rfl
    refine ⟨gm, w', rfl, h1, ⟨?_, (h3.block hn h.hlt (by simpa using (Ne.symm hg.2))).trans h.row, h.base, h.gbase, wo_inc h.inc id, fun x hx => h.ok x (wo_mem.1 hx).1, by have := h.few; omega, h.g⟩, h3⟩
    show MapV w' gm (wo S id).length (fmap (wo S id))
    rw [show (wo S id).length = S.length - 1 by omega]
    exact h2
/-- delete(m, id) -/
theorem wpList_del {w w' : World} {ops : Array Oper} {rest : List Oper} {o : Oper} {a : Act} {Q : Exit → Act → World → Prop} (hgd : o.guard = none) (m k : Operand)
    (ho : o.op = .call { callee := .builtin .delete, args := #[m, k], argTypes := #[65, 3] }) {id : Int} (hm : a.eval m = .map mg) (hk : a.eval k = .int .i64 id)
    (hr : (Builtin.delete_ #[65, 3] o.type #[.map mg, .int .i64 id]).run Try.prog w = .ok (.tuple #[]) w') (h : wpList Try.prog ops Q rest (a.put o.dst (.tuple #[])) w') : wpList Try.prog ops Q (o :: rest) a w := by
  refine wpList_plain hgd fun K hK => ?_
  unfold Oper.wp execOp
  simp only [ho, resolve, invoke, builtin, Sem.run_bind, Sem.run_pure, Result.andThen_ok, List.map_toArray, List.map_cons, List.map_nil, hm, hk, hr]
  exact hK _ _ h
set_option maxHeartbeats 800000 in
theorem leave_nil (id : Int) (w : World) : Calls Try.prog 16 #[.pointer none, .int .i64 id] w fun e w' => e = .returned (.int .i64 1) ∧ Below w.heap.size w w' := by
  have C := Lib.hid (find_nil id w)
  go_enter Try.func16, Try.ntmps16
  go_wp2_with fail
  refine C.out.mono ?_; rintro e w1 ⟨rfl, b1⟩
  go_wp2_with fail
  go_ret
  exact ⟨rfl, below_alloc b1 _⟩
set_option maxHeartbeats 800000 in
theorem leave_no (id : Int) (hid : (Lit.int .i64 id).wf = true) (w : World) (h : Det w B hn Bs S guess) (hl : look S id = none) : Calls Try.prog 16 #[.pointer (some ⟨hn, 0, none⟩), .int .i64 id] w fun e w' => e = .returned (.int .i64 92) ∧ Below w.heap.size w w' := by
  have C := find_any id hid w h
  unfold findE at C; rw [hl] at C
  have C := Lib.hid C
  clear h hl
  go_enter Try.func16, Try.ntmps16
  go_wp2_with fail
  refine C.out.mono ?_; rintro e w1 ⟨rfl, b1⟩
  go_wp2_with fail
  go_ret
  exact ⟨rfl, below_alloc b1 _⟩
set_option maxHeartbeats 1600000 in
theorem leave_yes (id : Int) (hid : (Lit.int .i64 id).wf = true) (w : World) (h : Det w B hn Bs S guess) {n : Nd} (hl : look S id = some n) : Calls Try.prog 16 #[.pointer (some ⟨hn, 0, none⟩), .int .i64 id] w fun e w' => e = .returned (.int .i64 0) ∧ Det w' B hn Bs (wo S id) guess ∧ Turned Bs Bs w w' := by
  have C := find_any id hid w h
  unfold findE at C; rw [hl] at C
  have H := Lib.hid h
  have HL := Lib.hid hl
  obtain ⟨pid, last, mean, marg, bad⟩ := n
  have C := Lib.hid C
  clear h hl
  go_enter Try.func16, Try.ntmps16
  go_wp2_with fail
  refine C.out.mono ?_; rintro e w1 ⟨rfl, b1⟩
  have B2 := Lib.hid (below_alloc b1 (.cells #[.int .i64 (last : Int), .int .i64 (mean : Int), .int .i64 (marg : Int), .bool bad] 76))
  obtain ⟨mg, hBs, h2⟩ := H.out.below B2.out
  have c1 := h2.at1
  have c1' : w1.cell? ⟨hn, 1, none⟩ = some (.map mg) := by
    obtain ⟨mg', hBs', h1⟩ := H.out.below b1
    have : mg' = mg := by rw [hBs'] at hBs; simp at hBs; cases mg <;> cases mg' <;> simp_all
    rw [← this]; exact h1.at1
  have hlt := (H.out.blocks hn (by rw [hBs]; simp)).2
  have hlt1 := Nat.lt_of_lt_of_le hlt b1.size
  obtain ⟨gm, w3, hgm, hr, h3, k3⟩ := h2.delMap hid HL.out 0
  have HD := Lib.hid hr
  have H3 := Lib.hid h3; have K3 := Lib.hid k3; have HBs := Lib.hid hBs; have HG := Lib.hid hgm
  clear hr h3 k3 hBs b1 h2 hgm C
  go_wp2_with (at_delete; refine wpList_del rfl (.tmp 18) (.tmp 19) rfl rfl rfl HD.out ?_)
  go_ret
  refine ⟨rfl, ⟨mg, HBs.out, H3.out⟩, ⟨(Keep.of_below B2.out _).trans (K3.out.mono fun q hq => .inl ?_), fun q hq => .inl hq⟩⟩
  rw [HBs.out, HG.out]
  simpa using .inr (by simpa using hq)
end
end Go.Proofs.Ytlfnkplgjlpaaaa
