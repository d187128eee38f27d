/- find, Close; the statements' fault. -/
import Derived.Test.YtjhdlohcjodgjaaIs
namespace Go.Proofs.Ytjhdlohcjodgjaa
open Go.RowKit
set_option linter.unusedVariables false

theorem results_cell_tmp {P : Program} {fn : Func} {t s : Tmp} {u : TypeId} {tmps : Array Value} {w : World} {ad : Addr} {v x : Value} (h : fn.results = #[.cell t u, .tmp s]) (ht : tmps.getD t undef = .pointer (some ad))
    (hl : (loadVar u ad).run P w = .ok v w) (hx : tmps.getD s undef = x) : (results fn tmps).run P w = .ok (.tuple #[v, x]) w := by
  have ht' : tmps[t]?.getD undef = .pointer (some ad) := by simpa using ht
  have hx' : tmps[s]?.getD undef = x := by simpa using hx
  simp [results, h, ht', hl, asAddr, hx']
/-- an error lies at pb -/
structure ErrAt (w : World) (pb : Nat) (x : Int) : Prop where
  num : w.cell? ⟨pb, 0, none⟩ = some (.int .i64 x)
  txt : w.cell? ⟨pb, 1, none⟩ = some callS
  lt : pb < w.heap.size
theorem ErrAt.new (w : World) (x : Int) : ErrAt (w.alloc (.cells #[.int .i64 x, callS] 101)) w.heap.size x := ⟨by go_simp, by go_simp, by simp⟩
theorem ErrAt.below {w w' : World} {pb : Nat} {x : Int} (h : ErrAt w pb x) (b : Below w.heap.size w w') : ErrAt w' pb x :=
  ⟨(b.cell h.lt).trans h.num, (b.cell h.lt).trans h.txt, Nat.lt_of_lt_of_le h.lt b.size⟩
abbrev errV (pb : Nat) : Value := .iface 98 (.pointer (some ⟨pb, 0, none⟩))
/-- a call has answered with error x -/
def Failed (v : Value) (x : Int) (w : World) (e : Ending) (w' : World) : Prop := ∃ pb, e = .returned (.tuple #[v, errV pb]) ∧ ErrAt w' pb x ∧ w.heap.size ≤ pb ∧ Below w.heap.size w w'
section
variable {B hn gm made : Nat} {S : List Cal} {C : Cfg}
set_option maxRecDepth 100000 in
set_option maxHeartbeats 1000000 in
theorem find_nil (id : Int) (w : World) : Calls Try.prog 41 #[.pointer none, .int .u64 id] w (Failed zpk 1 w) := by
  go_enter Try.func41, Try.ntmps41
  go_wp2_with fail
  refine (fault_any _ _).mono ?_; rintro e w1 ⟨rfl, hw1⟩
  have hE := ErrAt.new (w.alloc (.cells zcells 70)) 1
  rw [← hw1] at hE
  have hb : Below w.heap.size w w1 := by rw [hw1]; exact below_alloc (below_alloc (Below.refl _ _) _) _
  have HE := Lib.hid hE; have HB := Lib.hid hb
  clear hE hb
  subst hw1
  go_wp2_with fail
  refine bodyPost_ret (v := .tuple #[zpk, errV ((w.alloc (.cells zcells 70)).heap.size)]) (results_cell_tmp Try.results41 rfl ?_ (by simp)) rfl ⟨_, rfl, ?_, by simp, ?_⟩
  · go_simp
  · exact HE.out
  · exact HB.out
set_option maxRecDepth 100000 in
set_option maxHeartbeats 1000000 in
theorem find_none (id : Nat) (hid : id < 18446744073709551616) (w : World) (h : CalsW w B hn gm S C made) (hl : look S id = none) : Calls Try.prog 41 #[.pointer (some ⟨hn, 0, none⟩), .int .u64 (id : Int)] w (Failed zpk 82 w) := by
  have c5 := h.at_ 5
  simp only [rowC, List.getElem?_toArray, List.getElem?_cons_succ, List.getElem?_cons_zero] at c5
  have hlk := (h.map.keep (Keep.of_below (below_alloc (Below.refl w.heap.size w) (.cells zcells 70)) []) (by simp)).look id hid
  rw [show fmap S id = none by simp [fmap, hl]] at hlk
  simp only [Option.map_none, Option.getD_none, Option.isSome_none] at hlk
  have hlt := h.hlt
  clear h hl
  go_enter Try.func41, Try.ntmps41
  go_wp2_with fail
  refine (fault_any _ _).mono ?_; rintro e w1 ⟨rfl, hw1⟩
  have hE := ErrAt.new ((w.alloc (.cells zcells 70)).alloc (.cells zcells 70)) 82
  rw [← hw1] at hE
  have hb : Below w.heap.size w w1 := by rw [hw1]; exact below_alloc (below_alloc (below_alloc (Below.refl _ _) _) _) _
  have HE := Lib.hid hE; have HB := Lib.hid hb
  clear hE hb
  subst hw1
  go_wp2_with fail
  refine bodyPost_ret (v := .tuple #[zpk, errV (((w.alloc (.cells zcells 70)).alloc (.cells zcells 70)).heap.size)]) (results_cell_tmp Try.results41 rfl ?_ (by simp)) rfl ⟨_, rfl, ?_, by simp; omega, ?_⟩
  · go_simp
  · exact HE.out
  · exact HB.out
set_option maxRecDepth 100000 in
set_option maxHeartbeats 1000000 in
theorem find_some (id : Nat) (hid : id < 18446744073709551616) (w : World) (h : CalsW w B hn gm S C made) {p : Cal} (hl : look S id = some p) : Calls Try.prog 41 #[.pointer (some ⟨hn, 0, none⟩), .int .u64 (id : Int)] w fun e w' => e = .returned (.tuple #[agv p, .nilIface]) ∧ Below w.heap.size w w' := by
  have c5 := h.at_ 5
  simp only [rowC, List.getElem?_toArray, List.getElem?_cons_succ, List.getElem?_cons_zero] at c5
  have hlk := (h.map.keep (Keep.of_below (below_alloc (Below.refl w.heap.size w) (.cells zcells 70)) []) (by simp)).look id hid
  rw [show fmap S id = some p.cells by simp [fmap, hl]] at hlk
  simp only [Option.map_some, Option.getD_some, Option.isSome_some] at hlk
  have hlt := h.hlt
  clear h hl
  go_enter Try.func41, Try.ntmps41
  go_wp2_with fail
  refine bodyPost_ret (v := .tuple #[agv p, .nilIface]) (results_cell_tmp Try.results41 rfl ?_ rfl) rfl ⟨rfl, ?_⟩
  · go_simp
  · exact below_alloc (below_alloc (Below.refl _ _) _) _
set_option maxRecDepth 100000 in
set_option maxHeartbeats 2000000 in
/-- the law's reading of an error -/
theorem lawfault_nil (w : World) : Calls Try.prog 27 #[.nilIface] w fun e w' => e = .returned (.tuple #[.int .i64 0, .bool true]) ∧ w = w' := by
  go_enter Try.func27, Try.ntmps27
  go_wp2_with fail
  go_ret2
  exact ⟨rfl, rfl⟩
theorem assertF (a : Addr) (xT : TypeId) (w : World) : (Instr.typeAssert (.iface 98 (.pointer (some a))) xT 98 true).run Try.prog w = .ok (.tuple #[.pointer (some a), .bool true]) w := by kernel_rfl
set_option maxRecDepth 100000 in
set_option maxHeartbeats 2000000 in
theorem lawfault_any (pb : Nat) (x : Int) (w : World) (h : ErrAt w pb x) : Calls Try.prog 27 #[errV pb] w fun e w' => e = .returned (.tuple #[.int .i64 x, .bool true]) ∧ Below w.heap.size w w' := by
  have hA := assertF ⟨pb, 0, none⟩
  have c0 := h.num; have c1 := h.txt
  have UW := Lib.hid (fun (d : Nat) (os : Array Obj) => Calls.regrown_of (same_below (unwrap_any x pb _ (h.below (below_regrown w d os)).num)))
  have EQ : ∀ w, (binOp .eql 72 (.iface 25 (.int .i64 x)) (.iface 25 (.int .i64 x))).run Try.prog w = .ok (.bool true) w := fun w => by have := run_eql_errno w x x; simpa using this
  have ES : ∀ w, (binOp .eql 9 callS callS).run Try.prog w = .ok (.bool true) w := fun w => by kernel_rfl
  have r0 := cell_regrown c0; have r1 := cell_regrown c1
  have hn : ∀ w, (binOp .eql 72 (errV pb) .nilIface).run Try.prog w = .ok (.bool false) w := fun w => by
    first
      | exact run_eql_iface_nil_right w _ _ Try.underlying72
      | (have h : ∀ d : Nat, (Op.equalIn (d + 1) 72 (errV pb) .nilIface).run Try.prog w = .ok false w := fun d => by simp [Op.equalIn, run_underlying Try.underlying72]
         simp only [binOp]
         simp [Op.equal, Op.maxDepth, h 9999])
  clear h
  go_enter Try.func27, Try.ntmps27
  go_wp2_with fail
  refine wp_region_quiet_below (by kernel_rfl) (by kernel_rfl) ?_
  repeat (go_big_quiet_step (exact UW.out _ _))
  refine wpQuiet_nil ?_
  intro _ hw'
  obtain ⟨⟨dq, osq⟩, hw''⟩ := hw'
  subst hw''
  have lk := Lib.hid (below_regrown w dq osq)
  go_wp2_with fail
  go_ret2
  exact ⟨rfl, lk.out⟩
end
end Go.Proofs.Ytjhdlohcjodgjaa
