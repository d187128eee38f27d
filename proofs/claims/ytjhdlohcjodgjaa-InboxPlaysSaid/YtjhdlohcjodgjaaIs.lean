/- errors.Is; fault. (Go.method's first number is the seat's number of types + 100.) -/
import Derived.Test.YtjhdlohcjodgjaaAwake
import Derived.LaidEql
import Derived.Stop.Asserts
import Derived.RowKitTokens
namespace Go.Proofs.Ytjhdlohcjodgjaa
open Go.RowKit Go.Extern.Stop Go.Stop Go.Extern
set_option linter.unusedVariables false

abbrev callS : Value := .string { data := #[99, 97, 108, 108] }
theorem is_typeOf (v : Value) (w : World) : (Extern.ReflectliteType.typeOf #[.iface 25 v]).run Try.prog w = .ok (.iface 118 (.agg #[.pointer (some ⟨0, 25, none⟩)])) w := by kernel_rfl
def cmpX : Array Value → Sem Value := Extern.ReflectliteType.method fun t => do Go.Extern.Rtype.noPackHeld "Comparable" t; pure (.bool (← typeInfo t).comparable)
theorem is_comparable (w : World) : (cmpX #[.agg #[.pointer (some ⟨0, 25, none⟩)]]).run Try.prog w = .ok (.bool true) w := by kernel_rfl
theorem is_mComparable (v : Value) (w : World) : (Go.method 279 118 v "Comparable").run Try.prog w = .ok (93, v) w := by kernel_rfl
theorem is_mUnwrap (v : Value) (w : World) : (Go.method 279 98 v "Unwrap").run Try.prog w = .ok (45, v) w := by kernel_rfl
theorem noIsF (v : Value) (xT : TypeId) (w : World) : (Instr.typeAssert (.iface 98 v) xT 120 true).run Try.prog w = .ok (.tuple #[.nilIface, .bool false]) w := run_typeAssert_lacksB Try.underlying120 (by kernel_rfl) (by kernel_rfl) v xT w
theorem hasUnwrapF (v : Value) (xT : TypeId) (w : World) : (Instr.typeAssert (.iface 98 v) xT 123 true).run Try.prog w = .ok (.tuple #[.iface 98 v, .bool true]) w := run_typeAssert_hasB Try.underlying123 (by kernel_rfl) v xT w
theorem noIsE (v : Value) (xT : TypeId) (w : World) : (Instr.typeAssert (.iface 25 v) xT 120 true).run Try.prog w = .ok (.tuple #[.nilIface, .bool false]) w := run_typeAssert_lacksB Try.underlying120 (by kernel_rfl) (by kernel_rfl) v xT w
theorem noUnwrapE (v : Value) (xT : TypeId) (w : World) : (Instr.typeAssert (.iface 25 v) xT 123 true).run Try.prog w = .ok (.tuple #[.nilIface, .bool false]) w := run_typeAssert_lacksB Try.underlying123 (by kernel_rfl) (by kernel_rfl) v xT w
theorem noUnwrapsE (v : Value) (xT : TypeId) (w : World) : (Instr.typeAssert (.iface 25 v) xT 124 true).run Try.prog w = .ok (.tuple #[.nilIface, .bool false]) w := run_typeAssert_lacksB Try.underlying124 (by kernel_rfl) (by kernel_rfl) v xT w
set_option maxHeartbeats 400000 in
theorem fault_any (x : Int) (w : World) : Calls Try.prog 43 #[.int .i64 x] w fun e w' => e = .returned (.iface 98 (.pointer (some ⟨w.heap.size, 0, none⟩))) ∧ w' = w.alloc (.cells #[.int .i64 x, callS] 101) := by
  go_enter Try.func43, Try.ntmps43
  go_wp2_with fail
  go_ret
  exact ⟨rfl, rfl⟩
set_option maxHeartbeats 400000 in
theorem unwrap_any (x : Int) (pb : Nat) (w : World) (h : w.cell? ⟨pb, 0, none⟩ = some (.int .i64 x)) : Calls Try.prog 45 #[.pointer (some ⟨pb, 0, none⟩)] w fun e w' => e = .returned (.iface 25 (.int .i64 x)) ∧ w = w' := by
  go_enter Try.func45, Try.ntmps45
  go_wp2_with fail
  go_ret
  exact ⟨rfl, rfl⟩
set_option maxHeartbeats 800000 in
theorem is_nil (y : Int) (w : World) : Calls Try.prog 42 #[.nilIface, .iface 25 (.int .i64 y)] w fun e w' => e = .returned (.bool false) ∧ w = w' := by
  have hn := run_eql_iface_nil_left (P := Try.prog) w 25 (.int .i64 y) Try.underlying72
  go_enter Try.func42, Try.ntmps42
  go_wp2_with fail
  go_ret
  exact ⟨rfl, rfl⟩
theorem errno_comp : (Try.prog.info? 25).map (·.comparable) = some true := by kernel_rfl
theorem run_eql_errno (w : World) (x y : Int) : (binOp .eql 72 (.iface 25 (.int .i64 x)) (.iface 25 (.int .i64 y))).run Try.prog w = .ok (.bool (x == y)) w := by
  obtain ⟨i, hi, hc⟩ := Option.map_eq_some_iff.1 errno_comp
  have h : ∀ d : Nat, (Op.equalIn (d + 2) 72 (.iface 25 (.int .i64 x)) (.iface 25 (.int .i64 y))).run Try.prog w = .ok (x == y) w := fun d => by
    simp [Op.equalIn, run_underlying Try.underlying72, run_underlying Try.underlying25, typeInfo, hi, hc]
  simp only [binOp]
  simp [Op.equal, Op.maxDepth, h 9998]
set_option maxRecDepth 100000 in
set_option maxHeartbeats 2000000 in
theorem isin_fault (pb : Nat) (x y : Int) (w : World) (h : w.cell? ⟨pb, 0, none⟩ = some (.int .i64 x)) :
    Calls Try.prog 52 #[.iface 98 (.pointer (some ⟨pb, 0, none⟩)), .iface 25 (.int .i64 y), .bool true] w fun e w' => e = .returned (.bool (decide (x = y))) ∧ w = w' := by
  have mU := is_mUnwrap
  have n1 := noIsF
  have n2 := hasUnwrapF
  have n3 := noIsE
  have n4 := noUnwrapE
  have n5 := noUnwrapsE
  have hty := run_eql_iface_types (P := Try.prog) 98 25 (.pointer (some ⟨pb, 0, none⟩)) (.int .i64 y) Try.underlying72 (by decide) w
  have heq := run_eql_errno w x y
  by_cases hxy : x = y
  · subst hxy
    rw [show (x == x) = true by simp] at heq
    go_enter Try.func52, Try.ntmps52
    go_wp2_with fail
    refine wp_loop_rounds 2 ?_
    rw [rounds_succ]
    go_wp2_with (go_at_call 45; refine (unwrap_any _ _ _ h).mono ?_; rintro e w1 ⟨rfl, rfl⟩)
    rw [rounds_succ]
    go_wp2_with fail
    go_ret
    exact ⟨ret_bool (by simp), rfl⟩
  · rw [show (x == y) = false by simpa using hxy] at heq
    go_enter Try.func52, Try.ntmps52
    go_wp2_with fail
    refine wp_loop_rounds 2 ?_
    rw [rounds_succ]
    go_wp2_with (go_at_call 45; refine (unwrap_any _ _ _ h).mono ?_; rintro e w1 ⟨rfl, rfl⟩)
    rw [rounds_succ]
    go_wp2_with fail
    go_ret
    exact ⟨ret_bool (by simp [hxy]), rfl⟩
set_option maxRecDepth 100000 in
set_option maxHeartbeats 2000000 in
theorem is_fault (pb : Nat) (x y : Int) (w : World) (h : w.cell? ⟨pb, 0, none⟩ = some (.int .i64 x)) :
    Calls Try.prog 42 #[.iface 98 (.pointer (some ⟨pb, 0, none⟩)), .iface 25 (.int .i64 y)] w fun e w' => e = .returned (.bool (decide (x = y))) ∧ w = w' := by
  have h8 := @run_callFunc_extern Try.prog 51 _ Extern.ReflectliteType.typeOf Try.func51 (by kernel_rfl) (by kernel_rfl) (by kernel_rfl) (by kernel_rfl)
  have h32 := @run_callFunc_extern Try.prog 93 _ cmpX Try.func93 (by kernel_rfl) (by kernel_rfl) (by kernel_rfl) (by kernel_rfl)
  have tT := is_typeOf
  have cT := is_comparable
  have mR := is_mComparable
  have C1 := Lib.hid (isin_fault pb x y w h)
  have hty := run_eql_iface_types (P := Try.prog) 98 25 (.pointer (some ⟨pb, 0, none⟩)) (.int .i64 y) Try.underlying72 (by decide) w
  go_enter Try.func42, Try.ntmps42
  go_wp2_with fail
  refine C1.out.mono ?_; rintro e w1 ⟨rfl, rfl⟩
  go_wp2_with fail
  go_ret
  exact ⟨rfl, rfl⟩
end Go.Proofs.Ytjhdlohcjodgjaa
