/- Is a number among these? Are all bytes zero? The table of fields; a field's function, any of the 22 (gen_fields.py). -/
import Derived.Test.YtngcbpgafjnfaaaGreatDoorLoB18
import Derived.Test.YtngcbpgafjnfaaaGreatDoorLoB16
import Derived.Deep.WholeRow
set_option linter.unusedSimpArgs false
set_option linter.unusedVariables false

namespace Go.Proofs.YtngcbpgafjnfaaaGreatDoor
open Go.RowKit
set_option linter.unusedVariables false

set_option maxHeartbeats 1000000 in
theorem index_any (ao : Option Addr) (n cap : Nat) (l : List Nat) (hl : l.length = n) (hn : n ≤ 100) (hb : ∀ x ∈ l, x < 1000) (i : Nat) (hi : i < 1000) (w : World) (hr : RdI w ao l) :
    Calls Tryz.prog 133 #[.slice ao n cap, .int .i64 (i : Int)] w fun e w' => (∃ z : Int, e = .returned (.int .i64 z) ∧ (0 ≤ z ↔ i ∈ l)) ∧ w = w' := by
  have HR := Lib.hid hr; have HL := Lib.hid hl; have HB := Lib.hid hb
  clear hr hl hb
  go_enter Tryz.func133, Tryz.ntmps133
  go_wp2_with fail
  go_loop [8] (fun j => ∃ k : Nat, k ≤ n ∧ j = .int .i64 (k : Int) ∧ i ∉ l.take k) (fun j => n - (intOf j).toNat)
  case atStart => exact ⟨0, by omega, rfl, by simp⟩
  case round =>
    obtain ⟨k, hk, rfl, hni⟩ := hrel
    have HNI := Lib.hid hni
    clear hni
    by_cases hlt : k < n
    · have hx : l[k]? = some (l[k]'(by rw [HL.out]; exact hlt)) := List.getElem?_eq_getElem _
      generalize l[k]'(by rw [HL.out]; exact hlt) = x at hx
      obtain ⟨g, o, rfl, hg, hc⟩ := HR.out k x hx
      have hxb := HB.out x (List.mem_of_getElem? hx)
      have HX := Lib.hid hx
      clear hx
      by_cases he : i = x
      · subst he
        go_wp2_with fail
        go_ret
        refine ⟨⟨(k : Int), rfl, ?_⟩, rfl⟩
        exact (iff_of_true (by omega) (List.mem_of_getElem? HX.out))
      · have hd : ((i : Int) == (x : Int)) = false := by simp; omega
        go_wp2_with fail
        refine ⟨⟨k + 1, by omega, by go_num, ?_⟩, by simp [intOf]; omega⟩
        rw [List.take_add_one, HX.out]
        simp only [Option.toList_some, List.mem_append, List.mem_singleton, not_or]
        exact ⟨HNI.out, he⟩
    · obtain rfl : n = k := by omega
      go_wp2_with fail
      go_ret
      refine ⟨⟨-1, rfl, ?_⟩, rfl⟩
      have h9 := HNI.out
      rw [List.take_of_length_le (by rw [HL.out]; exact Nat.le_refl _)] at h9
      exact (iff_of_false (by decide) h9)
theorem contains_any (ao : Option Addr) (n cap : Nat) (l : List Nat) (hl : l.length = n) (hn : n ≤ 100) (hb : ∀ x ∈ l, x < 1000) (i : Nat) (hi : i < 1000) (w : World) (hr : RdI w ao l) :
    Calls Tryz.prog 70 #[.slice ao n cap, .int .i64 (i : Int)] w fun e w' => e = .returned (.bool (decide (i ∈ l))) ∧ w = w' := by
  have C := Lib.hid (index_any ao n cap l hl hn hb i hi w hr)
  clear hr hl hb
  go_enter Tryz.func70, Tryz.ntmps70
  go_wp2_with fail
  refine C.out.mono ?_
  rintro e w' ⟨⟨z, rfl, hz⟩, rfl⟩
  have HZ := Lib.hid hz
  clear hz
  go_wp2_with fail
  go_ret
  exact ⟨ret_bool (decide_eq_decide.2 HZ.out), rfl⟩

set_option maxHeartbeats 1000000 in
theorem indexfunc_any (ao : Option Addr) (n cap : Nat) (l : List Nat) (hl : l.length = n) (hn : n ≤ 9223372036854775807) (w : World) (hr : Rd w ao l) :
    Calls Tryz.prog 171 #[.slice ao n cap, .func (.func 135) #[] #[]] w fun e w' => (∃ z : Int, e = .returned (.int .i64 z) ∧ decide (0 ≤ z) = !l.all (· == 0)) ∧ w = w' := by
  have HR := Lib.hid hr; have HL := Lib.hid hl
  clear hr hl
  go_enter Tryz.func171, Tryz.ntmps171
  go_wp2_with fail
  go_loop [8] (fun j => ∃ k : Nat, k ≤ n ∧ j = .int .i64 (k : Int) ∧ (l.take k).all (· == 0) = true) (fun j => n - (intOf j).toNat)
  case atStart => exact ⟨0, by omega, rfl, by simp⟩
  case round =>
    obtain ⟨k, hk, rfl, hni⟩ := hrel
    have HNI := Lib.hid hni
    clear hni
    by_cases hlt : k < n
    · obtain ⟨g, o, rfl, hg, hc⟩ := HR.out.at_ k (by rw [HL.out]; exact hlt)
      have hxb := HR.out.byte k
      have HX := Lib.hid (bt_get (l := l) (k := k) (by rw [HL.out]; exact hlt))
      generalize bt l k = x at *
      by_cases he : x = 0
      · subst he
        go_wp2
        refine ⟨⟨k + 1, by omega, by go_num, ?_⟩, by simp [intOf]; omega⟩
        rw [List.take_add_one, HX.out]
        simp only [Option.toList_some, List.all_append, HNI.out]; rfl
      · have hd : ((x : Int) != 0) = true := by simp; omega
        go_wp2
        go_ret
        refine ⟨⟨(k : Int), rfl, ?_⟩, rfl⟩
        have : l.all (· == 0) = false := by
          rw [List.all_eq_false]
          exact ⟨x, List.mem_of_getElem? HX.out, by simpa using he⟩
        rw [this, decide_eq_true (by omega)]; rfl
    · obtain rfl : n = k := by omega
      go_wp2_with fail
      go_ret
      refine ⟨⟨-1, rfl, ?_⟩, rfl⟩
      have h9 := HNI.out
      rw [List.take_of_length_le (by rw [HL.out]; exact Nat.le_refl _)] at h9
      rw [h9]; decide
theorem iszero_any (ao : Option Addr) (n cap : Nat) (l : List Nat) (hl : l.length = n) (hn : n ≤ 9223372036854775807) (w : World) (hr : Rd w ao l) :
    Calls Tryz.prog 71 #[.slice ao n cap] w fun e w' => e = .returned (.bool (l.all (· == 0))) ∧ w = w' := by
  have C := Lib.hid (indexfunc_any ao n cap l hl hn w hr)
  clear hr hl
  go_enter Tryz.func71, Tryz.ntmps71
  go_wp2_with (first | (go_at_call 134; go_in) | (go_at_call 171; refine C.out.mono ?_; rintro e w' ⟨⟨z, rfl, hz⟩, rfl⟩; have HZ := Lib.hid hz; clear hz))
  go_ret
  exact ⟨ret_bool (by rw [HZ.out]; simp), rfl⟩
theorem iskind_any (k : Int) (h1 : -9223372036854775808 ≤ k) (h2 : k ≤ 9223372036854775807) (w : World) : Calls Tryz.prog 66 #[.int .i64 k] w fun e w' => e = .returned (.bool (decide (1 ≤ k ∧ k ≤ 23))) ∧ w = w' := by
  by_cases ha : 0 < k
  · by_cases hb : k < 24
    all_goals
      go_enter Tryz.func66, Tryz.ntmps66
      go_wp2
      go_ret
      refine ⟨ret_bool ?_, rfl⟩
      first
        | (rw [decide_eq_true (by omega)]; done)
        | (rw [decide_eq_false (by omega)]; done)
        | (symm; rw [decide_eq_true_iff]; omega)
        | (symm; rw [decide_eq_false_iff_not]; omega)
        | (simp; omega)
  · go_enter Tryz.func66, Tryz.ntmps66
    go_wp2
    go_ret
    refine ⟨ret_bool ?_, rfl⟩
    first
      | (symm; rw [decide_eq_false_iff_not]; omega)
      | (simp; omega)
end Go.Proofs.YtngcbpgafjnfaaaGreatDoor


namespace Go.Proofs.YtngcbpgafjnfaaaGreatDoor
open Go.RowKit
set_option linter.unusedVariables false

def namesB : List ByteArray := [⟨#[102, 114, 111, 109]⟩, ⟨#[116, 111]⟩, ⟨#[105, 110, 115, 116]⟩, ⟨#[98, 97, 108, 108, 111, 116]⟩, ⟨#[97, 99, 99, 101, 112, 116, 101, 100]⟩, ⟨#[118, 97, 108, 117, 101]⟩, ⟨#[116, 120]⟩, ⟨#[105, 100]⟩, ⟨#[105, 110, 100, 101, 120]⟩, ⟨#[114, 111, 117, 110, 100]⟩, ⟨#[98, 117, 99, 107, 101, 116]⟩, ⟨#[114, 101, 112, 108, 105, 99, 97]⟩, ⟨#[111, 102]⟩, ⟨#[105, 110, 99]⟩, ⟨#[118, 111, 116, 101]⟩, ⟨#[97, 110, 115, 119, 101, 114]⟩, ⟨#[99, 111, 112, 121]⟩, ⟨#[97, 114, 99]⟩, ⟨#[99, 111, 112, 105, 101, 115]⟩, ⟨#[112, 111, 115]⟩, ⟨#[104, 111, 112, 115]⟩, ⟨#[112, 101, 101, 114, 115]⟩]
def nameB (k : Nat) : ByteArray := namesB.getD k ⟨#[]⟩
def codeFns : List Nat := [96, 97, 98, 100, 102, 104, 106, 108, 110, 111, 112, 114, 116, 117, 118, 120, 122, 124, 125, 127, 129, 130]
def codeFn (k : Nat) : Nat := codeFns.getD k 0
abbrev fieldV (k : Nat) : Value := .agg #[.string (nameB k), .func (.func (codeFn k)) #[] #[]]
def tableCells : Array Value := #[.string ⟨#[102, 114, 111, 109]⟩, .func (.func 96) #[] #[], .string ⟨#[116, 111]⟩, .func (.func 97) #[] #[], .string ⟨#[105, 110, 115, 116]⟩, .func (.func 98) #[] #[], .string ⟨#[98, 97, 108, 108, 111, 116]⟩, .func (.func 100) #[] #[], .string ⟨#[97, 99, 99, 101, 112, 116, 101, 100]⟩, .func (.func 102) #[] #[], .string ⟨#[118, 97, 108, 117, 101]⟩, .func (.func 104) #[] #[], .string ⟨#[116, 120]⟩, .func (.func 106) #[] #[], .string ⟨#[105, 100]⟩, .func (.func 108) #[] #[], .string ⟨#[105, 110, 100, 101, 120]⟩, .func (.func 110) #[] #[], .string ⟨#[114, 111, 117, 110, 100]⟩, .func (.func 111) #[] #[], .string ⟨#[98, 117, 99, 107, 101, 116]⟩, .func (.func 112) #[] #[], .string ⟨#[114, 101, 112, 108, 105, 99, 97]⟩, .func (.func 114) #[] #[], .string ⟨#[111, 102]⟩, .func (.func 116) #[] #[], .string ⟨#[105, 110, 99]⟩, .func (.func 117) #[] #[], .string ⟨#[118, 111, 116, 101]⟩, .func (.func 118) #[] #[], .string ⟨#[97, 110, 115, 119, 101, 114]⟩, .func (.func 120) #[] #[], .string ⟨#[99, 111, 112, 121]⟩, .func (.func 122) #[] #[], .string ⟨#[97, 114, 99]⟩, .func (.func 124) #[] #[], .string ⟨#[99, 111, 112, 105, 101, 115]⟩, .func (.func 125) #[] #[], .string ⟨#[112, 111, 115]⟩, .func (.func 127) #[] #[], .string ⟨#[104, 111, 112, 115]⟩, .func (.func 129) #[] #[], .string ⟨#[112, 101, 101, 114, 115]⟩, .func (.func 130) #[] #[]]
abbrev tableV : Value := .agg tableCells
theorem table_one : tableCells.all (·.oneCell') = true := by kernel_rfl
theorem table_info : (Tryz.prog.info? 170).map (·.size) = some tableCells.size := by kernel_rfl
theorem table_elem : Tryz.prog.underlying 170 = some (.array 22 169) := by kernel_rfl
theorem wpList_store_new {ops : Array Oper} {rest : List Oper} {o : Oper} {a : Act} {w : World} {Q : Exit → Act → World → Prop} (hgd : o.guard = none) (ty : TypeId) (x y : Operand) (ho : o.op = .store ty x y)
    (cells : Array Value) (hx : a.eval x = .pointer (some ⟨w.heap.size, 0, none⟩)) (hy : a.eval y = .agg cells) (old : Array Value) (hi : (Tryz.prog.info? ty).map (·.size) = some cells.size)
    (hold : old.size = cells.size) (h1 : cells.all (·.oneCell') = true)
    (h : wpList Tryz.prog ops Q rest (a.put o.dst undef) (w.alloc (.cells cells ty))) : wpList Tryz.prog ops Q (o :: rest) a (w.alloc (.cells old ty)) :=
  wpList_store_row hgd ty x y ho w.heap.size cells hx hy ty old (heap_alloc_new w _) hi hold h1 (by rw [World.setRow_alloc_new]; exact h)

set_option maxRecDepth 100000 in
set_option maxHeartbeats 4000000 in
theorem fields_any (w : World) : Calls Tryz.prog 68 #[] w fun e w' => e = .returned tableV ∧ w' = w.alloc (.cells tableCells 170) := by
  have HI := Lib.hid table_info
  have HO := Lib.hid table_one
  go_enter Tryz.func68, Tryz.ntmps68
  go_wp2_with (refine wpList_store_new rfl 170 (.tmp 0) (.tmp 23) rfl tableCells rfl rfl _ HI.out rfl HO.out ?_)
  refine bodyPost_ret (results_cell_row rfl _ _ w.heap.size 170 tableCells (0, 0) _ rfl (heap_alloc_new w _) table_elem rfl table_info) rfl ?_
  exact ⟨rfl, rfl⟩

theorem part_info : (Tryz.prog.info? 169).map (fun i => i.size) = some 2 := by kernel_rfl
theorem run_index (k : Nat) (hk : k < 22) (w : World) : (Instr.index 170 tableV (.int .i64 (k : Int))).run Tryz.prog w = .ok (.agg #[.string (nameB k), .func (.func (codeFn k)) #[] #[]]) w := by
  rcases fd_cases hk with rfl | rfl | rfl | rfl | rfl | rfl | rfl | rfl | rfl | rfl | rfl | rfl | rfl | rfl | rfl | rfl | rfl | rfl | rfl | rfl | rfl | rfl <;> kernel_rfl
theorem field_any (k : Nat) (hk : k < 22) {md : Bool} {P N : Nat → Prop} {gc : Nat} {sb : Src} {f : ByteArray} {l : List Nat} {g : Nat} {m : Ms} {w0 w : World} (M : MidM md P N gc sb f l g m w0 w) (hz : md = true → (fd k).get m = (fd k).get (Ms.zero 0)) (hN : ∀ b, N b → P b) (hw : md = false → P g) (hr : md = true → ¬ P g ∧ ∀ j, w0.frozen? ⟨g, j, none⟩ = false) (hg : g < w0.heap.size) (hne : g ≠ gc)
    (hl : l.length + 30000000 ≤ 140737488355328) : Calls Tryz.prog (codeFn k) #[.pointer (some ⟨gc, 0, none⟩), .pointer (some ⟨g, 0, none⟩)] w (FieldEnd md P N gc sb f g ((fd k).set m) w0 (step (fd k).cod md l ((fd k).get m))) := by
  rcases fd_cases hk with rfl | rfl | rfl | rfl | rfl | rfl | rfl | rfl | rfl | rfl | rfl | rfl | rfl | rfl | rfl | rfl | rfl | rfl | rfl | rfl | rfl | rfl
  · exact field0 M hz hN hw hr hg hne hl
  · exact field1 M hz hN hw hr hg hne hl
  · exact field2 M hz hN hw hr hg hne hl
  · exact field3 M hz hN hw hr hg hne hl
  · exact field4 M hz hN hw hr hg hne hl
  · exact field5 M hz hN hw hr hg hne hl
  · exact field6 M hz hN hw hr hg hne hl
  · exact field7 M hz hN hw hr hg hne hl
  · exact field8 M hz hN hw hr hg hne hl
  · exact field9 M hz hN hw hr hg hne hl
  · exact field10 M hz hN hw hr hg hne hl
  · exact field11 M hz hN hw hr hg hne hl
  · exact field12 M hz hN hw hr hg hne hl
  · exact field13 M hz hN hw hr hg hne hl
  · exact field14 M hz hN hw hr hg hne hl
  · exact field15 M hz hN hw hr hg hne hl
  · exact field16 M hz hN hw hr hg hne hl
  · exact field17 M hz hN hw hr hg hne hl
  · exact field18 M hz hN hw hr hg hne hl
  · exact field19 M hz hN hw hr hg hne hl
  · exact field20 M hz hN hw hr hg hne hl
  · exact field21 M hz hN hw hr hg hne hl
end Go.Proofs.YtngcbpgafjnfaaaGreatDoor
