/- Is a number among these? Are all bytes zero? The table of fields; a field's function, any of the 22 (gen_fields.py). A message's parts as they are written, one behind the other: what holds between two of them. -/
import Derived.Test.YtngcbpgafjnfaaaGreatDoorLot11
import Derived.Deep.WholeRow

namespace Go.Proofs.YtngcbpgafjnfaaaGreatDoor
open Go.RowKit
set_option linter.unusedVariables false

set_option maxHeartbeats 1000000 in
theorem index_any (ao : Option Addr) (n cap : Nat) (l : List Nat) (hl : l.length = n) (hn : n ≤ 100) (hb : ∀ x ∈ l, x < 1000) (i : Nat) (hi : i < 1000) (w : World) (hr : RdI w ao l) :
    Calls Tryz.prog 133 #[.slice ao n cap, .int .i64 (i : Int)] w fun e w' => (∃ z : Int, e = .returned (.int .i64 z) ∧ (0 ≤ z ↔ i ∈ l)) ∧ w = w' := by
  have HR := Lib.hid hr; have HL := Lib.hid hl; have HB := Lib.hid hb
  clear hr hl hb
  go_enter Tryz.func133, Tryz.ntmps133
  go_wp2_with fail
  go_loop [8] (fun j => ∃ k : Nat, k ≤ n ∧ j = .int .i64 (k : Int) ∧ i ∉ l.take k) (fun j => n - (intOf j).toNat)
  case atStart => exact ⟨0, by omega, rfl, by simp⟩
  case round =>
    obtain ⟨k, hk, rfl, hni⟩ := hrel
    have HNI := Lib.hid hni
    clear hni
    by_cases hlt : k < n
    · have hx : l[k]? = some (l[k]'(by rw [HL.out]; exact hlt)) := List.getElem?_eq_getElem _
      generalize l[k]'(by rw [HL.out]; exact hlt) = x at hx
      obtain ⟨g, o, rfl, hg, hc⟩ := HR.out k x hx
      have hxb := HB.out x (List.mem_of_getElem? hx)
      have HX := Lib.hid hx
      clear hx
      by_cases he : i = x
      · subst he
        go_wp2_with fail
        go_ret
        refine ⟨⟨(k : Int), rfl, ?_⟩, rfl⟩
        exact (iff_of_true (by omega) (List.mem_of_getElem? HX.out))
      · have hd : ((i : Int) == (x : Int)) = false := by simp; omega
        go_wp2_with fail
        refine ⟨⟨k + 1, by omega, by go_num, ?_⟩, by simp [intOf]; omega⟩
        rw [List.take_add_one, HX.out]
        simp only [Option.toList_some, List.mem_append, List.mem_singleton, not_or]
        exact ⟨HNI.out, he⟩
    · obtain rfl : n = k := by omega
      go_wp2_with fail
      go_ret
      refine ⟨⟨-1, rfl, ?_⟩, rfl⟩
      have h9 := HNI.out
      rw [List.take_of_length_le (by rw [HL.out]; exact Nat.le_refl _)] at h9
      exact (iff_of_false (by decide) h9)
theorem contains_any (ao : Option Addr) (n cap : Nat) (l : List Nat) (hl : l.length = n) (hn : n ≤ 100) (hb : ∀ x ∈ l, x < 1000) (i : Nat) (hi : i < 1000) (w : World) (hr : RdI w ao l) :
    Calls Tryz.prog 70 #[.slice ao n cap, .int .i64 (i : Int)] w fun e w' => e = .returned (.bool (decide (i ∈ l))) ∧ w = w' := by
  have C := Lib.hid (index_any ao n cap l hl hn hb i hi w hr)
  clear hr hl hb
  go_enter Tryz.func70, Tryz.ntmps70
  go_wp2_with fail
  refine C.out.mono ?_
  rintro e w' ⟨⟨z, rfl, hz⟩, rfl⟩
  have HZ := Lib.hid hz
  clear hz
  go_wp2_with fail
  go_ret
  exact ⟨ret_bool (decide_eq_decide.2 HZ.out), rfl⟩

set_option maxHeartbeats 1000000 in
theorem indexfunc_any (ao : Option Addr) (n cap : Nat) (l : List Nat) (hl : l.length = n) (hn : n ≤ 9223372036854775807) (w : World) (hr : Rd w ao l) :
    Calls Tryz.prog 171 #[.slice ao n cap, .func (.func 135) #[] #[]] w fun e w' => (∃ z : Int, e = .returned (.int .i64 z) ∧ decide (0 ≤ z) = !l.all (· == 0)) ∧ w = w' := by
  have HR := Lib.hid hr; have HL := Lib.hid hl
  clear hr hl
  go_enter Tryz.func171, Tryz.ntmps171
  go_wp2_with fail
  go_loop [8] (fun j => ∃ k : Nat, k ≤ n ∧ j = .int .i64 (k : Int) ∧ (l.take k).all (· == 0) = true) (fun j => n - (intOf j).toNat)
  case atStart => exact ⟨0, by omega, rfl, by simp⟩
  case round =>
    obtain ⟨k, hk, rfl, hni⟩ := hrel
    have HNI := Lib.hid hni
    clear hni
    by_cases hlt : k < n
    · obtain ⟨g, o, rfl, hg, hc⟩ := HR.out.at_ k (by rw [HL.out]; exact hlt)
      have hxb := HR.out.byte k
      have HX := Lib.hid (bt_get (l := l) (k := k) (by rw [HL.out]; exact hlt))
      generalize bt l k = x at *
      by_cases he : x = 0
      · subst he
        go_wp2
        refine ⟨⟨k + 1, by omega, by go_num, ?_⟩, by simp [intOf]; omega⟩
        rw [List.take_add_one, HX.out]
        simp only [Option.toList_some, List.all_append, HNI.out]; rfl
      · have hd : ((x : Int) != 0) = true := by simp; omega
        go_wp2
        go_ret
        refine ⟨⟨(k : Int), rfl, ?_⟩, rfl⟩
        have : l.all (· == 0) = false := by
          rw [List.all_eq_false]
          exact ⟨x, List.mem_of_getElem? HX.out, by simpa using he⟩
        rw [this, decide_eq_true (by omega)]; rfl
    · obtain rfl : n = k := by omega
      go_wp2_with fail
      go_ret
      refine ⟨⟨-1, rfl, ?_⟩, rfl⟩
      have h9 := HNI.out
      rw [List.take_of_length_le (by rw [HL.out]; exact Nat.le_refl _)] at h9
      rw [h9]; decide
theorem iszero_any (ao : Option Addr) (n cap : Nat) (l : List Nat) (hl : l.length = n) (hn : n ≤ 9223372036854775807) (w : World) (hr : Rd w ao l) :
    Calls Tryz.prog 71 #[.slice ao n cap] w fun e w' => e = .returned (.bool (l.all (· == 0))) ∧ w = w' := by
  have C := Lib.hid (indexfunc_any ao n cap l hl hn w hr)
  clear hr hl
  go_enter Tryz.func71, Tryz.ntmps71
  go_wp2_with (first | (go_at_call 134; go_in) | (go_at_call 171; refine C.out.mono ?_; rintro e w' ⟨⟨z, rfl, hz⟩, rfl⟩; have HZ := Lib.hid hz; clear hz))
  go_ret
  exact ⟨ret_bool (by rw [HZ.out]; simp), rfl⟩
theorem iskind_any (k : Int) (h1 : -9223372036854775808 ≤ k) (h2 : k ≤ 9223372036854775807) (w : World) : Calls Tryz.prog 66 #[.int .i64 k] w fun e w' => e = .returned (.bool (decide (1 ≤ k ∧ k ≤ 23))) ∧ w = w' := by
  by_cases ha : 0 < k
  · by_cases hb : k < 24
    all_goals
      go_enter Tryz.func66, Tryz.ntmps66
      go_wp2
      go_ret
      refine ⟨ret_bool ?_, rfl⟩
      first
        | (rw [decide_eq_true (by omega)]; done)
        | (rw [decide_eq_false (by omega)]; done)
        | (symm; rw [decide_eq_true_iff]; omega)
        | (symm; rw [decide_eq_false_iff_not]; omega)
        | (simp; omega)
  · go_enter Tryz.func66, Tryz.ntmps66
    go_wp2
    go_ret
    refine ⟨ret_bool ?_, rfl⟩
    first
      | (symm; rw [decide_eq_false_iff_not]; omega)
      | (simp; omega)
end Go.Proofs.YtngcbpgafjnfaaaGreatDoor


namespace Go.Proofs.YtngcbpgafjnfaaaGreatDoor
open Go.RowKit
set_option linter.unusedVariables false

def namesB : List ByteArray := [⟨#[102, 114, 111, 109]⟩, ⟨#[116, 111]⟩, ⟨#[105, 110, 115, 116]⟩, ⟨#[98, 97, 108, 108, 111, 116]⟩, ⟨#[97, 99, 99, 101, 112, 116, 101, 100]⟩, ⟨#[118, 97, 108, 117, 101]⟩, ⟨#[116, 120]⟩, ⟨#[105, 100]⟩, ⟨#[105, 110, 100, 101, 120]⟩, ⟨#[114, 111, 117, 110, 100]⟩, ⟨#[98, 117, 99, 107, 101, 116]⟩, ⟨#[114, 101, 112, 108, 105, 99, 97]⟩, ⟨#[111, 102]⟩, ⟨#[105, 110, 99]⟩, ⟨#[118, 111, 116, 101]⟩, ⟨#[97, 110, 115, 119, 101, 114]⟩, ⟨#[99, 111, 112, 121]⟩, ⟨#[97, 114, 99]⟩, ⟨#[99, 111, 112, 105, 101, 115]⟩, ⟨#[112, 111, 115]⟩, ⟨#[104, 111, 112, 115]⟩, ⟨#[112, 101, 101, 114, 115]⟩]
def nameB (k : Nat) : ByteArray := namesB.getD k ⟨#[]⟩
def codeFns : List Nat := [96, 97, 98, 100, 102, 104, 106, 108, 110, 111, 112, 114, 116, 117, 118, 120, 122, 124, 125, 127, 129, 130]
def codeFn (k : Nat) : Nat := codeFns.getD k 0
abbrev fieldV (k : Nat) : Value := .agg #[.string (nameB k), .func (.func (codeFn k)) #[] #[]]
def tableCells : Array Value := #[.string ⟨#[102, 114, 111, 109]⟩, .func (.func 96) #[] #[], .string ⟨#[116, 111]⟩, .func (.func 97) #[] #[], .string ⟨#[105, 110, 115, 116]⟩, .func (.func 98) #[] #[], .string ⟨#[98, 97, 108, 108, 111, 116]⟩, .func (.func 100) #[] #[], .string ⟨#[97, 99, 99, 101, 112, 116, 101, 100]⟩, .func (.func 102) #[] #[], .string ⟨#[118, 97, 108, 117, 101]⟩, .func (.func 104) #[] #[], .string ⟨#[116, 120]⟩, .func (.func 106) #[] #[], .string ⟨#[105, 100]⟩, .func (.func 108) #[] #[], .string ⟨#[105, 110, 100, 101, 120]⟩, .func (.func 110) #[] #[], .string ⟨#[114, 111, 117, 110, 100]⟩, .func (.func 111) #[] #[], .string ⟨#[98, 117, 99, 107, 101, 116]⟩, .func (.func 112) #[] #[], .string ⟨#[114, 101, 112, 108, 105, 99, 97]⟩, .func (.func 114) #[] #[], .string ⟨#[111, 102]⟩, .func (.func 116) #[] #[], .string ⟨#[105, 110, 99]⟩, .func (.func 117) #[] #[], .string ⟨#[118, 111, 116, 101]⟩, .func (.func 118) #[] #[], .string ⟨#[97, 110, 115, 119, 101, 114]⟩, .func (.func 120) #[] #[], .string ⟨#[99, 111, 112, 121]⟩, .func (.func 122) #[] #[], .string ⟨#[97, 114, 99]⟩, .func (.func 124) #[] #[], .string ⟨#[99, 111, 112, 105, 101, 115]⟩, .func (.func 125) #[] #[], .string ⟨#[112, 111, 115]⟩, .func (.func 127) #[] #[], .string ⟨#[104, 111, 112, 115]⟩, .func (.func 129) #[] #[], .string ⟨#[112, 101, 101, 114, 115]⟩, .func (.func 130) #[] #[]]
abbrev tableV : Value := .agg tableCells
theorem table_one : tableCells.all (·.oneCell') = true := by kernel_rfl
theorem table_info : (Tryz.prog.info? 170).map (·.size) = some tableCells.size := by kernel_rfl
theorem table_elem : Tryz.prog.underlying 170 = some (.array 22 169) := by kernel_rfl
theorem wpList_store_new {ops : Array Oper} {rest : List Oper} {o : Oper} {a : Act} {w : World} {Q : Exit → Act → World → Prop} (hgd : o.guard = none) (ty : TypeId) (x y : Operand) (ho : o.op = .store ty x y)
    (cells : Array Value) (hx : a.eval x = .pointer (some ⟨w.heap.size, 0, none⟩)) (hy : a.eval y = .agg cells) (old : Array Value) (hi : (Tryz.prog.info? ty).map (·.size) = some cells.size)
    (hold : old.size = cells.size) (h1 : cells.all (·.oneCell') = true)
    (h : wpList Tryz.prog ops Q rest (a.put o.dst undef) (w.alloc (.cells cells ty))) : wpList Tryz.prog ops Q (o :: rest) a (w.alloc (.cells old ty)) :=
  wpList_store_row hgd ty x y ho w.heap.size cells hx hy ty old (heap_alloc_new w _) hi hold h1 (by rw [World.setRow_alloc_new]; exact h)

set_option maxRecDepth 100000 in
set_option maxHeartbeats 4000000 in
theorem fields_any (w : World) : Calls Tryz.prog 68 #[] w fun e w' => e = .returned tableV ∧ w' = w.alloc (.cells tableCells 170) := by
  have HI := Lib.hid table_info
  have HO := Lib.hid table_one
  go_enter Tryz.func68, Tryz.ntmps68
  go_wp2_with (refine wpList_store_new rfl 170 (.tmp 0) (.tmp 23) rfl tableCells rfl rfl _ HI.out rfl HO.out ?_)
  refine bodyPost_ret (results_cell_row rfl _ _ w.heap.size 170 tableCells (0, 0) _ rfl (heap_alloc_new w _) table_elem rfl table_info) rfl ?_
  exact ⟨rfl, rfl⟩

theorem part_info : (Tryz.prog.info? 169).map (fun i => i.size) = some 2 := by kernel_rfl
theorem run_index (k : Nat) (hk : k < 22) (w : World) : (Instr.index 170 tableV (.int .i64 (k : Int))).run Tryz.prog w = .ok (.agg #[.string (nameB k), .func (.func (codeFn k)) #[] #[]]) w := by
  rcases fd_cases hk with rfl | rfl | rfl | rfl | rfl | rfl | rfl | rfl | rfl | rfl | rfl | rfl | rfl | rfl | rfl | rfl | rfl | rfl | rfl | rfl | rfl | rfl <;> kernel_rfl
theorem field_any (k : Nat) (hk : k < 22) {md : Bool} {P N : Nat → Prop} {gc : Nat} {sb : Src} {f : ByteArray} {l : List Nat} {g : Nat} {m : Ms} {w0 w : World} (M : MidM md P N gc sb f l g m w0 w) (hz : md = true → (fd k).get m = (fd k).get (Ms.zero 0)) (hN : ∀ b, N b → P b) (hw : md = false → P g) (hr : md = true → ¬ P g ∧ ∀ j, w0.frozen? ⟨g, j, none⟩ = false) (hg : g < w0.heap.size) (hne : g ≠ gc)
    (hl : l.length + 30000000 ≤ 140737488355328) : Calls Tryz.prog (codeFn k) #[.pointer (some ⟨gc, 0, none⟩), .pointer (some ⟨g, 0, none⟩)] w (FieldEnd md P N gc sb f g ((fd k).set m) w0 (step (fd k).cod md l ((fd k).get m))) := by
  rcases fd_cases hk with rfl | rfl | rfl | rfl | rfl | rfl | rfl | rfl | rfl | rfl | rfl | rfl | rfl | rfl | rfl | rfl | rfl | rfl | rfl | rfl | rfl | rfl
  · exact field0 M hz hN hw hr hg hne hl
  · exact field1 M hz hN hw hr hg hne hl
  · exact field2 M hz hN hw hr hg hne hl
  · exact field3 M hz hN hw hr hg hne hl
  · exact field4 M hz hN hw hr hg hne hl
  · exact field5 M hz hN hw hr hg hne hl
  · exact field6 M hz hN hw hr hg hne hl
  · exact field7 M hz hN hw hr hg hne hl
  · exact field8 M hz hN hw hr hg hne hl
  · exact field9 M hz hN hw hr hg hne hl
  · exact field10 M hz hN hw hr hg hne hl
  · exact field11 M hz hN hw hr hg hne hl
  · exact field12 M hz hN hw hr hg hne hl
  · exact field13 M hz hN hw hr hg hne hl
  · exact field14 M hz hN hw hr hg hne hl
  · exact field15 M hz hN hw hr hg hne hl
  · exact field16 M hz hN hw hr hg hne hl
  · exact field17 M hz hN hw hr hg hne hl
  · exact field18 M hz hN hw hr hg hne hl
  · exact field19 M hz hN hw hr hg hne hl
  · exact field20 M hz hN hw hr hg hne hl
  · exact field21 M hz hN hw hr hg hne hl
end Go.Proofs.YtngcbpgafjnfaaaGreatDoor


namespace Go.Proofs.YtngcbpgafjnfaaaGreatDoor
open Go.RowKit
set_option linter.unusedVariables false

/-- a part as it was cut: a slice, its bytes -/
structure Cut where
  ao : Option Addr
  n : Nat
  cap : Nat
  l : List Nat
structure Cut.Ok (c : Cut) (gc : Nat) : Prop where
  len : c.l.length = c.n
  le : c.n ≤ c.cap
  max : c.cap ≤ maxLen
  lt : ∀ x ∈ c.l, x < 256
  at_ : ∀ x, x < c.l.length → ∃ g o, c.ao = some ⟨g, o, none⟩
  far : ∀ g o, c.ao = some ⟨g, o, none⟩ → gc < g
abbrev Cut.v (c : Cut) : Value := .slice c.ao c.n c.cap
/-- the cells of these parts -/
def CutC (L : List Cut) : Nat → Nat → Value → Prop := fun g j v => ∃ c ∈ L, ∃ o x, c.ao = some ⟨g, o, none⟩ ∧ j = o + x ∧ x < c.l.length ∧ v = u8v (bt c.l x)
theorem cut_rd {w : World} {gc : Nat} {f : ByteArray} {ao : Option Addr} {n cap : Nat} {l : List Nat} {L : List Cut} (h : CdAt w false gc ⟨0, CutC L⟩ f ao n cap l) {c : Cut} (hc : c ∈ L) (ok : c.Ok gc) : Rd w c.ao c.l := by
  refine ⟨ok.lt, fun x hx => ?_⟩
  obtain ⟨g, o, e⟩ := ok.at_ x hx
  have := h.st rfl g (o + x) (u8v (bt c.l x)) ⟨c, hc, o, x, e, rfl, hx, rfl⟩
  exact ⟨g, o, e, this.2.1, this.1⟩
/-- the field's name is laid -/
theorem CdAt.name {w : World} {gc : Nat} {sb : Src} {f : ByteArray} {ao : Option Addr} {n cap : Nat} {l : List Nat} {md : Bool} (h : CdAt w md gc sb f ao n cap l) (f' : ByteArray) (hb : md = true → sb.b ≠ gc) : CdAt (w.setCell ⟨gc, 2, none⟩ (.string f')) md gc sb f' ao n cap l := by
  have ks := Keep.setCell w ⟨gc, 2, none⟩ (.string f')
  refine ⟨(by rw [World.cell?_setCell_other _ _ _ _ (by simp)]; exact h.c0), (by rw [World.cell?_setCell_other _ _ _ _ (by simp)]; exact h.c1), World.cell?_setCell_same w _ _ h.c2, (by rw [World.frozen?_setCell]; exact h.f1), (by rw [World.frozen?_setCell]; exact h.f2), (by simpa [World.setCell] using h.lt), h.len, h.le, h.max,
    fun hm => ⟨(h.wr hm).1.keep ks (fun b hb hm2 => (h.wr hm).2 (by simp at hm2; exact hm2 ▸ hb)), (h.wr hm).2⟩, fun hm g j v hv => ?_, fun hm => ⟨(h.rd hm).1.keep ks (fun b hb2 hm2 => hb hm (by have := (h.rd hm).2.2 b hb2; simp at hm2; omega)), (h.rd hm).2⟩⟩
  obtain ⟨q1, q2, q3, q4⟩ := h.st hm g j v hv
  exact ⟨by rw [World.cell?_setCell_other _ _ _ _ (by intro e; cases e; exact q3 rfl)]; exact q1, by simpa [World.setCell] using q2, q3, q4⟩
theorem CdIs.name {w : World} {gc : Nat} {sb : Src} {f : ByteArray} {l : List Nat} {md : Bool} {P : Nat → Prop} (h : CdIs w md P gc sb f l) (f' : ByteArray) : CdIs (w.setCell ⟨gc, 2, none⟩ (.string f')) md P gc sb f' l := by
  obtain ⟨ao, n, cap, ha, hof⟩ := h
  exact ⟨ao, n, cap, ha.name f' (fun hm e => (hof.2 _ (hof.1 hm)).2.1 e), hof.1, fun b hb => ⟨by simpa [World.setCell] using (hof.2 b hb).1, (hof.2 b hb).2⟩⟩
/-- a store into a block that stays, where no part that was cut lies -/
theorem CdAt.beside {w : World} {gc g o : Nat} {sb : Src} {f : ByteArray} {ao : Option Addr} {n cap : Nat} {l : List Nat} (h : CdAt w false gc sb f ao n cap l) (hb : g ∉ blk ao) (hg : g ≠ gc) (hC : ∀ j v, ¬ sb.C g j v) (v : Value) : CdAt (w.setCell ⟨g, o, none⟩ v) false gc sb f ao n cap l := by
  have ks := Keep.setCell w ⟨g, o, none⟩ v
  have hne : ∀ j, (⟨g, o, none⟩ : Addr) ≠ ⟨gc, j, none⟩ := fun j e => hg (by cases e; rfl)
  refine ⟨(by rw [World.cell?_setCell_other _ _ _ _ (hne 0)]; exact h.c0), (by rw [World.cell?_setCell_other _ _ _ _ (hne 1)]; exact h.c1), (by rw [World.cell?_setCell_other _ _ _ _ (hne 2)]; exact h.c2), (by rw [World.frozen?_setCell]; exact h.f1), (by rw [World.frozen?_setCell]; exact h.f2), (by simpa [World.setCell] using h.lt), h.len, h.le, h.max,
    fun hm => ⟨(h.wr hm).1.keep ks (fun b hb2 hm2 => hb (by simp at hm2; exact hm2 ▸ hb2)), (h.wr hm).2⟩, fun hm g' j v' hv => ?_, (fun hm => by cases hm)⟩
  obtain ⟨q1, q2, q3, q4⟩ := h.st hm g' j v' hv
  exact ⟨by rw [World.cell?_setCell_other _ _ _ _ (by intro e; cases e; exact hC _ _ hv)]; exact q1, by simpa [World.setCell] using q2, q3, q4⟩

def zok (i : Nat) (m : Ms) : Bool := (fenc i m).all (· == 0)
/-- what is told as a fault -/
def badW (k : Nat) (m : Ms) (i : Nat) : Bool := !(fok i m && (decide (i ∈ all_ k) || zok i m))
abbrev encUpTo (m : Ms) (k : Nat) : List Nat := (List.range k).flatMap (fenc · m)
theorem encUpTo_succ (m : Ms) (k : Nat) : encUpTo m (k + 1) = encUpTo m k ++ fenc k m := by
  unfold encUpTo
  rw [List.range_succ, List.flatMap_append]; simp
/-- between two rounds -/
structure LoopW (m : Ms) (kd gP gc : Nat) (w0 : World) (k : Nat) (f : ByteArray) (L : List Cut) (w : World) : Prop where
  below : Below gP w0 w
  cd : CdIs w false (· < gc) gc ⟨0, CutC L⟩ f (encUpTo m k)
  len : L.length = k
  ok : ∀ c ∈ L, c.Ok gc
  bytes : ∀ i c, L[i]? = some c → c.l = fenc i m
  part : ∀ (i : Nat) c, L[i]? = some c → w.cell? ⟨gP, i, none⟩ = some c.v
  rest : ∀ i, k ≤ i → i < 22 → w.cell? ⟨gP, i, none⟩ = some (.slice none 0 0)
  fz : ∀ j, w.frozen? ⟨gP, j, none⟩ = false
section
variable {m : Ms} {kd gP gc k : Nat} {w0 w w1 w2 : World} {f f' : ByteArray} {L : List Cut}
/-- the world in which a part's function starts -/
theorem LoopW.enter (h : LoopW m kd gP gc w0 k f L w) (hPc : gP < gc) (ob : Obj) (f' : ByteArray) :
    CdIs ((w.setCell ⟨gc, 2, none⟩ (.string f')).alloc ob) false (· < gc) gc ⟨0, CutC L⟩ f' (encUpTo m k) ∧ Safe (· < gc) w ((w.setCell ⟨gc, 2, none⟩ (.string f')).alloc ob) := by
  have hlt := h.cd.lt
  have hlt2 : gc < (w.setCell ⟨gc, 2, none⟩ (.string f')).heap.size := by simpa [World.setCell] using hlt
  refine ⟨(h.cd.name f').alloc ob (fun b hb => .inl hb) (fun hm => by cases hm), ?_⟩
  have h1 : Safe (· < gc) w (w.setCell ⟨gc, 2, none⟩ (.string f')) := .of_keep (Keep.setCell _ ⟨gc, 2, none⟩ _) fun b hb => ⟨by omega, by simp; omega⟩
  exact h1.alloc (fun b hb => by omega) _
/-- the part is cut, and kept -/
theorem LoopW.next (h : LoopW m kd gP gc w0 k f L w) (hk : k < 22) (hPc : gP < gc) (hs1 : Safe (· < gc) w w1) {ao : Option Addr} {n cap : Nat} (ha : CdAt w1 false gc ⟨0, CutC L⟩ f' ao n cap (encUpTo m k ++ fenc k m)) (hof : OffC false w1 (· < gc) gc ⟨0, CutC L⟩ ao)
    (hw2 : w2 = w1.setCell ⟨gP, k, none⟩ (.slice (sh ao cap (encUpTo m k).length) (n - (encUpTo m k).length) (cap - (encUpTo m k).length))) :
    LoopW m kd gP gc w0 (k + 1) f' (L ++ [⟨sh ao cap (encUpTo m k).length, n - (encUpTo m k).length, cap - (encUpTo m k).length, fenc k m⟩]) w2 := by
  have hlen := ha.len
  have hle := ha.le
  have hmx := ha.max
  rw [List.length_append] at hlen
  generalize hn0 : (encUpTo m k).length = n0 at *
  have hown := (ha.wr rfl).1
  have hsh := hown.sh n0 (by omega)
  rw [List.drop_left' hn0] at hsh
  have hfar : ∀ b ∈ blk ao, gc < b := fun b hb => by
    have h1 : b ≠ gc := fun e => (ha.wr rfl).2 (e ▸ hb)
    have h2 : ¬ b < gc := fun hlt => (hof.2 b hlt).2.2 rfl hb
    omega
  have hcut : (⟨sh ao cap n0, n - n0, cap - n0, fenc k m⟩ : Cut).Ok gc := ⟨hsh.len, hsh.le, hsh.max, hsh.lt, fun x hx => by
    obtain ⟨g, o, e, _⟩ := hsh.rd.at_ x hx
    exact ⟨g, o, e⟩, fun g o e => hfar g (blk_sh ao cap n0 g (by rw [show sh ao cap n0 = some ⟨g, o, none⟩ from e]; simp [blk]))⟩
  have ha2 : CdAt w1 false gc ⟨0, CutC (L ++ [⟨sh ao cap n0, n - n0, cap - n0, fenc k m⟩])⟩ f' ao n cap (encUpTo m k ++ fenc k m) := by
    refine ⟨ha.c0, ha.c1, ha.c2, ha.f1, ha.f2, ha.lt, ha.len, ha.le, ha.max, ha.wr, fun hm g j v hv => ?_, (fun hm => by cases hm)⟩
    obtain ⟨c, hc, o, x, e, hj, hx, hv⟩ := hv
    rcases List.mem_append.1 hc with hc | hc
    · exact ha.st rfl g j v ⟨c, hc, o, x, e, hj, hx, hv⟩
    · obtain rfl : c = _ := List.mem_singleton.1 hc
      obtain ⟨g', o', e', hg', hcell⟩ := hsh.rd.at_ x hx
      have e : sh ao cap n0 = some ⟨g, o, none⟩ := e
      rw [e] at e'
      cases e'
      subst hj hv
      have hgb := blk_sh ao cap n0 g (by rw [e]; simp [blk])
      refine ⟨hcell, hg', by have := hfar g hgb; omega, fun o2 e2 => ?_⟩
      unfold sh at e
      have hx : x < (fenc k m).length := hx
      split at e
      · rename_i hcap
        rw [e2] at e; cases e; omega
      · rw [e2, Option.map_some, Addr.add_lit] at e
        cases e; omega
  have hC : ∀ j v, ¬ (⟨0, CutC (L ++ [⟨sh ao cap n0, n - n0, cap - n0, fenc k m⟩])⟩ : Src).C gP j v := fun j v hv => by
    obtain ⟨c, hc, o, x, e, _⟩ := hv
    rcases List.mem_append.1 hc with hc | hc
    · have := (h.ok c hc).far gP o e; omega
    · obtain rfl : c = _ := List.mem_singleton.1 hc
      have := hcut.far gP o e; omega
  have hgPb : gP ∉ blk ao := fun hb => by have := hfar gP hb; omega
  have hcell : ∀ j, w1.cell? ⟨gP, j, none⟩ = w.cell? ⟨gP, j, none⟩ := fun j => hs1.cell (a := ⟨gP, j, none⟩) hPc
  have hltw := h.cd.lt
  subst hw2
  refine ⟨?_, ?_, by simp [h.len], ?_, ?_, ?_, ?_, ?_⟩
  · exact (h.below.trans (hs1.mono (Q := (· < gP)) (fun b hb => Nat.lt_trans hb hPc)).below).setCell (Nat.le_refl _) _
  · rw [encUpTo_succ]
    exact ⟨ao, n, cap, ha2.beside hgPb (by omega) hC _, (fun hm => by cases hm), fun b hb => ⟨by simpa [World.setCell] using (hof.2 b hb).1, (hof.2 b hb).2⟩⟩
  · intro c hc
    rcases List.mem_append.1 hc with hc | hc
    · exact h.ok c hc
    · obtain rfl : c = _ := List.mem_singleton.1 hc
      exact hcut
  · intro i c hi
    by_cases hik : i < L.length
    · rw [List.getElem?_append_left hik] at hi
      exact h.bytes i c hi
    · rw [List.getElem?_append_right (by omega)] at hi
      have hi0 : i - L.length = 0 := by have := (List.getElem?_eq_some_iff.1 hi).1; simp at this; omega
      rw [hi0] at hi
      obtain rfl : _ = c := Option.some.inj hi
      have : i = k := by have := h.len; omega
      subst this
      rfl
  · intro i c hi
    by_cases hik : i < L.length
    · rw [List.getElem?_append_left hik] at hi
      have := h.len
      rw [World.cell?_setCell_other _ _ _ _ (by intro e; cases e; omega), hcell]
      exact h.part i c hi
    · rw [List.getElem?_append_right (by omega)] at hi
      have hi0 : i - L.length = 0 := by have := (List.getElem?_eq_some_iff.1 hi).1; simp at this; omega
      rw [hi0] at hi
      obtain rfl : _ = c := Option.some.inj hi
      have : i = k := by have := h.len; omega
      subst this
      exact World.cell?_setCell_same w1 ⟨gP, i, none⟩ _ (show _ = some (Value.slice none 0 0) from (hcell i).trans (h.rest i (Nat.le_refl _) hk))
  · intro i hi hi2
    rw [World.cell?_setCell_other _ _ _ _ (by intro e; cases e; omega), hcell]
    exact h.rest i (by omega) hi2
  · intro j
    rw [World.frozen?_setCell]
    exact (World.frozen?_of_block (a := ⟨gP, j, none⟩) (hs1.block gP hPc)).trans (h.fz j)
end
end Go.Proofs.YtngcbpgafjnfaaaGreatDoor
