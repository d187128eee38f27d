/- The body of a message is written. The body of a message is written: the walk. -/
import Derived.Test.YtngcbpgafjnfaaaGreatDoorLoB20
import Derived.Test.YtngcbpgafjnfaaaGreatDoorLoB22
set_option linter.unusedSimpArgs false
set_option linter.unusedVariables false

namespace Go.Proofs.YtngcbpgafjnfaaaGreatDoor
open Go.RowKit
set_option linter.unusedVariables false

theorem exec_index {P : Program} {o : Oper} {a : Act} {w : World} {v vx vi : Value} (t : TypeId) (x i : Operand) (ho : o.op = .index t x i) (hx : a.eval x = vx) (hi : a.eval i = vi) (h : (Instr.index t vx vi).run P w = .ok v w) : (execOp a.eval o).run P w = .ok (.value v) w := by
  unfold execOp
  simp only [ho, hx, hi, Sem.run_bind, h, Result.andThen_ok, Sem.run_pure]
/-- a call gave up with this error -/
def GaveN (n : Int) (f : ByteArray) (e : Ending) (w w' : World) : Prop :=
  ∃ a, w.heap.size ≤ a ∧ a < w'.heap.size ∧ e = .panicked [{ v := .iface 112 (.pointer (some ⟨a, 0, none⟩)), recovered := false }] ∧ w'.cell? ⟨a, 0, none⟩ = some (.int .i64 n) ∧ w'.cell? ⟨a, 1, none⟩ = some (.string f)
/-- what bodyOf comes to -/
def BodyEnd (m : Ms) (w : World) (e : Ending) (w' : World) : Prop :=
  Below w.heap.size w w' ∧ match bodyW m with
  | .error (n, s) => GaveN n s e w w'
  | .ok b => ∃ ao cap, e = .returned (.slice ao b.length cap) ∧ Own w' w.heap.size ao b.length cap b
theorem Gave.gaveN {f : ByteArray} {e : Ending} {w w' : World} (h : Gave false f e w w') : GaveN 42 f e w w' := h
theorem GaveN.from {n : Int} {f : ByteArray} {e : Ending} {w0 w w' : World} (h : GaveN n f e w w') (hs : w0.heap.size ≤ w.heap.size) : GaveN n f e w0 w' := by
  obtain ⟨a, h1, h2⟩ := h
  exact ⟨a, by omega, h2⟩
/-- a kind that is none -/
theorem bodyof_kind (m : Ms) (g : Nat) (w : World) (h0 : w.cell? ⟨g, 0, none⟩ = some (.int .i64 m.kind)) (hk : I64 m.kind) (hb : m.kind < 1 ∨ 23 < m.kind) : Calls Tryz.prog 34 #[.pointer (some ⟨g, 0, none⟩)] w (BodyEnd m w) := by
  have HE := Lib.hid (show bodyW m = .error (41, ⟨#[107, 105, 110, 100]⟩) by unfold bodyW; rw [if_pos hb])
  have hd := iskind_any m.kind hk.1 hk.2 w
  rw [decide_eq_false (by omega)] at hd
  have HD := Lib.hid hd
  clear hd hb hk
  unfold BodyEnd
  rw [HE.out]
  generalize m.kind = mk at *
  go_enter Tryz.func34, Tryz.ntmps34
  go_wp2_with (first | (go_at_call 66; refine HD.out.mono ?_; rintro e w' ⟨rfl, rfl⟩) | (go_at_call 35; refine (giveup_any _ _ _).mono ?_; rintro e w' ⟨rfl, rfl⟩))
  refine ⟨rfl, ?_⟩
  exact ⟨below_alloc (Below.refl _ _) _, w.heap.size, Nat.le_refl _, by simp, rfl, by go_simp, by go_simp⟩

/-- the parts' block, the coder, the table: the loop's start -/
theorem loopw_start (m : Ms) (kd : Nat) (w : World) (tb : Obj) :
    LoopW m kd w.heap.size (w.heap.size + 1) (((w.alloc (.cells #[.slice none 0 0, .slice none 0 0, .slice none 0 0, .slice none 0 0, .slice none 0 0, .slice none 0 0, .slice none 0 0, .slice none 0 0, .slice none 0 0, .slice none 0 0, .slice none 0 0, .slice none 0 0, .slice none 0 0, .slice none 0 0, .slice none 0 0, .slice none 0 0, .slice none 0 0, .slice none 0 0, .slice none 0 0, .slice none 0 0, .slice none 0 0, .slice none 0 0] 166)).alloc (.cells #[.bool false, .slice none 0 0, .string ⟨#[]⟩] 139)).alloc tb) 0 ⟨#[]⟩ []
      (((w.alloc (.cells #[.slice none 0 0, .slice none 0 0, .slice none 0 0, .slice none 0 0, .slice none 0 0, .slice none 0 0, .slice none 0 0, .slice none 0 0, .slice none 0 0, .slice none 0 0, .slice none 0 0, .slice none 0 0, .slice none 0 0, .slice none 0 0, .slice none 0 0, .slice none 0 0, .slice none 0 0, .slice none 0 0, .slice none 0 0, .slice none 0 0, .slice none 0 0, .slice none 0 0] 166)).alloc (.cells #[.bool false, .slice none 0 0, .string ⟨#[]⟩] 139)).alloc tb) := by
  have hrow := heap_alloc_new w (.cells #[.slice none 0 0, .slice none 0 0, .slice none 0 0, .slice none 0 0, .slice none 0 0, .slice none 0 0, .slice none 0 0, .slice none 0 0, .slice none 0 0, .slice none 0 0, .slice none 0 0, .slice none 0 0, .slice none 0 0, .slice none 0 0, .slice none 0 0, .slice none 0 0, .slice none 0 0, .slice none 0 0, .slice none 0 0, .slice none 0 0, .slice none 0 0, .slice none 0 0] 166)
  have hs : (w.alloc (.cells #[.slice none 0 0, .slice none 0 0, .slice none 0 0, .slice none 0 0, .slice none 0 0, .slice none 0 0, .slice none 0 0, .slice none 0 0, .slice none 0 0, .slice none 0 0, .slice none 0 0, .slice none 0 0, .slice none 0 0, .slice none 0 0, .slice none 0 0, .slice none 0 0, .slice none 0 0, .slice none 0 0, .slice none 0 0, .slice none 0 0, .slice none 0 0, .slice none 0 0] 166)).heap.size = w.heap.size + 1 := by simp
  generalize w.alloc _ = w1 at *
  have hcd := (cd_new w1 (· < w1.heap.size) (fun b hb => hb) ⟨0, CutC []⟩ (fun g j v h => by obtain ⟨c, hc, _⟩ := h; cases hc)).alloc tb (fun b hb => .inl hb) (fun hm => by cases hm)
  have hrow2 := (heap_alloc_old (w1.alloc (.cells #[.bool false, .slice none 0 0, .string ⟨#[]⟩] 139)) tb (r := w.heap.size) (by simp; omega)).trans ((heap_alloc_old w1 (.cells #[.bool false, .slice none 0 0, .string ⟨#[]⟩] 139) (r := w.heap.size) (by omega)).trans hrow)
  rw [hs] at hcd
  refine ⟨Below.refl _ _, hcd, rfl, by simp, by simp, by simp, fun i _ hi => ?_, fun j => frozen_of_row _ _ _ _ _ hrow2⟩
  rw [cell_of_row _ _ i _ _ (0, 0) hrow2]
  rcases fd_cases hi with rfl | rfl | rfl | rfl | rfl | rfl | rfl | rfl | rfl | rfl | rfl | rfl | rfl | rfl | rfl | rfl | rfl | rfl | rfl | rfl | rfl | rfl <;> rfl
theorem field_one (s : ByteArray) (F : Nat) : (#[.string s, .func (.func F) #[] #[]] : Array Value).all (·.oneCell') = true := by
  first | rfl | kernel_rfl | simp [Value.oneCell']
theorem run_code (k : Nat) (hk : k < 22) (args : Array Value) (w : World) : (callFunc (codeFn k) args).run Tryz.prog w = .ok (.enter (codeFn k) args) w := by
  rcases fd_cases hk with rfl | rfl | rfl | rfl | rfl | rfl | rfl | rfl | rfl | rfl | rfl | rfl | rfl | rfl | rfl | rfl | rfl | rfl | rfl | rfl | rfl | rfl <;> kernel_rfl
/-- the parts of a struct stay where its block and its blocks stay -/
theorem slots_safe {w w' : World} {N M P : Nat → Prop} {g o : Nat} : ∀ {L : List Slot}, Slots w N g o L → AllFine L → Safe P w w' → P g → (∀ b, N b → P b) → (∀ b, N b → M b) → Slots w' M g o L
  | [], _, _, _, _, _, _ => trivial
  | s :: L, h, hf, hs, hg, hN, hM => by
    obtain ⟨⟨cs, h1, h2⟩, h3⟩ := h
    exact ⟨⟨cs, hf.1.mono _ _ _ _ (hf.1.safe _ _ _ _ _ h1 hs hN) hM, h2.safe hs hg⟩, slots_safe h3 hf.2 hs hg hN hM⟩
theorem safe_of_below {B : Nat} {w w' : World} (h : Below B w w') : Safe (· < B) w w' := ⟨h.os, h.tape, h.output, h.size, fun k hk => h.block k hk⟩
/-- the call of a part's function, told plainly -/
theorem part_call (m : Ms) (kd gP gc k g : Nat) (hk : k < 22) (hPc : gP < gc) (hgP : g < gP) (w0 w : World) (N : Nat → Prop) (hN : ∀ b, N b → b < gP) (hM : Slots w0 N g 0 (slotsOf m)) (f : ByteArray) (L : List Cut) (h : LoopW m kd gP gc w0 k f L w) (hgood : ∀ i, i < k → badW kd m i = false) (ob : Obj) :
    Calls Tryz.prog (codeFn k) #[.pointer (some ⟨gc, 0, none⟩), .pointer (some ⟨g, 0, none⟩)] ((w.setCell ⟨gc, 2, none⟩ (.string (nameB k))).alloc ob) fun e w' => Safe (· < gc) w w' ∧
      ((fok k m = false ∧ GaveN 42 (nameB k) e w w') ∨ (fok k m = true ∧ e = .returned (.tuple #[]) ∧ CdIs w' false (· < gc) gc ⟨0, CutC L⟩ (nameB k) (encUpTo m k ++ fenc k m))) := by
  obtain ⟨hcd, hs⟩ := h.enter hPc ob (nameB k)
  have hsize := h.below.size
  generalize (w.setCell ⟨gc, 2, none⟩ (.string (nameB k))).alloc ob = w2 at *
  have hS : Slots w2 (Grow false N w2 w2) g 0 (slotsOf m) := slots_safe (P := (· < gP)) hM (slotsOf_fine m) ((safe_of_below h.below).trans (hs.mono fun b hb => by show b < gc; omega)) hgP hN fun b hb => .inl hb
  have hcl := h.cd.lt
  have := encUpTo_len m k (by omega) (fun i hi => fok_of (hgood i hi))
  refine (field_any k hk (Mid.start hcd hS) (fun hm => by cases hm) (fun b hb => by have := hN b hb; show b < gc; omega) (fun _ => by show g < gc; omega) (fun hm => by cases hm) (by have := hs.size; omega) (by omega) (by omega)).mono ?_
  intro e w' he
  rw [step_w] at he
  by_cases ho : fok k m = true
  · rw [if_pos (show (fd k).cod.ok ((fd k).get m) = true from ho)] at he
    obtain ⟨rfl, hmid⟩ := he
    refine ⟨hs.trans hmid.safe.toSafe, .inr ⟨ho, rfl, ?_⟩⟩
    exact hmid.cd.reP (fun hm => by cases hm) fun b hb => .inl (.inl hb)
  · rw [if_neg (show ¬ (fd k).cod.ok ((fd k).get m) = true from ho)] at he
    obtain ⟨h1, h2⟩ := he
    exact ⟨hs.trans h1.toSafe, .inl ⟨by simpa using ho, (Gave.gaveN h2).from hs.size⟩⟩
theorem body_bad {m : Ms} {kd k : Nat} (hkd : m.kind = kd) (h1 : 1 ≤ kd) (h2 : kd ≤ 23) (hk : k < 22) (hgood : ∀ i, i < k → badW kd m i = false) (hbad : badW kd m k = true) {w w' : World} {e : Ending} (hb : Below w.heap.size w w') (hg : GaveN 42 (nameB k) e w w') : BodyEnd m w e w' := by
  have hE : bodyW m = .error (42, nameB k) := by
    unfold bodyW
    rw [if_neg (by omega), hkd, Int.toNat_natCast, find_bad hk hbad hgood]
  unfold BodyEnd
  rw [hE]
  exact ⟨hb, hg⟩
theorem badW_fok {kd k : Nat} {m : Ms} (h : fok k m = false) : badW kd m k = true := by unfold badW; rw [h]; rfl
theorem all_len (kd : Nat) (h : kd ≤ 23) : (all_ kd).length ≤ 7 := by
  have : ∀ k, k < 24 → (all_ k).length ≤ 7 := by decide
  exact this kd (by omega)
/-- the body as far as the first q of a kind's fields -/
def accW (m : Ms) (kd q : Nat) : List Nat := kd :: ((all_ kd).take q).flatMap (fenc · m)
theorem accW_zero (m : Ms) (kd : Nat) : accW m kd 0 = [kd] := rfl
theorem accW_succ (m : Ms) {kd q i : Nat} (h : (all_ kd)[q]? = some i) : accW m kd (q + 1) = accW m kd q ++ fenc i m := by
  unfold accW
  rw [List.take_add_one, h]
  simp
theorem accW_end {m : Ms} {kd : Nat} (h : m.kind = kd) : accW m kd (all_ kd).length = bodyOf m := by
  unfold accW bodyOf
  rw [List.take_length, h, Int.toNat_natCast]
theorem accW_len {m : Ms} {kd : Nat} (h : ∀ i, i < 22 → badW kd m i = false) : ∀ q, q ≤ (all_ kd).length → (accW m kd q).length ≤ 1 + q * 30000000
  | 0, _ => by simp [accW]
  | q + 1, hq => by
    have h1 := accW_len h q (by omega)
    have hx : (all_ kd)[q]? = some ((all_ kd)[q]'(by omega)) := List.getElem?_eq_getElem _
    have hlt := all_lt (List.mem_of_getElem? hx)
    have h2 := fenc_len _ hlt m (fok_of (h _ hlt))
    rw [accW_succ m hx, List.length_append]
    omega
theorem body_fine {m : Ms} {kd : Nat} (hkd : m.kind = kd) (h1 : 1 ≤ kd) (h2 : kd ≤ 23) (hgood : ∀ i, i < 22 → badW kd m i = false) {w w' : World} {ao : Option Addr} {cap : Nat} (hb : Below w.heap.size w w') (ho : Own w' w.heap.size ao (accW m kd (all_ kd).length).length cap (accW m kd (all_ kd).length)) :
    BodyEnd m w (.returned (.slice ao (accW m kd (all_ kd).length).length cap)) w' := by
  have hE : bodyW m = .ok (bodyOf m) := by
    unfold bodyW
    rw [if_neg (by omega), hkd, Int.toNat_natCast, find_good hgood]
  unfold BodyEnd
  rw [hE]
  rw [accW_end hkd] at ho ⊢
  exact ⟨hb, ao, cap, rfl, ho⟩
end Go.Proofs.YtngcbpgafjnfaaaGreatDoor


namespace Go.Proofs.YtngcbpgafjnfaaaGreatDoor
open Go.RowKit
set_option linter.unusedVariables false

set_option maxRecDepth 100000 in
set_option maxHeartbeats 8000000 in
theorem bodyof_good (m : Ms) (kd : Nat) (hkd : m.kind = kd) (h1 : 1 ≤ kd) (h2 : kd ≤ 23) (g : Nat) (w : World) (N : Nat → Prop) (hM : Slots w N g 0 (slotsOf m)) (hN : ∀ b, N b → b < w.heap.size) (hg : g < w.heap.size) (h0 : w.cell? ⟨g, 0, none⟩ = some (.int .i64 (kd : Int))) :
    Calls Tryz.prog 34 #[.pointer (some ⟨g, 0, none⟩)] w (BodyEnd m w) := by
  have hd := iskind_any (kd : Int) (by omega) (by omega) w
  rw [decide_eq_true (by omega)] at hd
  have HD := Lib.hid hd
  have HU := Lib.hid (usedby_any kd h1 h2 w)
  have HM := Lib.hid hM
  have HN := Lib.hid hN
  have H1 := Lib.hid h1
  have H2 := Lib.hid h2
  have HKD := Lib.hid hkd
  clear hd hM hN h1 h2 hkd
  go_enter Tryz.func34, Tryz.ntmps34
  go_wp2_with (first | (go_at_call 66; refine HD.out.mono ?_; rintro e w' ⟨rfl, rfl⟩) | (go_at_call 67; refine HU.out.mono ?_; rintro e w1 ⟨aou, cau, rfl, hu1, hu2, hur, hub, hun, hubel⟩; have HU1 := Lib.hid hu1; have HU2 := Lib.hid hu2; have HUR := Lib.hid hur; have HUBEL := Lib.hid hubel; clear hu1 hu2 hur hub hun hubel) | (go_at_call 68; refine (fields_any _).mono ?_; rintro e w' ⟨rfl, rfl⟩))
  have HLW := Lib.hid (loopw_start m kd w1 (.cells tableCells 170))
  have HBW : Hid (Below w.heap.size w (((w1.alloc (.cells #[.slice none 0 0, .slice none 0 0, .slice none 0 0, .slice none 0 0, .slice none 0 0, .slice none 0 0, .slice none 0 0, .slice none 0 0, .slice none 0 0, .slice none 0 0, .slice none 0 0, .slice none 0 0, .slice none 0 0, .slice none 0 0, .slice none 0 0, .slice none 0 0, .slice none 0 0, .slice none 0 0, .slice none 0 0, .slice none 0 0, .slice none 0 0, .slice none 0 0] 166)).alloc (.cells #[.bool false, .slice none 0 0, .string ⟨#[]⟩] 139)).alloc (.cells tableCells 170))) := Lib.hid (below_alloc (below_alloc (below_alloc HUBEL.out _) _) _)
  have HBW1 : Hid (Below w1.heap.size w1 (((w1.alloc (.cells #[.slice none 0 0, .slice none 0 0, .slice none 0 0, .slice none 0 0, .slice none 0 0, .slice none 0 0, .slice none 0 0, .slice none 0 0, .slice none 0 0, .slice none 0 0, .slice none 0 0, .slice none 0 0, .slice none 0 0, .slice none 0 0, .slice none 0 0, .slice none 0 0, .slice none 0 0, .slice none 0 0, .slice none 0 0, .slice none 0 0, .slice none 0 0, .slice none 0 0] 166)).alloc (.cells #[.bool false, .slice none 0 0, .string ⟨#[]⟩] 139)).alloc (.cells tableCells 170))) := Lib.hid (below_alloc (below_alloc (below_alloc (Below.refl _ _) _) _) _)
  have HSZ := Lib.hid HUBEL.out.size
  have HM0 := Lib.hid (slots_safe (M := N) HM.out (slotsOf_fine m) (safe_of_below HBW.out) hg HN.out fun b hb => hb)
  have HUR0 := Lib.hid (HUR.out.below HBW1.out)
  clear HD HU
  generalize ((w1.alloc _).alloc _).alloc _ = w0 at *
  have HG : Hid (g < w1.heap.size) := Lib.hid (by have := HSZ.out; omega)
  have HNg : Hid (∀ b, N b → b < w1.heap.size) := Lib.hid (fun b hb => by have := HSZ.out; have := HN.out b hb; omega)
  have H0 : Hid (w0.cell? ⟨g, 0, none⟩ = some (.int .i64 (kd : Int))) := Lib.hid ((HBW.out.cell (p := ⟨g, 0, none⟩) hg).trans h0)
  clear h0 hg
  generalize hgP : w1.heap.size = gP at *
  have HGP := Lib.hid hgP
  clear hgP
  go_loopw [6, 7, 8, 26] (fun a b c i wr => ∃ (k : Nat) (f : ByteArray) (L : List Cut), k ≤ 22 ∧ i = .int .i64 (k : Int) ∧ LoopW m kd gP (gP + 1) w0 k f L wr ∧ ∀ i, i < k → badW kd m i = false) (fun _ _ _ i _ => 22 - (intOf i).toNat)
  case atStart => exact ⟨0, ⟨#[]⟩, [], by omega, rfl, HLW.out, fun i hi => by omega⟩
  case round =>
    obtain ⟨k, f, L, hk, rfl, hW, hgood⟩ := hrel
    have HW := Lib.hid hW
    have HGD := Lib.hid hgood
    clear hW hgood
    by_cases hlt : k < 22
    · obtain ⟨ao, n, cap, ha, hof⟩ := HW.out.cd
      have c1 := ha.c1
      have c2 := ha.c2
      have f2 := ha.f2
      have hgc := ha.lt
      have HN0 := Lib.hid ha.len
      clear ha hof
      have CALL := Lib.hid (part_call m kd gP (gP + 1) k g hlt (by omega) HG.out w0 _ N HNg.out HM0.out f L HW.out HGD.out)
      have hcf := run_code k hlt
      have HIX := Lib.hid (run_index k hlt)
      go_wp2_with (first | (refine wpList_value rfl _ (exec_index (vx := tableV) (vi := .int .i64 (k : Int)) 170 (.tmp 25) (.tmp 26) rfl rfl rfl (HIX.out _)) ?_) | (refine wpList_store_new rfl 169 (.tmp 7) (.tmp 29) rfl #[.string (nameB k), .func (.func (codeFn k)) #[] #[]] rfl rfl _ part_info rfl (field_one _ _) ?_))
      refine (CALL.out _).mono ?_
      rintro e w2 ⟨hs, h⟩
      have hs2 := hs.size
      have HB2 : Hid (Below gP w0 w2) := Lib.hid (HW.out.below.trans (hs.mono (Q := (· < gP)) fun b hb => by show b < gP + 1; omega).below)
      have HWB2 : Hid (Below w.heap.size w w2) := Lib.hid (HBW.out.trans (HB2.out.mono (by have := HSZ.out; omega)))
      rcases h with ⟨hno, a, q1, q2, rfl, q3, q4⟩ | ⟨hyes, rfl, hcd⟩
      · have HEND := Lib.hid (body_bad HKD.out H1.out H2.out hlt HGD.out (badW_fok hno) HWB2.out ⟨a, by have := HWB2.out.size; have := HBW.out.size; have := HW.out.below.size; omega, q2, rfl, q3, q4⟩)
        clear hs hs2 q1 q2 q3 q4 c1 c2 f2 hgc hcf
        exact ⟨rfl, HEND.out⟩
      · obtain ⟨ao2, n2, cap2, ha2, hof2⟩ := hcd
        have d0 := ha2.c0
        have d1 := ha2.c1
        have d2 := ha2.c2
        have hl2 := ha2.len
        rw [List.length_append, HN0.out] at hl2
        have HNN : Hid (n ≤ n2) := Lib.hid (by omega)
        have HLE := Lib.hid ha2.le
        have HMX := Lib.hid ha2.max
        clear hl2
        have HCUT := Lib.hid (run_cut2 w2 ao2 n2 cap2 n HNN.out)
        have p1 : w2.cell? ⟨gP, k, none⟩ = some (.slice none 0 0) := (hs.cell (a := ⟨gP, k, none⟩) (show gP < gP + 1 by omega)).trans (HW.out.rest k (Nat.le_refl _) hlt)
        have p2 : w2.frozen? ⟨gP, k, none⟩ = false := (World.frozen?_of_block (a := ⟨gP, k, none⟩) (hs.block gP (show gP < gP + 1 by omega))).trans (HW.out.fz k)
        have HNEXT := Lib.hid (fun w3 hw3 => HW.out.next (w2 := w3) hlt (by omega) hs ha2 hof2 hw3)
        rw [HN0.out] at HNEXT
        have HYES := Lib.hid hyes
        clear hs hs2 ha2 hof2 hyes c1 c2 f2 hgc hcf
        go_wp2_with (refine wpList_value rfl _ (exec_slice (vx := .slice ao2 n2 cap2) (lv := some (.int .i64 (n : Int))) (hv := none) 54 (.tmp 42) (some (.tmp 43)) none rfl rfl rfl rfl HCUT.out) ?_)
        have hb3 : Below gP w0 (w2.setCell ⟨gP, k, none⟩ (.slice (sh ao2 cap2 n) (n2 - n) (cap2 - n))) := HB2.out.setCell (Nat.le_refl _) _
        have NX := HNEXT.out _ rfl
        generalize w2.setCell _ _ = w3 at *
        have HB3 := Lib.hid hb3
        have HNX := Lib.hid NX
        have HLL := Lib.hid HW.out.len
        have hmem : (⟨sh ao2 cap2 n, n2 - n, cap2 - n, fenc k m⟩ : Cut) ∈ L ++ [⟨sh ao2 cap2 n, n2 - n, cap2 - n, fenc k m⟩] := by simp
        have HPK : Hid (w3.cell? ⟨gP, k, none⟩ = some (.slice (sh ao2 cap2 n) (n2 - n) (cap2 - n))) := Lib.hid (NX.part k ⟨sh ao2 cap2 n, n2 - n, cap2 - n, fenc k m⟩ (by rw [List.getElem?_append_right (by rw [HLL.out]; exact Nat.le_refl _), HLL.out, Nat.sub_self]; rfl))
        obtain ⟨ao3, n3, cap3, ha3, hof3⟩ := NX.cd
        have HRK := Lib.hid (cut_rd ha3 hmem (NX.ok _ hmem))
        have HLK := Lib.hid (NX.ok _ hmem).len
        have e0 := ha3.c0
        have e2 := ha3.c2
        have HZ := Lib.hid (iszero_any (sh ao2 cap2 n) (n2 - n) (cap2 - n) (fenc k m) HLK.out (by have := HLE.out; have := HMX.out; unfold maxLen at this; omega) w3 HRK.out)
        have HNO := Lib.hid (need_no (gP + 1) false (nameB k) w3 e0 e2)
        have hsz3 := ha3.lt
        have HWB3 : Hid (Below w.heap.size w w3) := Lib.hid (HBW.out.trans (HB3.out.mono (by have := HSZ.out; omega)))
        have HS3 : Hid (w.heap.size ≤ w3.heap.size) := Lib.hid HWB3.out.size
        clear hb3 NX d0 d1 d2 p1 p2 HNEXT hmem ha3 hof3 e0 e2 hsz3
        refine (contains_any aou _ cau (all_ kd) rfl (by have := all_len kd H2.out; omega) (fun x hx => by have := all_lt hx; omega) k (by omega) w3 (HUR.out.below (by rw [HGP.out]; exact HBW1.out.trans HB3.out))).mono ?_
        rintro e w' ⟨rfl, rfl⟩
        by_cases hin : k ∈ all_ kd
        · rw [decide_eq_true hin]
          have HBAD : Hid (badW kd m k = false) := Lib.hid (by unfold badW; rw [HYES.out, decide_eq_true hin]; rfl)
          go_wp2_with fail
          refine (need_yes (gP + 1) _).mono ?_
          rintro e w' ⟨rfl, rfl⟩
          go_wp2_with fail
          refine ⟨⟨k + 1, nameB k, _, by omega, by go_num, HNX.out, fun i hi => ?_⟩, by simp [intOf]; omega⟩
          by_cases e : i = k
          · rw [e]; exact HBAD.out
          · exact HGD.out i (by omega)
        · rw [decide_eq_false hin]
          have hpk := HPK.out
          have HBAD : Hid (badW kd m k = !zok k m) := Lib.hid (by unfold badW; rw [HYES.out, decide_eq_false hin]; rfl)
          go_wp2_with fail
          refine HZ.out.mono ?_
          rintro e w' ⟨rfl, rfl⟩
          cases hz : (fenc k m).all (· == 0)
          · rw [show zok k m = false from hz] at HBAD
            go_wp2_with fail
            refine HNO.out.mono ?_
            rintro e w' ⟨rfl, rfl⟩
            have HEND := Lib.hid (body_bad HKD.out H1.out H2.out hlt HGD.out HBAD.out (below_alloc HWB3.out _) (⟨w3.heap.size, HS3.out, by simp, rfl, by go_simp, by go_simp⟩ : GaveN 42 (nameB k) _ w (w3.alloc (.cells #[.int .i64 42, .string (nameB k)] 121))))
            exact ⟨rfl, HEND.out⟩
          · rw [show zok k m = true from hz] at HBAD
            go_wp2_with fail
            refine (need_yes (gP + 1) _).mono ?_
            rintro e w' ⟨rfl, rfl⟩
            go_wp2_with fail
            refine ⟨⟨k + 1, nameB k, _, by omega, by go_num, HNX.out, fun i hi => ?_⟩, by simp [intOf]; omega⟩
            by_cases e : i = k
            · rw [e]; exact HBAD.out
            · exact HGD.out i (by omega)
    · obtain rfl : k = 22 := by omega
      have h0r : wr.cell? ⟨g, 0, none⟩ = some (.int .i64 (kd : Int)) := (HW.out.below.cell (p := ⟨g, 0, none⟩) HG.out).trans H0.out
      go_wp2_with fail
      have hmod : (kd : Int) % 256 = ((kd : Nat) : Int) := by have := H2.out; omega
      rw [hmod]
      have HO1 := Lib.hid (Own.one wr wr.heap.size kd (by have := H2.out; omega) (Nat.le_refl _))
      have HBR := Lib.hid (below_alloc (Below.refl wr.heap.size wr) (.cells #[u8v kd] 5))
      have HWR : Hid (Below w.heap.size w wr) := Lib.hid (HBW.out.trans (HW.out.below.mono (by have := HSZ.out; omega)))
      have HURR : Hid (RdI wr aou (all_ kd)) := Lib.hid (HUR.out.below (by rw [HGP.out]; exact HBW1.out.trans HW.out.below))
      have HAL := Lib.hid (accW_len HGD.out)
      have HA7 := Lib.hid (all_len kd H2.out)
      clear h0r hmod
      generalize hwx : wr.alloc (.cells #[.int .u8 (kd : Int)] 5) = wx
      have hwx' : wx = wr.alloc (.cells #[u8v kd] 5) := hwx.symm
      rw [← hwx'] at HO1 HBR
      clear hwx hwx'
      generalize hw4 : wr = w4 at *
      clear hw4
      go_loopw [9, 11, 65] (fun s b i wz => ∃ (q : Nat) (ao : Option Addr) (cap : Nat), q ≤ (all_ kd).length ∧ i = .int .i64 (q : Int) ∧ s = .slice ao (accW m kd q).length cap ∧ Own wz w4.heap.size ao (accW m kd q).length cap (accW m kd q) ∧ Below w4.heap.size w4 wz) (fun _ _ i _ => (all_ kd).length - (intOf i).toNat)
      case atStart => exact ⟨0, _, 1, by omega, rfl, rfl, HO1.out, HBR.out⟩
      case round =>
        obtain ⟨q, ao, cap, hq, rfl, rfl, hown, hbel⟩ := hrel
        have HOWN := Lib.hid hown
        have HBEL := Lib.hid hbel
        have HWB := Lib.hid (HWR.out.trans (hbel.mono HWR.out.size))
        clear hown hbel
        by_cases hlt : q < (all_ kd).length
        · have hx : (all_ kd)[q]? = some ((all_ kd)[q]'hlt) := List.getElem?_eq_getElem _
          generalize (all_ kd)[q]'hlt = i at hx
          have hi := all_lt (List.mem_of_getElem? hx)
          have HSUC := Lib.hid (accW_succ m hx)
          obtain ⟨gu, ou, rfl, hu1, hu2⟩ := HURR.out.below HBEL.out q i hx
          have hLi : L[i]? = some (L[i]'(by rw [HW.out.len]; exact hi)) := List.getElem?_eq_getElem _
          generalize L[i]'(by rw [HW.out.len]; exact hi) = c at hLi
          have HLI := Lib.hid hLi
          have hgPw : gP < w4.heap.size := by have := HW.out.cd.lt; omega
          have hcp := (HBEL.out.cell (p := ⟨gP, i, none⟩) hgPw).trans (HW.out.part i c hLi)
          obtain ⟨ao3, n3, cap3, ha3, hof3⟩ := HW.out.cd
          have hmem := List.mem_of_getElem? hLi
          have HRD := Lib.hid ((cut_rd ha3 hmem (HW.out.ok c hmem)).below HBEL.out)
          have HCL := Lib.hid (HW.out.ok c hmem).len
          have HCB := Lib.hid (HW.out.bytes i c hLi)
          have HLE := Lib.hid (HAL.out (q + 1) (by omega))
          rw [HSUC.out, List.length_append, ← HCB.out, HCL.out] at HLE
          have hcn : (accW m kd q).length + c.n ≤ 140737488355328 := by have := HLE.out; have := HA7.out; omega
          clear hx hLi hmem ha3 hof3 hgPw
          generalize hla : (accW m kd q).length = la at *
          have HLA := Lib.hid hla
          clear hla
          have h7 : q < 7 := by have := HA7.out; omega
          go_wp2_with (at_builtin; refine wpList_app rfl (.tmp 69) (.tmp 72) rfl rfl HOWN.out rfl HRD.out HCL.out HBEL.out.size hcn ?_; intro ao5 cap5 w5 o5 k5 n5)
          go_roundw
          case rel =>
            refine ⟨_, _, _, _, _, _, _, _, _, _, _, _, ?_, rfl⟩
            exact ⟨q + 1, ao5, cap5, by omega, by go_num, by rw [HSUC.out, List.length_append, HLA.out, ← HCB.out, HCL.out], by rw [HSUC.out, List.length_append, HLA.out, ← HCB.out, HCL.out]; exact o5, HOWN.out.step HBEL.out HBEL.out.size k5⟩
          case measure => simp [intOf]; omega
        · obtain rfl : q = (all_ kd).length := by omega
          have HEND := Lib.hid (body_fine HKD.out H1.out H2.out HGD.out HWB.out (HOWN.out.base HWR.out.size))
          go_wp2_with fail
          go_ret
          exact HEND.out
/-- the body of a message, written -/
theorem bodyof_any (m : Ms) (hI : I64 m.kind) (g : Nat) (w : World) (N : Nat → Prop) (hM : Slots w N g 0 (slotsOf m)) (hN : ∀ b, N b → b < w.heap.size) (hg : g < w.heap.size) (h0 : w.cell? ⟨g, 0, none⟩ = some (.int .i64 m.kind)) :
    Calls Tryz.prog 34 #[.pointer (some ⟨g, 0, none⟩)] w (BodyEnd m w) := by
  by_cases hb : m.kind < 1 ∨ 23 < m.kind
  · exact bodyof_kind m g w h0 hI hb
  · have e : m.kind = ((m.kind.toNat : Nat) : Int) := by omega
    exact bodyof_good m m.kind.toNat e (by omega) (by omega) g w N hM hN hg (by rw [h0, ← e])
end Go.Proofs.YtngcbpgafjnfaaaGreatDoor
