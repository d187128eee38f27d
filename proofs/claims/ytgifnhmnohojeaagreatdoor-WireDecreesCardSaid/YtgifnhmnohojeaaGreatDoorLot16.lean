/- A message that is zero but for its kind, from and to: its cells (gen_awake.py). The statements' rows of examples. The deferred function of DecodeDecree. -/
import Derived.Test.YtgifnhmnohojeaaGreatDoorLot15
import Derived.Test.YtgifnhmnohojeaaGreatDoorLot14

namespace Go.Proofs.YtgifnhmnohojeaaGreatDoor
open Go.RowKit
set_option linter.unusedVariables false

theorem z_int (s m : Nat) (w : World) (N : Nat → Prop) : (intK s m).is w N [.int .i64 0] 0 := ⟨rfl, by unfold I64; omega⟩
theorem z_nat (k : IntKind) (s m : Nat) (w : World) (N : Nat → Prop) : (natK k s m).is w N [.int k 0] 0 := ⟨rfl, by cases k <;> decide⟩
theorem z_flag (w : World) (N : Nat → Prop) : flagK.is w N [.bool false] false := rfl
theorem z_text (m : Nat) (w : World) (N : Nat → Prop) : (textK m).is w N [.string ByteArray.empty] ByteArray.empty := ⟨rfl, by decide⟩
theorem z_list {α : Type} (k : Kd α) (m : Nat) (w : World) (N : Nat → Prop) : (listK k m).is w N [.slice none 0 0] [] := ⟨none, 0, 0, rfl, rfl, Nat.le_refl _, Nat.zero_le _, by simp⟩
theorem z_mans (w : World) (N : Nat → Prop) : mansK.is w N [.int .i64 0, .int .i64 0, .int .i64 0] [0, 0, 0] := ⟨rfl, rfl, fun x hx => by simp at hx; subst hx; unfold I64; omega⟩
theorem z_incs (w : World) (N : Nat → Prop) : incsK.is w N [.int .u32 0, .int .u32 0, .int .u32 0, .int .u32 0] [0, 0, 0, 0] := ⟨rfl, rfl, fun x hx => by simp at hx; subst hx; decide⟩
/-- cells of a row -/
theorem cells_of_row {w : World} {g o : Nat} {cs : Array Value} {t : TypeId} {part : List Value} (hrow : w.heap[g]? = some (.cells cs t (0, 0))) (h : (cs.toList.drop o).take part.length = part) : Cells w g o part := fun j u hu => by
  rw [cell_of_row w g (o + j) cs t (0, 0) hrow]
  have hj := (List.getElem?_eq_some_iff.1 hu).1
  have h2 := congrArg (·[j]?) h
  simp only [List.getElem?_take, List.getElem?_drop] at h2
  rw [if_pos hj] at h2
  rw [← Array.getElem?_toList, h2]; exact hu
def noughtCs (k f t : Int) : Array Value := #[.int .i64 k, .int .i64 f, .int .i64 t, .int .u64 0, .int .i64 0, .int .i64 0, .int .u32 0, .int .u32 0, .int .u8 0, .bool false, .int .u32 0, .int .u8 0, .string ByteArray.empty, .string ByteArray.empty, .int .u64 0, .int .i64 0, .int .i64 0, .int .i64 0, .int .i64 0, .slice none 0 0, .int .u64 0, .int .u32 0, .int .u32 0, .int .i64 0, .int .i64 0, .int .i64 0, .int .u32 0, .int .i64 0, .int .u32 0, .int .u32 0, .int .u32 0, .slice none 0 0, .int .i64 0, .int .u32 0, .int .u32 0, .slice none 0 0, .slice none 0 0, .int .u32 0, .int .u32 0, .int .u32 0, .int .u32 0, .slice none 0 0, .int .i64 0, .int .i64 0, .slice none 0 0, .int .u64 0, .int .u64 0, .int .i64 0, .slice none 0 0]
def nought (k f t : Int) : Ms := { Ms.zero k with fr := f, to := t }
theorem nought_slots (k f t : Int) (hk : I64 k) (hf : I64 f) (ht : I64 t) (w : World) (N : Nat → Prop) : Slots (w.alloc (.cells (noughtCs k f t) 52)) N w.heap.size 0 (slotsOf (nought k f t)) := by
  have hrow := heap_alloc_new w (.cells (noughtCs k f t) 52)
  generalize w.alloc (.cells (noughtCs k f t) 52) = w1 at *
  exact ⟨⟨[.int .i64 k], ⟨rfl, hk⟩, cells_of_row hrow rfl⟩, ⟨[.int .i64 f], ⟨rfl, hf⟩, cells_of_row hrow rfl⟩, ⟨[.int .i64 t], ⟨rfl, ht⟩, cells_of_row hrow rfl⟩, ⟨[.int .u64 0, .int .i64 0, .int .i64 0, .int .u32 0], ⟨[.int .u64 0], [.int .i64 0], [.int .i64 0], [.int .u32 0], rfl, z_nat .u64 8 18446744073709551615 w1 N, z_int 1 63 w1 N, z_int 1 3 w1 N, z_nat .u32 4 4294967295 w1 N⟩, cells_of_row hrow rfl⟩, ⟨[.int .u32 0, .int .u8 0], ⟨[.int .u32 0], [.int .u8 0], rfl, z_nat .u32 4 4294967295 w1 N, z_nat .u8 1 255 w1 N⟩, cells_of_row hrow rfl⟩, ⟨[.bool false, .int .u32 0, .int .u8 0, .string ByteArray.empty], ⟨[.bool false], [.int .u32 0, .int .u8 0], [.string ByteArray.empty], rfl, z_flag w1 N, ⟨[.int .u32 0], [.int .u8 0], rfl, z_nat .u32 4 4294967295 w1 N, z_nat .u8 1 255 w1 N⟩, z_text 64 w1 N⟩, cells_of_row hrow rfl⟩, ⟨[.string ByteArray.empty], z_text 64 w1 N, cells_of_row hrow rfl⟩, ⟨[.int .u64 0, .int .i64 0, .int .i64 0, .int .i64 0, .int .i64 0, .slice none 0 0], ⟨[.int .u64 0], [.int .i64 0], [.int .i64 0, .int .i64 0, .int .i64 0], [.slice none 0 0], rfl, z_nat .u64 8 18446744073709551615 w1 N, z_int 4 2147483647 w1 N, z_mans w1 N, z_list itmK 8 w1 N⟩, cells_of_row hrow rfl⟩, ⟨[.int .u64 0], z_nat .u64 8 18446744073709551615 w1 N, cells_of_row hrow rfl⟩, ⟨[.int .u32 0], z_nat .u32 4 4294967295 w1 N, cells_of_row hrow rfl⟩, ⟨[.int .u32 0], z_nat .u32 4 4294967295 w1 N, cells_of_row hrow rfl⟩, ⟨[.int .i64 0], z_int 1 63 w1 N, cells_of_row hrow rfl⟩, ⟨[.int .i64 0], z_int 1 3 w1 N, cells_of_row hrow rfl⟩, ⟨[.int .i64 0], z_int 1 3 w1 N, cells_of_row hrow rfl⟩, ⟨[.int .u32 0], z_nat .u32 4 4294967295 w1 N, cells_of_row hrow rfl⟩, ⟨[.int .i64 0], z_int 1 2 w1 N, cells_of_row hrow rfl⟩, ⟨[.int .u32 0, .int .u32 0, .int .u32 0, .slice none 0 0], ⟨[.int .u32 0], [.int .u32 0], [.int .u32 0], [.slice none 0 0], rfl, z_nat .u32 4 4294967295 w1 N, z_nat .u32 4 4294967295 w1 N, z_nat .u32 4 4294967295 w1 N, z_list entK 8 w1 N⟩, cells_of_row hrow rfl⟩, ⟨[.int .i64 0, .int .u32 0, .int .u32 0, .slice none 0 0, .slice none 0 0, .int .u32 0, .int .u32 0, .int .u32 0, .int .u32 0, .slice none 0 0], ⟨[.int .i64 0], [.int .u32 0], [.int .u32 0], [.slice none 0 0], [.slice none 0 0], [.int .u32 0, .int .u32 0, .int .u32 0, .int .u32 0], [.slice none 0 0], rfl, z_int 1 2 w1 N, z_nat .u32 4 4294967295 w1 N, z_nat .u32 4 4294967295 w1 N, z_list entK 8 w1 N, z_list lckK 64 w1 N, z_incs w1 N, z_list vtdK 64 w1 N⟩, cells_of_row hrow rfl⟩, ⟨[.int .i64 0, .int .i64 0], ⟨[.int .i64 0], [.int .i64 0], rfl, z_int 1 63 w1 N, z_int 1 64 w1 N⟩, cells_of_row hrow rfl⟩, ⟨[.slice none 0 0], z_list cpyK 64 w1 N, cells_of_row hrow rfl⟩, ⟨[.int .u64 0, .int .u64 0], ⟨[.int .u64 0], [.int .u64 0], rfl, z_nat .u64 8 18446744073709551615 w1 N, z_nat .u64 8 18446744073709551615 w1 N⟩, cells_of_row hrow rfl⟩, ⟨[.int .i64 0], z_int 1 255 w1 N, cells_of_row hrow rfl⟩, ⟨[.slice none 0 0], z_list perK 12 w1 N, cells_of_row hrow rfl⟩, trivial⟩
end Go.Proofs.YtgifnhmnohojeaaGreatDoor


namespace Go.Proofs.YtgifnhmnohojeaaGreatDoor
open Go.RowKit
set_option linter.unusedVariables false

theorem beat_body : bodyW (nought 16 1 2) = .ok [16, 1, 2] := by first | kernel_rfl | rfl | decide
theorem beat_frame : encW (nought 16 1 2) = .ok (frameOf [16, 1, 2]) := by
  unfold encW
  rw [beat_body]
  rfl
theorem none_frame : encW (nought 0 0 0) = .error (41, ⟨#[107, 105, 110, 100]⟩) := by
  unfold encW bodyW
  rfl
theorem beat_len : (frameOf [16, 1, 2]).length = 13 := frameOf_length _
theorem beat_at (j : Nat) : bt (frameOf [16, 1, 2]) (10 + j) = bt [16, 1, 2] j := by
  unfold bt
  have : (frameOf [16, 1, 2]) = ([84, 78] ++ (four 3 ++ four (sumOf (sumOf 0 (four 3)) [16, 1, 2]))) ++ [16, 1, 2] := by simp [frameOf]
  rw [this, List.getD_eq_getElem?_getD, List.getD_eq_getElem?_getD, List.getElem?_append_right (by simp [four])]
  simp [four]

set_option maxRecDepth 100000 in
set_option maxHeartbeats 4000000 in
theorem awake_any (w : World) (hE : ErrT w) (hT : Tab w) : Calls Tryz.prog 8 #[] w fun e w' => e = .returned (.bool true) ∧ Below w.heap.size w w' := by
  have E1 := Lib.hid (encode_any (nought 16 1 2) ⟨by decide, by decide⟩ (noughtCs 16 1 2) w hE hT (fun _ => False) rfl (nought_slots 16 1 2 ⟨by decide, by decide⟩ ⟨by decide, by decide⟩ ⟨by decide, by decide⟩ w _) (fun _ h => h.elim) rfl)
  have HE := Lib.hid hE
  have HT := Lib.hid hT
  clear hE hT
  go_enter Tryz.func8, Tryz.ntmps8
  go_wp2_with fail
  refine E1.out.mono ?_
  rintro e w1 ⟨hb, hm⟩
  rw [beat_frame] at hm
  obtain ⟨ao, cap, rfl, ho⟩ := hm
  rw [beat_len] at ho ⊢
  have HB := Lib.hid hb
  have HR := Lib.hid ho.rd
  clear ho hb E1
  have E2 := Lib.hid (encode_any (nought 0 0 0) ⟨by decide, by decide⟩ (noughtCs 0 0 0) w1 (HE.out.below HB.out) (HT.out.below HB.out) (fun _ => False) rfl (nought_slots 0 0 0 ⟨by decide, by decide⟩ ⟨by decide, by decide⟩ ⟨by decide, by decide⟩ w1 _) (fun _ h => h.elim) rfl)
  go_wp2_with fail
  refine E2.out.mono ?_
  rintro e w2 ⟨hb, hm⟩
  rw [none_frame] at hm
  obtain ⟨a, rfl, _, _, _⟩ := hm
  obtain ⟨g, o, rfl, hg, c10⟩ := (HR.out.below hb).at_ (10 + 0) (by rw [beat_len]; omega)
  obtain ⟨_, _, e, _, c11⟩ := (HR.out.below hb).at_ (10 + 1) (by rw [beat_len]; omega)
  cases e
  obtain ⟨_, _, e, _, c12⟩ := (HR.out.below hb).at_ (10 + 2) (by rw [beat_len]; omega)
  cases e
  rw [beat_at] at c10 c11 c12
  have c10 : w2.cell? ⟨g, o + 10, none⟩ = some (.int .u8 16) := c10
  have c11 : w2.cell? ⟨g, o + 11, none⟩ = some (.int .u8 1) := c11
  have c12 : w2.cell? ⟨g, o + 12, none⟩ = some (.int .u8 2) := c12
  have HBB := Lib.hid (HB.out.trans (hb.mono HB.out.size))
  clear hb E2 HR
  go_wp2_with fail
  go_ret
  exact ⟨rfl, HBB.out⟩
end Go.Proofs.YtgifnhmnohojeaaGreatDoor


namespace Go.Proofs.YtgifnhmnohojeaaGreatDoor
open Go.RowKit
set_option linter.unusedVariables false

theorem idle42 (p q : Addr) (w : World) : CallsD Tryz.prog 42 #[.pointer (some p), .pointer (some q)] .returning w fun e u' w' => e = .returned (.tuple #[]) ∧ u' = .returning ∧ w' = w := by
  refine callsD_of_wpS Tryz.func42 rfl fun c₀ cs hu => ?_
  apply wpS_seq
  apply wpS_region
  simp [wpOpsS, go_sem, recoverD, hu, Tryz.ntmps42, Exit.thenS]
  apply wpS_seq
  apply wpS_region
  simp [wpOpsS, go_sem, Exit.thenS]
  refine wpS_cond (t := false) (by simp [Act.eval, Array.replicate]) ?_
  simp only [Bool.false_eq_true, if_false]
  refine wpS_of_wp (wp_skip ?_)
  cases c₀
  simp_all [bodyPostS, results, Tryz.results42]

/-- cells laid one behind another -/
def layL (w : World) (g : Nat) : Nat → List Value → World
  | _, [] => w
  | o, v :: L => layL (w.setCell ⟨g, o, none⟩ v) g (o + 1) L
structure LaidL (w w' : World) (g o : Nat) (L : List Value) : Prop where
  at_ : Cells w' g o L
  out : ∀ b j, b ≠ g ∨ j < o ∨ o + L.length ≤ j → w'.cell? ⟨b, j, none⟩ = w.cell? ⟨b, j, none⟩
  fz : ∀ a, w'.frozen? a = w.frozen? a
  below : ∀ B, B ≤ g → Below B w w'
  size : w'.heap.size = w.heap.size
theorem laidL (g : Nat) : ∀ (L : List Value) (w : World) (o : Nat), (∀ j, j < L.length → (w.cell? ⟨g, o + j, none⟩).isSome = true) → LaidL w (layL w g o L) g o L
  | [], w, o, _ => ⟨fun j u hu => by simp at hu, fun _ _ _ => rfl, fun _ => rfl, fun B _ => Below.refl _ _, rfl⟩
  | v :: L, w, o, h => by
    have h0 := h 0 (by simp)
    obtain ⟨x, hx⟩ := Option.isSome_iff_exists.1 h0
    have ih := laidL g L (w.setCell ⟨g, o, none⟩ v) (o + 1) (fun j hj => by
      rw [World.cell?_setCell_other _ _ _ _ (by first | (simp; done) | (simp; omega))]
      have := h (j + 1) (by simp; omega)
      rwa [show o + 1 + j = o + (j + 1) by omega])
    refine ⟨fun j u hu => ?_, fun b j hb => ?_, fun a => ?_, fun B hB => ?_, ?_⟩
    · cases j with
      | zero =>
        obtain rfl : v = u := by simpa using hu
        exact (ih.out g o (by omega)).trans (World.cell?_setCell_same w ⟨g, o, none⟩ _ hx)
      | succ j =>
        have := ih.at_ j u (by simpa using hu)
        rwa [show o + 1 + j = o + (j + 1) by omega] at this
    · simp only [List.length_cons] at hb
      have := ih.out b j (by omega)
      rw [show layL w g o (v :: L) = layL (w.setCell ⟨g, o, none⟩ v) g (o + 1) L from rfl, this]
      exact World.cell?_setCell_other _ _ _ _ (by simp; omega)
    · exact (ih.fz a).trans (World.frozen?_setCell _ _ _ _)
    · exact (((Below.refl B w).setCell hB _)).trans (ih.below B hB)
    · exact ih.size.trans (by simp [World.setCell])
/-- the cells of a decree in a block of the call's own, that may be laid -/
def DcrAt (w : World) (g : Nat) (d : Dcr) : Prop := Cells w g 0 (dcrCells d) ∧ ∀ j, w.frozen? ⟨g, j, none⟩ = false
theorem DcrAt.seven {w : World} {g : Nat} {d : Dcr} (h : DcrAt w g d) : w.cell? ⟨g, 0, none⟩ = some (.int .i64 d.kind) ∧ w.cell? ⟨g, 1, none⟩ = some (.int .i64 d.node) ∧ w.cell? ⟨g, 2, none⟩ = some (.int .i64 d.by_) ∧ w.cell? ⟨g, 3, none⟩ = some (.int .i64 d.arc.size0) ∧ w.cell? ⟨g, 4, none⟩ = some (.int .i64 d.arc.size) ∧ w.cell? ⟨g, 5, none⟩ = some (.int .u32 (d.count : Int)) ∧ w.cell? ⟨g, 6, none⟩ = some (.int .u32 (d.seen : Int)) := by
  have := h.1
  exact ⟨this 0 _ rfl, this 1 _ rfl, this 2 _ rfl, this 3 _ rfl, this 4 _ rfl, this 5 _ rfl, this 6 _ rfl⟩

set_option maxHeartbeats 1000000 in
theorem caught42 (gs ge : Nat) (a : Addr) (n : Int) (w : World) (hE : ErrT w) (hn : w.cell? a = some (.int .i64 n)) (hs7 : ∀ j, j < 7 → (w.cell? ⟨gs, j, none⟩).isSome = true) (hsf : ∀ j, w.frozen? ⟨gs, j, none⟩ = false) (he : w.cell? ⟨ge, 0, none⟩ = some (.int .i64 0)) (hne : gs ≠ ge) (hfe : w.frozen? ⟨ge, 0, none⟩ = false) :
    CallsD Tryz.prog 42 #[.pointer (some ⟨gs, 0, none⟩), .pointer (some ⟨ge, 0, none⟩)] (.panicking [{ v := .iface 89 (.pointer (some a)), recovered := false }]) w fun e u' w' =>
      e = .returned (.tuple #[]) ∧ u' = .panicking [{ v := .iface 89 (.pointer (some a)), recovered := true }] ∧ DcrAt w' gs ⟨0, 0, 0, ⟨0, 0⟩, 0, 0⟩ ∧ w'.cell? ⟨ge, 0, none⟩ = some (.int .i64 n) ∧ ∀ B, B ≤ gs → B ≤ ge → B ≤ w.heap.size → Below B w w' := by
  refine callsD_of_wpS Tryz.func42 rfl fun c₀ cs hu => ?_
  apply wpS_seq
  apply wpS_region
  simp [wpOpsS, go_sem, recoverD, hu, Tryz.ntmps42, Exit.thenS]
  have hga := World.block_lt_of_cell? w _ hn
  obtain ⟨v0, s0⟩ := Option.isSome_iff_exists.1 (hs7 0 (by omega))
  obtain ⟨v1, s1⟩ := Option.isSome_iff_exists.1 (hs7 1 (by omega))
  obtain ⟨v2, s2⟩ := Option.isSome_iff_exists.1 (hs7 2 (by omega))
  obtain ⟨v3, s3⟩ := Option.isSome_iff_exists.1 (hs7 3 (by omega))
  obtain ⟨v4, s4⟩ := Option.isSome_iff_exists.1 (hs7 4 (by omega))
  obtain ⟨v5, s5⟩ := Option.isSome_iff_exists.1 (hs7 5 (by omega))
  obtain ⟨v6, s6⟩ := Option.isSome_iff_exists.1 (hs7 6 (by omega))
  have hgs := World.block_lt_of_cell? w _ s0
  have hge := World.block_lt_of_cell? w _ he
  have FO := Lib.hid (faultof_any a w hE)
  clear hE
  refine wpS_of_wp ?_
  go_wp2_with fail
  refine FO.out.mono ?_
  rintro e w1 ⟨rfl, hb⟩
  have hn1 : w1.cell? a = some (.int .i64 n) := (hb.cell hga).trans hn
  have t0 := (hb.cell (p := ⟨gs, 0, none⟩) hgs).trans s0
  have t1 := (hb.cell (p := ⟨gs, 1, none⟩) hgs).trans s1
  have t2 := (hb.cell (p := ⟨gs, 2, none⟩) hgs).trans s2
  have t3 := (hb.cell (p := ⟨gs, 3, none⟩) hgs).trans s3
  have t4 := (hb.cell (p := ⟨gs, 4, none⟩) hgs).trans s4
  have t5 := (hb.cell (p := ⟨gs, 5, none⟩) hgs).trans s5
  have t6 := (hb.cell (p := ⟨gs, 6, none⟩) hgs).trans s6
  have he1 := (hb.cell (p := ⟨ge, 0, none⟩) hge).trans he
  have fz : ∀ j, w1.frozen? ⟨gs, j, none⟩ = false := fun j => (hb.frozen (p := ⟨gs, j, none⟩) hgs).trans (hsf j)
  have hfe1 := (hb.frozen (p := ⟨ge, 0, none⟩) hge).trans hfe
  have HB := Lib.hid hb
  clear hb hn hs7 hsf he hfe s0 s1 s2 s3 s4 s5 s6
  go_wp2_with fail
  have HL := laidL gs (dcrCells ⟨0, 0, 0, ⟨0, 0⟩, 0, 0⟩) w1 0 (fun j hj => by
    have hj : j < 7 := hj
    rcases (by omega : j = 0 ∨ j = 1 ∨ j = 2 ∨ j = 3 ∨ j = 4 ∨ j = 5 ∨ j = 6) with rfl | rfl | rfl | rfl | rfl | rfl | rfl
    · rw [t0]; rfl
    · rw [t1]; rfl
    · rw [t2]; rfl
    · rw [t3]; rfl
    · rw [t4]; rfl
    · rw [t5]; rfl
    · rw [t6]; rfl)
  refine ⟨rfl, _, rfl, .tuple #[], by simp [results, Tryz.results42], rfl, rfl, ?_⟩
  show DcrAt ((layL w1 gs 0 (dcrCells ⟨0, 0, 0, ⟨0, 0⟩, 0, 0⟩)).setCell ⟨ge, 0, none⟩ (.int .i64 n)) gs _ ∧ ((layL w1 gs 0 (dcrCells ⟨0, 0, 0, ⟨0, 0⟩, 0, 0⟩)).setCell ⟨ge, 0, none⟩ (.int .i64 n)).cell? _ = _ ∧ ∀ B, B ≤ gs → B ≤ ge → B ≤ w.heap.size → Below B w ((layL w1 gs 0 (dcrCells ⟨0, 0, 0, ⟨0, 0⟩, 0, 0⟩)).setCell ⟨ge, 0, none⟩ (.int .i64 n))
  refine ⟨⟨HL.at_.same fun j _ => World.cell?_setCell_other _ _ _ _ (by intro e; exact hne (congrArg Addr.block e).symm), fun j => by rw [World.frozen?_setCell, HL.fz]; exact fz j⟩, World.cell?_setCell_same _ ⟨ge, 0, none⟩ _ (show _ = some (Value.int .i64 0) from by rw [HL.out ge 0 (.inl (Ne.symm hne))]; exact he1), fun B h1 h2 h3 => ?_⟩
  exact ((HB.out.mono h3).trans (HL.below B h1)).setCell h2 _
end Go.Proofs.YtgifnhmnohojeaaGreatDoor
