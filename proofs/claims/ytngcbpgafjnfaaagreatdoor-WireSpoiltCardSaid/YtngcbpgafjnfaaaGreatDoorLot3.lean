/- The document's writer: what is written so far, behind a pointer; a number, an int, a bool, a text. What a slice of structs holds, read as a list; the document's writer: entries. The document's writer: managers, an item. -/
import Derived.Test.YtngcbpgafjnfaaaGreatDoorLot2

namespace Go.Proofs.YtngcbpgafjnfaaaGreatDoor
open Go.RowKit
set_option linter.unusedVariables false

theorem le_bt : ∀ (n v k : Nat), k < n → bt (le n v) k = v / 256 ^ k % 256
  | 0, _, _, h => by omega
  | n + 1, v, 0, _ => by simp [le, bt]
  | n + 1, v, k + 1, h => by
    have := le_bt n (v / 256) k (by omega)
    have e : bt (le (n + 1) v) (k + 1) = bt (le n (v / 256)) k := by simp [le, bt]
    rw [e, this, Nat.div_div_eq_div_mul, Nat.pow_succ, Nat.mul_comm]
theorem le_take (n v k : Nat) (h : k < n) : (le n v).take (k + 1) = (le n v).take k ++ [v / 256 ^ k % 256] := by
  have hk : k < (le n v).length := by rw [le_length]; exact h
  rw [List.take_add_one, bt_get hk, le_bt n v k h]
  rfl
theorem le_whole (n v : Nat) : (le n v).take n = le n v := by
  have := List.take_length (l := le n v)
  rwa [le_length] at this

/-- blocks of P stay as they are -/
structure Safe (P : Nat → Prop) (w w' : World) : Prop where
  os : w'.os = w.os
  tape : w'.tape = w.tape
  output : w'.output = w.output
  size : w.heap.size ≤ w'.heap.size
  block : ∀ k, P k → w'.heap[k]? = w.heap[k]?
section
variable {P Q : Nat → Prop} {w w' w'' : World}
theorem Safe.refl (P : Nat → Prop) (w : World) : Safe P w w := ⟨rfl, rfl, rfl, Nat.le_refl _, fun _ _ => rfl⟩
theorem Safe.trans (h : Safe P w w') (k : Safe P w' w'') : Safe P w w'' :=
  ⟨k.os.trans h.os, k.tape.trans h.tape, k.output.trans h.output, Nat.le_trans h.size k.size, fun i hi => (k.block i hi).trans (h.block i hi)⟩
theorem Safe.mono (h : Safe P w w') (hq : ∀ k, Q k → P k) : Safe Q w w' := ⟨h.os, h.tape, h.output, h.size, fun k hk => h.block k (hq k hk)⟩
theorem Safe.below {B : Nat} (h : Safe (· < B) w w') : Below B w w' := ⟨h.os, h.tape, h.output, h.size, fun k hk => h.block k hk⟩
theorem Safe.cell (h : Safe P w w') {a : Addr} (ha : P a.block) : w'.cell? a = w.cell? a := World.cell?_of_block (w := w) (h.block _ ha)
theorem Safe.of_keep {S : List Nat} (h : Keep S w w') (hp : ∀ k, P k → k < w.heap.size ∧ k ∉ S) : Safe P w w' := ⟨h.os, h.tape, h.output, h.size, fun k hk => h.block k (hp k hk).1 (hp k hk).2⟩
theorem Safe.alloc (h : Safe P w w') (hp : ∀ k, P k → k < w'.heap.size) (o : Obj) : Safe P w (w'.alloc o) := h.trans (.of_keep (S := []) (.of_below (below_alloc (Below.refl _ _) o) []) fun k hk => ⟨hp k hk, by simp⟩)
end

/-- a writer at block g: what is written, whether all of it may be -/
structure OutAt (w : World) (g : Nat) (ao : Option Addr) (n cap : Nat) (l : List Nat) (ok : Bool) : Prop where
  c0 : w.cell? ⟨g, 0, none⟩ = some (.slice ao n cap)
  c1 : w.cell? ⟨g, 1, none⟩ = some (.bool ok)
  f0 : w.frozen? ⟨g, 0, none⟩ = false
  f1 : w.frozen? ⟨g, 1, none⟩ = false
  lt : g < w.heap.size
  own : Own w 0 ao n cap l
  apart : g ∉ blk ao
/-- these blocks are none of the writer's -/
def Off (P : Nat → Prop) (w : World) (g : Nat) (ao : Option Addr) : Prop := ∀ b, P b → b < w.heap.size ∧ b ≠ g ∧ b ∉ blk ao
def OutIs (w : World) (P : Nat → Prop) (g : Nat) (l : List Nat) (ok : Bool) : Prop := ∃ ao n cap, OutAt w g ao n cap l ok ∧ Off P w g ao
section
variable {P Q : Nat → Prop} {w w' : World} {g n cap : Nat} {ao : Option Addr} {l : List Nat} {ok : Bool}
theorem OutAt.keep {S : List Nat} (h : OutAt w g ao n cap l ok) (k : Keep S w w') (h1 : g ∉ S) (h2 : ∀ b ∈ blk ao, b ∉ S) : OutAt w' g ao n cap l ok :=
  ⟨(k.cell (a := ⟨g, 0, none⟩) h.lt h1).trans h.c0, (k.cell (a := ⟨g, 1, none⟩) h.lt h1).trans h.c1, (k.frozen (a := ⟨g, 0, none⟩) h.lt h1).trans h.f0, (k.frozen (a := ⟨g, 1, none⟩) h.lt h1).trans h.f1,
    Nat.lt_of_lt_of_le h.lt k.size, h.own.keep k h2, h.apart⟩
theorem OutAt.below (h : OutAt w g ao n cap l ok) (b : Below w.heap.size w w') : OutAt w' g ao n cap l ok := h.keep (Keep.of_below b []) (by simp) (by simp)
/-- the flag is laid -/
theorem OutAt.put (h : OutAt w g ao n cap l ok) (b : Bool) : OutAt (w.setCell ⟨g, 1, none⟩ (.bool b)) g ao n cap l b := by
  have k := Keep.setCell w ⟨g, 1, none⟩ (.bool b)
  refine ⟨?_, World.cell?_setCell_same w _ _ h.c1, by rw [World.frozen?_setCell]; exact h.f0, by rw [World.frozen?_setCell]; exact h.f1, by simpa [World.setCell] using h.lt, h.own.keep k (fun b hb hm => h.apart ?_), h.apart⟩
  · rw [World.cell?_setCell_other _ _ _ _ (by simp)]; exact h.c0
  · simp at hm; exact hm ▸ hb
/-- the bytes are laid -/
theorem OutAt.lay (h : OutAt w g ao n cap l ok) {ao' : Option Addr} {n' cap' : Nat} {l' : List Nat} {w2 : World} (k : Keep (blk ao) w w2) (o : Own w2 0 ao' n' cap' l') (hn : ∀ b ∈ blk ao', b ∈ blk ao ∨ w.heap.size ≤ b) :
    OutAt (w2.setCell ⟨g, 0, none⟩ (.slice ao' n' cap')) g ao' n' cap' l' ok := by
  have ha : g ∉ blk ao' := fun hm => by
    rcases hn g hm with h1 | h1
    · exact h.apart h1
    · have := h.lt; omega
  have hc0 := (k.cell (a := ⟨g, 0, none⟩) h.lt h.apart).trans h.c0
  have hc1 := (k.cell (a := ⟨g, 1, none⟩) h.lt h.apart).trans h.c1
  have hf0 := (k.frozen (a := ⟨g, 0, none⟩) h.lt h.apart).trans h.f0
  have hf1 := (k.frozen (a := ⟨g, 1, none⟩) h.lt h.apart).trans h.f1
  have hlt : g < w2.heap.size := Nat.lt_of_lt_of_le h.lt k.size
  refine ⟨World.cell?_setCell_same w2 _ _ hc0, ?_, by rw [World.frozen?_setCell]; exact hf0, by rw [World.frozen?_setCell]; exact hf1, by simpa [World.setCell] using hlt, o.keep (Keep.setCell w2 ⟨g, 0, none⟩ _) (fun b hb hm => ha (by simp at hm; exact hm ▸ hb)), ha⟩
  rw [World.cell?_setCell_other _ _ _ _ (by simp)]
  exact hc1
theorem Off.put (h : Off P w g ao) {a : World} (hb : Safe P a w) (v : Value) (j : Nat) : Safe P a (w.setCell ⟨g, j, none⟩ v) ∧ Off P (w.setCell ⟨g, j, none⟩ v) g ao :=
  ⟨hb.trans (.of_keep (Keep.setCell w ⟨g, j, none⟩ v) fun k hk => ⟨(h k hk).1, by simpa using (h k hk).2.1⟩), fun b hb => ⟨by simpa [World.setCell] using (h b hb).1, (h b hb).2⟩⟩
theorem Off.lay (h : Off P w g ao) {a : World} (hb : Safe P a w) {ao' : Option Addr} {w2 : World} (k : Keep (blk ao) w w2) (hn : ∀ b ∈ blk ao', b ∈ blk ao ∨ w.heap.size ≤ b) (v : Value) : Safe P a (w2.setCell ⟨g, 0, none⟩ v) ∧ Off P (w2.setCell ⟨g, 0, none⟩ v) g ao' := by
  have h2 : Off P w2 g ao' := fun b hb => ⟨Nat.lt_of_lt_of_le (h b hb).1 k.size, (h b hb).2.1, fun hm => by
    rcases hn b hm with h1 | h1
    · exact (h b hb).2.2 h1
    · have := (h b hb).1; omega⟩
  exact h2.put (hb.trans (.of_keep k fun b hb => ⟨(h b hb).1, (h b hb).2.2⟩)) v 0
theorem Off.alloc (h : Off P w g ao) (o : Obj) : Off P (w.alloc o) g ao := fun b hb => ⟨by have := (h b hb).1; simp; omega, (h b hb).2⟩
theorem OutIs.mono (h : OutIs w P g l ok) (hq : ∀ k, Q k → P k) : OutIs w Q g l ok := by
  obtain ⟨ao, n, cap, h1, h2⟩ := h
  exact ⟨ao, n, cap, h1, fun b hb => h2 b (hq b hb)⟩
/-- a block more, that is none of the writer's -/
theorem OutIs.alloc (h : OutIs w P g l ok) (o : Obj) : OutIs (w.alloc o) (fun b => P b ∨ b = w.heap.size) g l ok := by
  obtain ⟨ao, n, cap, h1, h2⟩ := h
  refine ⟨ao, n, cap, h1.below (below_alloc (Below.refl _ _) o), fun b hb => ?_⟩
  rcases hb with hb | rfl
  · exact h2.alloc o b hb
  · exact ⟨by simp, fun e => by have := h1.lt; omega, fun hm => by have := (h1.own.lt_size _ hm).2; omega⟩
theorem OutIs.lt (h : OutIs w P g l ok) : ∀ k, P k → k < w.heap.size := by
  obtain ⟨ao, n, cap, h1, h2⟩ := h
  exact fun k hk => (h2 k hk).1
end

/-- what a writer's method does -/
def Wrote (w : World) (P : Nat → Prop) (g : Nat) (l : List Nat) (ok : Bool) (e : Ending) (w' : World) : Prop := e = .returned (.tuple #[]) ∧ OutIs w' P g l ok ∧ Safe P w w'
/-- what the writer lays of an int -/
def wholeOut (size : Nat) (v : Int) : List Nat := if v < 0 then [] else le size v.toNat
theorem wholeOut_enc {size most : Nat} {v : Int} (h : (whole size most).ok v = true) : wholeOut size v = (whole size most).enc v := by
  rw [whole_ok, decide_eq_true_eq] at h
  rw [wholeOut, if_neg (by omega), whole_enc]
theorem wholeOut_length (size : Nat) (v : Int) : (wholeOut size v).length ≤ size := by
  unfold wholeOut; split
  · simp
  · rw [le_length]; omega

set_option maxHeartbeats 4000000 in
theorem onum_any (P : Nat → Prop) (g : Nat) (l : List Nat) (ok : Bool) (v : Nat) (hv : v < 18446744073709551616) (size : Nat) (hs : size ≤ 8) (hl : l.length + size ≤ 140737488355328) (most : Nat) (w : World) (h : OutIs w P g l ok) :
    Calls Tryz.prog 54 #[.pointer (some ⟨g, 0, none⟩), .int .u64 (v : Int), .int .i64 (size : Int), .int .u64 (most : Int)] w (Wrote w P g (l ++ le size v) (ok && decide (v ≤ most))) := by
  obtain ⟨ao, n, cap, ha, hoff⟩ := h
  have hc1 := ha.c1
  have hf1 := ha.f1
  have HO := Lib.hid (ha.put (ok && decide (v ≤ most)))
  have HB := Lib.hid (hoff.put (Safe.refl P w) (.bool (ok && decide (v ≤ most))) 1)
  clear ha hoff
  have HL := Lib.hid (le_take size v)
  have HW := Lib.hid (le_whole size v)
  have hlen : ∀ k, k ≤ size → (l ++ (le size v).take k).length = l.length + k := fun k hk => by simp [le_length]; omega
  have hsg : IntKind.u64.signed = false := rfl
  cases ok
  · simp only [Bool.false_and, Bool.true_and] at HO HB ⊢
    go_enter Tryz.func54, Tryz.ntmps54
    go_wp2_with fail
    generalize (w.setCell ⟨g, 1, none⟩ (Value.bool false)) = w1 at *
    clear hc1 hf1
    go_loopw [1, 8] (fun y i wr => ∃ (k n2 cap2 : Nat) (ao2 : Option Addr), k ≤ size ∧ i = .int .i64 (k : Int) ∧ y = .int .u64 (v / 256 ^ k : Nat) ∧ OutAt wr g ao2 n2 cap2 (l ++ (le size v).take k) false ∧ Safe P w wr ∧ Off P wr g ao2) (fun _ i _ => size - (intOf i).toNat)
    case atStart => exact ⟨0, n, cap, ao, by omega, rfl, by simp, by simpa using HO.out, HB.out.1, HB.out.2⟩
    case round =>
      obtain ⟨k, n2, cap2, ao2, hk, rfl, rfl, ho, hb, hof⟩ := hrel
      have h1 := hlen k hk
      have hn2 := ho.own.len
      have hc0 := ho.c0
      have hf0 := ho.f0
      have hltg := ho.lt
      have HO2 := Lib.hid ho
      have HB2 := Lib.hid hb
      have HF2 := Lib.hid hof
      clear ho hb hof
      by_cases hlt : k < size
      · have hy : v / 256 ^ k < 18446744073709551616 := Nat.lt_of_le_of_lt (Nat.div_le_self _ _) hv
        have HS := Lib.hid (HL.out k hlt)
        have HP := Lib.hid (show v / 256 ^ (k + 1) = v / 256 ^ k / 256 by rw [Nat.pow_succ, Nat.div_div_eq_div_mul])
        generalize v / 256 ^ k = y at *
        have HA := Lib.hid (HO2.out.below (below_alloc (Below.refl _ _) (.cells #[u8v (y % 256)] 5)))
        go_wp2_with (at_builtin; refine wpList_app rfl (.tmp 30) (.tmp 34) rfl rfl HA.out.own rfl (Own.one wr 0 (y % 256) (by omega) (by omega)).rd rfl (Nat.zero_le _) (by omega) ?_; intro ao3 cap3 w3 o3 k3 n3; have hc3 := (k3.cell (a := ⟨g, 0, none⟩) HA.out.lt HA.out.apart).trans HA.out.c0; have hf3 := (k3.frozen (a := ⟨g, 0, none⟩) HA.out.lt HA.out.apart).trans HA.out.f0)
        go_roundw
        case rel => exact ⟨k + 1, n2 + 1, cap3, ao3, by omega, by go_num, by rw [HP.out]; go_num, by rw [HS.out, ← List.append_assoc]; exact HA.out.lay k3 o3 n3, ((HF2.out.alloc _).lay (HB2.out.alloc (fun k hk => (HF2.out k hk).1) _) k3 n3 _).1, ((HF2.out.alloc _).lay (HB2.out.alloc (fun k hk => (HF2.out k hk).1) _) k3 n3 _).2⟩
        case measure => simp [intOf]; omega
      · obtain rfl : size = k := by omega
        go_wp2_with fail
        go_end0
        refine ⟨rfl, ⟨ao2, n2, cap2, ?_, HF2.out⟩, HB2.out⟩
        have := HO2.out
        rw [HW.out] at this
        exact this
  · simp only [Bool.false_and, Bool.true_and] at HO HB ⊢
    go_enter Tryz.func54, Tryz.ntmps54
    go_wp2_with fail
    generalize (w.setCell ⟨g, 1, none⟩ (Value.bool (decide (v ≤ most)))) = w1 at *
    clear hc1 hf1
    generalize decide (v ≤ most) = ok2 at *
    go_loopw [1, 8] (fun y i wr => ∃ (k n2 cap2 : Nat) (ao2 : Option Addr), k ≤ size ∧ i = .int .i64 (k : Int) ∧ y = .int .u64 (v / 256 ^ k : Nat) ∧ OutAt wr g ao2 n2 cap2 (l ++ (le size v).take k) ok2 ∧ Safe P w wr ∧ Off P wr g ao2) (fun _ i _ => size - (intOf i).toNat)
    case atStart => exact ⟨0, n, cap, ao, by omega, rfl, by simp, by simpa using HO.out, HB.out.1, HB.out.2⟩
    case round =>
      obtain ⟨k, n2, cap2, ao2, hk, rfl, rfl, ho, hb, hof⟩ := hrel
      have h1 := hlen k hk
      have hn2 := ho.own.len
      have hc0 := ho.c0
      have hf0 := ho.f0
      have hltg := ho.lt
      have HO2 := Lib.hid ho
      have HB2 := Lib.hid hb
      have HF2 := Lib.hid hof
      clear ho hb hof
      by_cases hlt : k < size
      · have hy : v / 256 ^ k < 18446744073709551616 := Nat.lt_of_le_of_lt (Nat.div_le_self _ _) hv
        have HS := Lib.hid (HL.out k hlt)
        have HP := Lib.hid (show v / 256 ^ (k + 1) = v / 256 ^ k / 256 by rw [Nat.pow_succ, Nat.div_div_eq_div_mul])
        generalize v / 256 ^ k = y at *
        have HA := Lib.hid (HO2.out.below (below_alloc (Below.refl _ _) (.cells #[u8v (y % 256)] 5)))
        go_wp2_with (at_builtin; refine wpList_app rfl (.tmp 30) (.tmp 34) rfl rfl HA.out.own rfl (Own.one wr 0 (y % 256) (by omega) (by omega)).rd rfl (Nat.zero_le _) (by omega) ?_; intro ao3 cap3 w3 o3 k3 n3; have hc3 := (k3.cell (a := ⟨g, 0, none⟩) HA.out.lt HA.out.apart).trans HA.out.c0; have hf3 := (k3.frozen (a := ⟨g, 0, none⟩) HA.out.lt HA.out.apart).trans HA.out.f0)
        go_roundw
        case rel => exact ⟨k + 1, n2 + 1, cap3, ao3, by omega, by go_num, by rw [HP.out]; go_num, by rw [HS.out, ← List.append_assoc]; exact HA.out.lay k3 o3 n3, ((HF2.out.alloc _).lay (HB2.out.alloc (fun k hk => (HF2.out k hk).1) _) k3 n3 _).1, ((HF2.out.alloc _).lay (HB2.out.alloc (fun k hk => (HF2.out k hk).1) _) k3 n3 _).2⟩
        case measure => simp [intOf]; omega
      · obtain rfl : size = k := by omega
        go_wp2_with fail
        go_end0
        refine ⟨rfl, ⟨ao2, n2, cap2, ?_, HF2.out⟩, HB2.out⟩
        have := HO2.out
        rw [HW.out] at this
        exact this

set_option maxHeartbeats 4000000 in
theorem owhole_any (P : Nat → Prop) (g : Nat) (l : List Nat) (ok : Bool) (v : Int) (hv : v ≤ 9223372036854775807) (size : Nat) (hs : size ≤ 8) (hl : l.length + size ≤ 140737488355328) (most : Nat) (w : World) (h : OutIs w P g l ok) :
    Calls Tryz.prog 53 #[.pointer (some ⟨g, 0, none⟩), .int .i64 v, .int .i64 (size : Int), .int .u64 (most : Int)] w (Wrote w P g (l ++ wholeOut size v) (ok && (whole size most).ok v)) := by
  by_cases hneg : v < 0
  · obtain ⟨ao, n, cap, ha, hoff⟩ := h
    have hc1 := ha.c1
    have hf1 := ha.f1
    have HO := Lib.hid (ha.put false)
    have HB := Lib.hid (hoff.put (Safe.refl P w) (.bool false) 1)
    have HX := Lib.hid (show wholeOut size v = [] by rw [wholeOut, if_pos hneg])
    have HF := Lib.hid (show (whole size most).ok v = false by rw [whole_ok]; exact decide_eq_false (by omega))
    clear ha hoff
    go_enter Tryz.func53, Tryz.ntmps53
    go_wp2_with fail
    refine bodyPost_ret (results_none rfl _ _ _) rfl ?_
    rw [HF.out, Bool.and_false, HX.out, List.append_nil]
    exact ⟨rfl, ⟨ao, n, cap, HO.out, HB.out.2⟩, HB.out.1⟩
  · obtain ⟨u, rfl⟩ := Int.eq_ofNat_of_zero_le (show 0 ≤ v by omega)
    have N := Lib.hid (onum_any P g l ok u (by omega) size hs hl most w h)
    have HF := Lib.hid (show (whole size most).ok (u : Int) = decide (u ≤ most) by rw [whole_ok]; congr 1; apply propext; omega)
    clear h
    go_enter Tryz.func53, Tryz.ntmps53
    go_wp2_with fail
    refine N.out.mono ?_
    rintro e w1 ⟨rfl, h1, h2⟩
    go_wp2_with fail
    go_end0
    rw [HF.out, show wholeOut size (u : Int) = le size u by rw [wholeOut, if_neg (by omega)]; rfl]
    exact ⟨rfl, h1, h2⟩

set_option maxHeartbeats 4000000 in
theorem oflag_any (P : Nat → Prop) (g : Nat) (l : List Nat) (ok : Bool) (hl : l.length + 1 ≤ 140737488355328) (b : Bool) (w : World) (h : OutIs w P g l ok) :
    Calls Tryz.prog 138 #[.pointer (some ⟨g, 0, none⟩), .bool b] w (Wrote w P g (l ++ flag.enc b) ok) := by
  cases b
  · have N := Lib.hid (onum_any P g l ok 0 (by omega) 1 (by omega) hl 1 w h)
    clear h
    go_enter Tryz.func138, Tryz.ntmps138
    go_wp2_with fail
    refine N.out.mono ?_
    rintro e w1 ⟨rfl, h1, h2⟩
    go_wp2_with fail
    go_end0
    exact ⟨rfl, by rw [show (ok && decide (0 ≤ 1)) = ok by simp] at h1; exact h1, h2⟩
  · have N := Lib.hid (onum_any P g l ok 1 (by omega) 1 (by omega) hl 1 w h)
    clear h
    go_enter Tryz.func138, Tryz.ntmps138
    go_wp2_with fail
    refine N.out.mono ?_
    rintro e w1 ⟨rfl, h1, h2⟩
    go_wp2_with fail
    go_end0
    exact ⟨rfl, by rw [show (ok && decide (1 ≤ 1)) = ok by simp] at h1; exact h1, h2⟩

set_option maxHeartbeats 4000000 in
theorem otext_any (P : Nat → Prop) (g : Nat) (l : List Nat) (ok : Bool) (s : ByteArray) (hl : l.length + 1 + s.size ≤ 140737488355328) (most : Nat) (hm : most ≤ 255) (w : World) (h : OutIs w P g l ok) :
    Calls Tryz.prog 139 #[.pointer (some ⟨g, 0, none⟩), .string s, .int .i64 (most : Int)] w (Wrote w P g (l ++ (le 1 s.size ++ bs s)) (ok && decide (s.size ≤ most))) := by
  have N := Lib.hid (onum_any P g l ok s.size (by omega) 1 (by omega) (by omega) most w h)
  clear h
  go_enter Tryz.func139, Tryz.ntmps139
  go_wp2_with fail
  refine N.out.mono ?_
  rintro e w1 ⟨rfl, ⟨ao, n, cap, ho, hof⟩, h2⟩
  have hn := ho.own.len
  have hc0 := ho.c0
  have hf0 := ho.f0
  have HO := Lib.hid ho
  have HN := Lib.hid (show n = l.length + 1 by rw [← hn]; simp [le_length])
  have HF2 := Lib.hid hof
  have H2 := Lib.hid h2
  clear ho hn hof h2
  go_wp2_with (at_builtin; refine wpList_apps rfl (.tmp 17) (.tmp 18) rfl rfl HO.out.own rfl (Nat.zero_le _) (by have := HN.out; omega) ?_; intro ao3 cap3 w3 o3 k3 n3; have hc3 := (k3.cell (a := ⟨g, 0, none⟩) HO.out.lt HO.out.apart).trans HO.out.c0; have hf3 := (k3.frozen (a := ⟨g, 0, none⟩) HO.out.lt HO.out.apart).trans HO.out.f0)
  go_end0
  refine ⟨rfl, ⟨ao3, n + s.size, cap3, ?_, (HF2.out.lay H2.out k3 n3 _).2⟩, (HF2.out.lay H2.out k3 n3 _).1⟩
  rw [← List.append_assoc]
  exact HO.out.lay k3 o3 n3
end Go.Proofs.YtngcbpgafjnfaaaGreatDoor


namespace Go.Proofs.YtngcbpgafjnfaaaGreatDoor
open Go.RowKit
set_option linter.unusedVariables false

/-- what the writer lays of a list, whatever it is: its number, then max of them at most -/
def listOut {α : Type} (max : Nat) (c : Cod α) (l : List α) : List Nat := le 1 l.length ++ (l.take max).flatMap c.enc
def listMay {α : Type} (max : Nat) (c : Cod α) (l : List α) : Bool := decide (l.length ≤ max) && (l.take max).all c.ok
theorem listMay_ok {α : Type} (max : Nat) (c : Cod α) (l : List α) : listMay max c l = (list max c).ok l := by
  rw [list_ok, listMay]
  by_cases h : l.length ≤ max
  · rw [List.take_of_length_le h]
  · simp [h]
theorem listOut_enc {α : Type} {max : Nat} {c : Cod α} {l : List α} (h : (list max c).ok l = true) : listOut max c l = (list max c).enc l := by
  rw [list_ok, Bool.and_eq_true, decide_eq_true_eq] at h
  rw [list_enc, listOut, List.take_of_length_le h.1]
theorem take_more {α : Type} {l : List α} {k : Nat} {a : α} (h : l[k]? = some a) : l.take (k + 1) = l.take k ++ [a] := by
  rw [List.take_add_one, h]; rfl
theorem map_more {α : Type} {l : List α} {k : Nat} {a : α} (h : l[k]? = some a) (f : α → List Nat) : (l.take (k + 1)).flatMap f = (l.take k).flatMap f ++ f a := by
  rw [take_more h, List.flatMap_append]; simp
theorem all_more {α : Type} {l : List α} {k : Nat} {a : α} (h : l[k]? = some a) (f : α → Bool) : (l.take (k + 1)).all f = ((l.take k).all f && f a) := by
  rw [take_more h, List.all_append]; simp
/-- the lists grow -/
theorem take_len {α : Type} (l : List α) (f : α → List Nat) {k m : Nat} (h : k ≤ m) : ((l.take k).flatMap f).length ≤ ((l.take m).flatMap f).length := by
  have e : l.take m = l.take k ++ (l.take m).drop k := by
    have := (List.take_append_drop k (l.take m)).symm
    rwa [List.take_take, Nat.min_eq_left h] at this
  rw [e, List.flatMap_append, List.length_append]
  omega

/-- element i of a slice has its cells from o + i * size on -/
def SlIs {α : Type} (size : Nat) (is : World → (Nat → Prop) → List Value → α → Prop) (w : World) (P : Nat → Prop) (ao : Option Addr) (n cap : Nat) (l : List α) : Prop :=
  l.length = n ∧ n ≤ cap ∧ cap ≤ maxLen ∧ ∀ i a, l[i]? = some a → ∃ g o cs, ao = some ⟨g, o, none⟩ ∧ P g ∧ is w P cs a ∧ ∀ j u, cs[j]? = some u → w.cell? ⟨g, o + i * size + j, none⟩ = some u
theorem SlIs.safe {α : Type} {size : Nat} {is : World → (Nat → Prop) → List Value → α → Prop} {w w' : World} {P : Nat → Prop} {ao : Option Addr} {n cap : Nat} {l : List α} (hi : ∀ cs a, is w P cs a → is w' P cs a)
    (h : SlIs size is w P ao n cap l) (b : Safe P w w') : SlIs size is w' P ao n cap l :=
  ⟨h.1, h.2.1, h.2.2.1, fun i a ha => by
    obtain ⟨g, o, cs, h1, h2, h3, h4⟩ := h.2.2.2 i a ha
    exact ⟨g, o, cs, h1, h2, hi _ _ h3, fun j u hu => (b.cell h2).trans (h4 j u hu)⟩⟩
theorem SlIs.lt {α : Type} {size : Nat} {is : World → (Nat → Prop) → List Value → α → Prop} {w : World} {P : Nat → Prop} {ao : Option Addr} {n cap : Nat} {l : List α} (h : SlIs size is w P ao n cap l) {k : Nat} (hk : k < n) : ∃ a, l[k]? = some a :=
  ⟨l[k]'(by rw [h.1]; exact hk), List.getElem?_eq_getElem (by rw [h.1]; exact hk)⟩

/-- an entry by its cells -/
def EntIs (w : World) (P : Nat → Prop) (cs : List Value) (e : Ent) : Prop := cs = [.string e.key, .string e.val]
abbrev EntsIs := @SlIs Ent 2 EntIs
theorem EntsIs.safe {w w' : World} {P : Nat → Prop} {ao : Option Addr} {n cap : Nat} {l : List Ent} (h : EntsIs w P ao n cap l) (b : Safe P w w') : EntsIs w' P ao n cap l := SlIs.safe (w := w) (w' := w') (is := EntIs) (fun _ _ h => h) h b
theorem ent_enc (e : Ent) : entC.enc e = (le 1 e.key.size ++ bs e.key) ++ (le 1 e.val.size ++ bs e.val) := by
  show (text 32).enc e.key ++ (text 64).enc e.val = _
  rw [text_enc, text_enc]
theorem ent_ok (e : Ent) : entC.ok e = (decide (e.key.size ≤ 32) && decide (e.val.size ≤ 64)) := by
  show (true && ((text 32).ok e.key && (text 64).ok e.val)) = _
  rw [text_ok, text_ok, Bool.true_and]

set_option maxHeartbeats 8000000 in
theorem oentries_any (P : Nat → Prop) (g : Nat) (l : List Nat) (ok : Bool) (ao : Option Addr) (n cap : Nat) (es : List Ent) (hl : (l ++ listOut 8 entC es).length ≤ 140737488355328) (w : World) (hr : EntsIs w P ao n cap es) (h : OutIs w P g l ok) :
    Calls Tryz.prog 141 #[.pointer (some ⟨g, 0, none⟩), .slice ao n cap] w (Wrote w P g (l ++ listOut 8 entC es) (ok && entsC.ok es)) := by
  have hn : n ≤ 9223372036854775807 := Nat.le_trans hr.2.1 hr.2.2.1
  have hes := hr.1
  have HLL := Lib.hid (show l.length + 1 + ((es.take 8).flatMap entC.enc).length ≤ 140737488355328 by simpa [listOut, le_length, Nat.add_assoc] using hl)
  have N := Lib.hid (onum_any P g l ok n (by omega) 1 (by omega) (by have := HLL.out; omega) 8 w h)
  have HR := Lib.hid hr
  clear hr h hl
  go_enter Tryz.func141, Tryz.ntmps141
  go_wp2_with fail
  refine N.out.mono ?_
  rintro e w1 ⟨rfl, h1, h2⟩
  have H1 := Lib.hid h1
  have H2 := Lib.hid h2
  clear h1 h2
  go_wp2_with fail
  go_loopw [4] (fun i wr => ∃ (k : Nat), k ≤ n ∧ k ≤ 8 ∧ i = .int .i64 (k : Int) ∧ OutIs wr P g (l ++ (le 1 n ++ (es.take k).flatMap entC.enc)) (ok && decide (n ≤ 8) && (es.take k).all entC.ok) ∧ Safe P w wr) (fun i _ => 8 - (intOf i).toNat)
  case atStart => exact ⟨0, by omega, by omega, rfl, by simpa using H1.out, H2.out⟩
  case round =>
    obtain ⟨k, hk, hk8, rfl, ho, hb⟩ := hrel
    have HO := Lib.hid ho
    have HB := Lib.hid hb
    clear ho hb
    by_cases hlt : k < n
    · by_cases h8 : k < 8
      · obtain ⟨a, ha⟩ := HR.out.lt hlt
        obtain ⟨g2, o2, cs2, e1, hg2, e2, e3⟩ := HR.out.2.2.2 k a ha
        have e2' : cs2 = [.string a.key, .string a.val] := e2
        subst e1
        have hk0 : wr.cell? ⟨g2, o2 + k * 2, none⟩ = some (.string a.key) := (HB.out.cell hg2).trans (e3 0 _ (by rw [e2']; rfl))
        have hk1 : wr.cell? ⟨g2, o2 + k * 2 + 1, none⟩ = some (.string a.val) := (HB.out.cell hg2).trans (e3 1 _ (by rw [e2']; rfl))
        have HA := Lib.hid (map_more ha entC.enc)
        have HK := Lib.hid (all_more ha entC.ok)
        have hlen := take_len es entC.enc (show k + 1 ≤ 8 by omega)
        rw [HA.out, ent_enc] at hlen
        simp only [List.length_append, le_length, bs_length] at hlen
        have hll := HLL.out
        have T1 := Lib.hid (otext_any P g _ _ a.key (by simp only [List.length_append, le_length]; omega) 32 (by omega) wr HO.out)
        have HG := Lib.hid hg2
        clear hlen hll e2 e2' e3 hg2
        go_wp2_with fail
        refine T1.out.mono ?_
        rintro e wa ⟨rfl, q1, q2⟩
        have hk1' : wa.cell? ⟨g2, o2 + k * 2 + 1, none⟩ = some (.string a.val) := (q2.cell HG.out).trans hk1
        have Q2 := Lib.hid (HB.out.trans q2)
        have T2 := Lib.hid (otext_any P g _ _ a.val (by
          have hlen := take_len es entC.enc (show k + 1 ≤ 8 by omega)
          rw [HA.out, ent_enc] at hlen
          simp only [List.length_append, le_length, bs_length] at hlen ⊢
          have hll := HLL.out
          omega) 64 (by omega) wa q1)
        clear q1 q2 hk0 hk1
        go_wp2_with fail
        refine T2.out.mono ?_
        rintro e wb ⟨rfl, q1, q2⟩
        have Q1 := Lib.hid q1
        have Q3 := Lib.hid (Q2.out.trans q2)
        clear q1 q2 hk1'
        go_wp2_with fail
        go_roundw
        case rel =>
          refine ⟨k + 1, by omega, by omega, by go_num, ?_, Q3.out⟩
          have q := Q1.out
          rw [HA.out, HK.out, ent_enc, ent_ok]
          simpa only [List.append_assoc, Bool.and_assoc] using q
        case measure => simp [intOf]; omega
      · obtain rfl : k = 8 := by omega
        go_wp2_with fail
        go_end0
        refine ⟨rfl, ?_, HB.out⟩
        have q := HO.out
        rw [show entsC.ok es = listMay 8 entC es from (listMay_ok 8 entC es).symm, listMay, listOut, hes]
        simpa only [List.append_assoc, Bool.and_assoc] using q
    · obtain rfl : n = k := by omega
      go_wp2_with fail
      go_end0
      refine ⟨rfl, ?_, HB.out⟩
      have q := HO.out
      rw [show entsC.ok es = listMay 8 entC es from (listMay_ok 8 entC es).symm, listMay, listOut, hes, List.take_of_length_le (show es.length ≤ 8 by omega)]
      rw [List.take_of_length_le (show es.length ≤ n by omega)] at q
      simpa only [List.append_assoc, Bool.and_assoc] using q
end Go.Proofs.YtngcbpgafjnfaaaGreatDoor


namespace Go.Proofs.YtngcbpgafjnfaaaGreatDoor
open Go.RowKit
set_option linter.unusedVariables false

def mansOut (l : List Int) : List Nat := l.flatMap (wholeOut 1)
theorem mans_ok (l : List Int) : mansC.ok l = (decide (l.length = 3) && l.all node.ok) := rfl
theorem mansOut_enc {l : List Int} (h : mansC.ok l = true) : mansOut l = mansC.enc l := by
  rw [mans_ok, Bool.and_eq_true, List.all_eq_true] at h
  show l.flatMap _ = l.flatMap _
  have : ∀ m : List Int, (∀ x ∈ m, node.ok x = true) → m.flatMap (wholeOut 1) = m.flatMap node.enc := by
    intro m hm
    induction m with
    | nil => rfl
    | cons x m ih => rw [List.flatMap_cons, List.flatMap_cons, wholeOut_enc (hm x (by simp)), ih fun y hy => hm y (by simp [hy])]
  exact this l h.2
/-- an int of 64 bits -/
def I64 (v : Int) : Prop := -9223372036854775808 ≤ v ∧ v ≤ 9223372036854775807

set_option maxHeartbeats 8000000 in
theorem omans_any (P : Nat → Prop) (g : Nat) (l : List Nat) (ok : Bool) (a b c : Int) (ha : I64 a) (hb : I64 b) (hc : I64 c) (hl : l.length + 3 ≤ 140737488355328) (w : World) (h : OutIs w P g l ok) :
    Calls Tryz.prog 172 #[.pointer (some ⟨g, 0, none⟩), .agg #[.int .i64 a, .int .i64 b, .int .i64 c]] w (Wrote w P g (l ++ mansOut [a, b, c]) (ok && mansC.ok [a, b, c])) := by
  have H0 := Lib.hid (h.alloc (.cells #[.int .i64 a, .int .i64 b, .int .i64 c] 31))
  have HS := Lib.hid ((Safe.refl P w).alloc h.lt (.cells #[.int .i64 a, .int .i64 b, .int .i64 c] 31))
  have hq : ∀ k, k < 3 → (w.alloc (.cells #[.int .i64 a, .int .i64 b, .int .i64 c] 31)).cell? ⟨w.heap.size, k, none⟩ = some (.int .i64 ([a, b, c].getD k 0)) := by
    intro k hk
    rcases (by omega : k = 0 ∨ k = 1 ∨ k = 2) with rfl | rfl | rfl <;> go_simp
  have hi : ∀ k, I64 ([a, b, c].getD k 0) := by
    intro k
    by_cases hk : k < 3
    · rcases (by omega : k = 0 ∨ k = 1 ∨ k = 2) with rfl | rfl | rfl
      · exact ha
      · exact hb
      · exact hc
    · simp [List.getD, List.getElem?_eq_none (show [a, b, c].length ≤ k by simp; omega), I64]
  have hm : ∀ k, k < 3 → [a, b, c][k]? = some ([a, b, c].getD k 0) := fun k hk => by simp [List.getD, hk]
  have hlen2 : ∀ k, k < 3 → (([a, b, c].take k).flatMap (wholeOut 1)).length ≤ k := by
    intro k hk
    have h1 := wholeOut_length 1 a
    have h2 := wholeOut_length 1 b
    rcases (by omega : k = 0 ∨ k = 1 ∨ k = 2) with rfl | rfl | rfl <;> simp <;> omega
  have HQ := Lib.hid hq; have HI := Lib.hid hi; have HM := Lib.hid hm; have HN := Lib.hid hlen2
  clear h hq hi hm ha hb hc hlen2
  go_enter Tryz.func172, Tryz.ntmps172
  go_wp2_with fail
  have HE := Lib.hid (show mansC.ok [a, b, c] = ([a, b, c].take 3).all node.ok from by simp [mans_ok])
  have HO3 := Lib.hid (show mansOut [a, b, c] = ([a, b, c].take 3).flatMap (wholeOut 1) from rfl)
  generalize [a, b, c] = m at *
  generalize w.alloc _ = w0 at *
  go_loopw [4] (fun i wr => ∃ (k : Nat), k ≤ 3 ∧ i = .int .i64 (k : Int) ∧ OutIs wr (fun q => P q ∨ q = w.heap.size) g (l ++ (m.take k).flatMap (wholeOut 1)) (ok && (m.take k).all node.ok) ∧ Safe (fun q => P q ∨ q = w.heap.size) w0 wr) (fun i _ => 3 - (intOf i).toNat)
  case atStart => exact ⟨0, by omega, rfl, by simpa using H0.out, Safe.refl _ _⟩
  case round =>
    obtain ⟨k, hk, rfl, ho, hs⟩ := hrel
    have HO := Lib.hid ho
    have HS2 := Lib.hid hs
    clear ho hs
    by_cases hlt : k < 3
    · have hc := (HS2.out.cell (a := ⟨w.heap.size, k, none⟩) (.inr rfl)).trans (HQ.out k hlt)
      have hb := HI.out k
      have HA := Lib.hid (map_more (HM.out k hlt) (wholeOut 1))
      have HK := Lib.hid (all_more (HM.out k hlt) node.ok)
      generalize m.getD k 0 = x at *
      obtain ⟨hx1, hx2⟩ := hb
      have T := Lib.hid (owhole_any _ g _ _ x hx2 1 (by omega) (by have := HN.out k hlt; simp only [List.length_append]; omega) 255 wr HO.out)
      go_wp2_with fail
      refine T.out.mono ?_
      rintro e wa ⟨rfl, q1, q2⟩
      have Q1 := Lib.hid q1
      have Q2 := Lib.hid (HS2.out.trans q2)
      clear q1 q2 hc
      go_wp2_with fail
      go_roundw
      case rel =>
        refine ⟨k + 1, by omega, by go_num, ?_, Q2.out⟩
        have q := Q1.out
        rw [HA.out, HK.out]
        simpa only [List.append_assoc, Bool.and_assoc] using q
      case measure => simp [intOf]; omega
    · obtain rfl : k = 3 := by omega
      go_wp2_with fail
      go_end0
      rw [HE.out, HO3.out]
      exact ⟨rfl, HO.out.mono fun q hq => .inl hq, HS.out.trans (HS2.out.mono fun q hq => .inl hq)⟩

/-- an item by its cells -/
def ItmIs (w : World) (P : Nat → Prop) (cs : List Value) (i : Itm) : Prop :=
  ∃ ao n cap i0 i1 i2 i3, cs = [.int .i64 i.bucket, .int .u32 (i.ver : Int), .bool i.write, .slice ao n cap, .int .u32 ((i0 : Nat) : Int), .int .u32 ((i1 : Nat) : Int), .int .u32 ((i2 : Nat) : Int), .int .u32 ((i3 : Nat) : Int)] ∧
    i.incs = [i0, i1, i2, i3] ∧ EntsIs w P ao n cap i.data ∧ I64 i.bucket ∧ i.ver ≤ 4294967295 ∧ i0 ≤ 4294967295 ∧ i1 ≤ 4294967295 ∧ i2 ≤ 4294967295 ∧ i3 ≤ 4294967295
theorem ItmIs.safe {w w' : World} {P : Nat → Prop} {cs : List Value} {i : Itm} (h : ItmIs w P cs i) (b : Safe P w w') : ItmIs w' P cs i := by
  obtain ⟨ao, n, cap, i0, i1, i2, i3, h1, h2, h3, h4⟩ := h
  exact ⟨ao, n, cap, i0, i1, i2, i3, h1, h2, h3.safe b, h4⟩
/-- what the writer lays of an item -/
def itmOut (i : Itm) : List Nat := wholeOut 1 i.bucket ++ (le 4 i.ver ++ (flag.enc i.write ++ (i.incs.flatMap (le 4) ++ (if i.write then listOut 8 entC i.data else []))))
theorem itm_ok (i : Itm) : itmC.ok i = (bucketC.ok i.bucket && (four_.ok i.ver && ((rep four_ 4).ok i.incs && (dataC i.write).ok i.data))) := by
  show (true && (bucketC.ok i.bucket && (four_.ok i.ver && (flag.ok i.write && ((rep four_ 4).ok i.incs && (dataC i.write).ok i.data))))) = _
  have : flag.ok i.write = true := by cases i.write <;> rfl
  rw [this, Bool.true_and, Bool.true_and]
theorem itmOut_enc {i : Itm} (h : itmC.ok i = true) : itmOut i = itmC.enc i := by
  have h' := h
  rw [itm_ok] at h'
  simp only [Bool.and_eq_true] at h'
  show _ = bucketC.enc i.bucket ++ (four_.enc i.ver ++ (flag.enc i.write ++ ((rep four_ 4).enc i.incs ++ (dataC i.write).enc i.data)))
  rw [itmOut, wholeOut_enc h'.1]
  congr 4
  cases e : i.write
  · rfl
  · rw [e] at h'
    exact listOut_enc h'.2.2.2
theorem SlIs.mono {α : Type} {size : Nat} {is : World → (Nat → Prop) → List Value → α → Prop} {w : World} {P Q : Nat → Prop} {ao : Option Addr} {n cap : Nat} {l : List α} (hi : ∀ cs a, is w P cs a → is w Q cs a)
    (h : SlIs size is w P ao n cap l) (hq : ∀ k, P k → Q k) : SlIs size is w Q ao n cap l :=
  ⟨h.1, h.2.1, h.2.2.1, fun i a ha => by
    obtain ⟨g, o, cs, h1, h2, h3, h4⟩ := h.2.2.2 i a ha
    exact ⟨g, o, cs, h1, hq g h2, hi _ _ h3, h4⟩⟩
theorem EntsIs.mono {w : World} {P Q : Nat → Prop} {ao : Option Addr} {n cap : Nat} {l : List Ent} (h : EntsIs w P ao n cap l) (hq : ∀ k, P k → Q k) : EntsIs w Q ao n cap l := SlIs.mono (is := EntIs) (P := P) (Q := Q) (fun _ _ h => h) h hq
theorem four_ok {v : Nat} (h : v ≤ 4294967295) : decide (v ≤ 4294967295) = true := decide_eq_true h

set_option maxHeartbeats 16000000 in
theorem oitem_any (P : Nat → Prop) (g : Nat) (l : List Nat) (ok : Bool) (i : Itm) (cs : List Value) (w : World) (hi : ItmIs w P cs i) (hl : (l ++ itmOut i).length ≤ 140737488355328) (h : OutIs w P g l ok) :
    Calls Tryz.prog 173 #[.pointer (some ⟨g, 0, none⟩), .agg cs.toArray] w (Wrote w P g (l ++ itmOut i) (ok && itmC.ok i)) := by
  obtain ⟨ao, n, cap, i0, i1, i2, i3, rfl, hinc, hd, ⟨hb1, hb2⟩, hv, h0, h1, h2, h3⟩ := hi
  obtain ⟨bucket, ver, write, data, incs⟩ := i
  simp only at hinc hd hb1 hb2 hv ⊢
  subst hinc
  have HLL := Lib.hid (show l.length + (wholeOut 1 bucket).length + 4 + 1 + 16 + (if write then listOut 8 entC data else []).length ≤ 140737488355328 by
    have e : (flag.enc write).length = 1 := by cases write <;> rfl
    simp only [itmOut, List.length_append, le_length, e, List.flatMap_cons, List.flatMap_nil, List.length_nil] at hl
    omega)
  generalize hbx : (Obj.cells #[.int .i64 bucket, .int .u32 (ver : Int), .bool write, .slice ao n cap, .int .u32 ((i0 : Nat) : Int), .int .u32 ((i1 : Nat) : Int), .int .u32 ((i2 : Nat) : Int), .int .u32 ((i3 : Nat) : Int)] 187) = ob
  have H0 := h.alloc ob
  have HS := Lib.hid ((Safe.refl P w).alloc h.lt ob)
  have HD := Lib.hid ((hd.safe HS.out).mono (Q := fun q => P q ∨ q = w.heap.size) fun k hk => .inl hk)
  have hc : ∀ wr, Safe (fun q => P q ∨ q = w.heap.size) (w.alloc ob) wr → wr.cell? ⟨w.heap.size, 0, none⟩ = some (.int .i64 bucket) ∧ wr.cell? ⟨w.heap.size, 1, none⟩ = some (.int .u32 (ver : Int)) ∧ wr.cell? ⟨w.heap.size, 2, none⟩ = some (.bool write) ∧ wr.cell? ⟨w.heap.size, 3, none⟩ = some (.slice ao n cap) ∧
      ∀ k, k < 4 → wr.cell? ⟨w.heap.size, 4 + k, none⟩ = some (.int .u32 ((bt [i0, i1, i2, i3] k : Nat) : Int)) := by
    intro wr hs
    have hx : ∀ j, wr.cell? ⟨w.heap.size, j, none⟩ = (w.alloc ob).cell? ⟨w.heap.size, j, none⟩ := fun j => hs.cell (a := ⟨w.heap.size, j, none⟩) (.inr rfl)
    subst hbx
    refine ⟨?_, ?_, ?_, ?_, fun k hk => ?_⟩
    · rw [hx]; go_simp
    · rw [hx]; go_simp
    · rw [hx]; go_simp
    · rw [hx]; go_simp
    · rw [hx]
      rcases (by omega : k = 0 ∨ k = 1 ∨ k = 2 ∨ k = 3) with rfl | rfl | rfl | rfl <;> go_simp <;> rfl
  have HC := Lib.hid hc
  have T1 := Lib.hid (owhole_any _ g l ok bucket hb2 1 (by omega) (by have := HLL.out; omega) 63 (w.alloc ob) H0)
  have HV := Lib.hid hv
  have HI4 := Lib.hid (show ∀ k, bt [i0, i1, i2, i3] k ≤ 4294967295 from fun k => by
    by_cases hk : k < 4
    · rcases (by omega : k = 0 ∨ k = 1 ∨ k = 2 ∨ k = 3) with rfl | rfl | rfl | rfl
      · exact h0
      · exact h1
      · exact h2
      · exact h3
    · simp [bt, List.getD, List.getElem?_eq_none (show [i0, i1, i2, i3].length ≤ k by simp; omega)])
  have HOK := Lib.hid (show itmC.ok ⟨bucket, ver, write, data, [i0, i1, i2, i3]⟩ = (bucketC.ok bucket && (dataC write).ok data) by
    rw [itm_ok]
    have e1 : four_.ok ver = true := four_ok hv
    have e2 : (rep four_ 4).ok [i0, i1, i2, i3] = true := by
      show (decide (4 = 4) && (four_.ok i0 && (four_.ok i1 && (four_.ok i2 && (four_.ok i3 && true))))) = true
      rw [show four_.ok i0 = true from four_ok h0, show four_.ok i1 = true from four_ok h1, show four_.ok i2 = true from four_ok h2, show four_.ok i3 = true from four_ok h3]
      rfl
    rw [e1, e2, Bool.true_and, Bool.true_and])
  have HOUT := Lib.hid (show itmOut ⟨bucket, ver, write, data, [i0, i1, i2, i3]⟩ = wholeOut 1 bucket ++ (le 4 ver ++ (flag.enc write ++ (([i0, i1, i2, i3].take 4).flatMap (le 4) ++ (if write then listOut 8 entC data else [])))) from rfl)
  have HLE := Lib.hid (show ∀ k, (([i0, i1, i2, i3].take k).flatMap (le 4)).length ≤ 4 * k from fun k => by
    by_cases hk : k < 4
    · rcases (by omega : k = 0 ∨ k = 1 ∨ k = 2 ∨ k = 3) with rfl | rfl | rfl | rfl <;> simp [le_length]
    · rw [List.take_of_length_le (by simp; omega)]; simp [le_length]; omega)
  have HGET := Lib.hid (show ∀ k, k < 4 → [i0, i1, i2, i3][k]? = some (bt [i0, i1, i2, i3] k) from fun k hk => bt_get (by simpa using hk))
  have hwn := wholeOut_length 1 bucket
  have c0 := (hc _ (Safe.refl _ _)).1
  clear H0 hc h hd hv h0 h1 h2 h3 hl
  rw [← hbx] at T1 HC HS HD c0
  clear hbx
  generalize hw0 : w.alloc _ = w0 at T1 HC HS HD c0
  have HP := Lib.hid (show ∀ k, P k → (fun q => P q ∨ q = w.heap.size) k from fun k hk => .inl hk)
  generalize (fun q => P q ∨ q = w.heap.size) = P' at T1 HC HD HP
  have HW0 := Lib.hid hw0
  clear hw0
  generalize itmOut _ = O at HOUT ⊢
  generalize itmC.ok _ = K2 at HOK ⊢
  go_enter Tryz.func173, Tryz.ntmps173
  go_wp2_with fail
  rw [HW0.out]
  refine T1.out.mono ?_
  rintro e w1 ⟨rfl, q1, q2⟩
  have Q2 := Lib.hid q2
  have T2 := Lib.hid (onum_any _ g _ _ ver (by have := HV.out; omega) 4 (by omega) (by have := HLL.out; simp only [List.length_append]; omega) 4294967295 w1 q1)
  have c1 := (HC.out w1 q2).2.1
  clear c0 q1 q2 HW0
  have hv := HV.out
  go_wp2_with fail
  clear hv
  refine T2.out.mono ?_
  rintro e w2 ⟨rfl, q1, q2⟩
  have Q3 := Lib.hid (Q2.out.trans q2)
  have T3 := Lib.hid (oflag_any _ g _ _ (by have := HLL.out; simp only [List.length_append, le_length]; omega) write w2 q1)
  have c2 := (HC.out w2 Q3.out).2.2.1
  clear c1 q1 q2
  go_wp2_with fail
  refine T3.out.mono ?_
  rintro e w3 ⟨rfl, q1, q2⟩
  have Q4 := Lib.hid (Q3.out.trans q2)
  have Q5 := Lib.hid q1
  clear c2 q1 q2
  go_wp2_with fail
  have HX := Lib.hid (show O = wholeOut 1 bucket ++ (le 4 ver ++ (flag.enc write ++ (([i0, i1, i2, i3].take 4).flatMap (le 4) ++ (if write then listOut 8 entC data else [])))) from HOUT.out)
  clear HOUT
  have HV2 := Lib.hid (four_ok HV.out)
  go_loopw [4] (fun i wr => ∃ (k : Nat), k ≤ 4 ∧ i = .int .i64 (k : Int) ∧ OutIs wr P' g (l ++ wholeOut 1 bucket ++ le 4 ver ++ flag.enc write ++ ([i0, i1, i2, i3].take k).flatMap (le 4)) (ok && (whole 1 63).ok bucket) ∧ Safe P' w0 wr) (fun i _ => 4 - (intOf i).toNat)
  case atStart => exact ⟨0, by omega, rfl, by have q := Q5.out; rw [HV2.out, Bool.and_true] at q; simpa using q, Q4.out⟩
  case round =>
    obtain ⟨k, hk, rfl, ho, hs⟩ := hrel
    have HO := Lib.hid ho
    have HS2 := Lib.hid hs
    clear ho hs
    by_cases hlt : k < 4
    · have hc := (HC.out wr HS2.out).2.2.2.2 k hlt
      have hb := HI4.out k
      have HA := Lib.hid (map_more (HGET.out k hlt) (le 4))
      have hle := HLE.out k
      generalize bt [i0, i1, i2, i3] k = x at *
      have T := Lib.hid (onum_any _ g _ _ x (by omega) 4 (by omega) (by have := HLL.out; have e : (flag.enc write).length = 1 := (by cases write <;> rfl); simp only [List.length_append, le_length, e]; omega) 4294967295 wr HO.out)
      go_wp2_with fail
      refine T.out.mono ?_
      rintro e wa ⟨rfl, q1, q2⟩
      have Q1 := Lib.hid q1
      have Q2 := Lib.hid (HS2.out.trans q2)
      have HF := Lib.hid (four_ok hb)
      clear q1 q2 hc hb
      go_wp2_with fail
      go_roundw
      case rel =>
        refine ⟨k + 1, by omega, by go_num, ?_, Q2.out⟩
        have q := Q1.out
        rw [HF.out, Bool.and_true] at q
        rw [HA.out]
        simpa only [List.append_assoc] using q
      case measure => simp [intOf]; omega
    · obtain rfl : k = 4 := by omega
      have c2 := (HC.out wr HS2.out).2.2.1
      have c3 := (HC.out wr HS2.out).2.2.2.1
      cases write
      · obtain ⟨ao5, n5, cap5, ho, hof⟩ := HO.out
        have HN := HD.out.1
        have HZ := Lib.hid (show (ok && K2) = ((ok && (whole 1 63).ok bucket) && data.isEmpty) by rw [HOK.out, ← Bool.and_assoc]; rfl)
        have HY := Lib.hid (show l ++ O = l ++ wholeOut 1 bucket ++ le 4 ver ++ flag.enc false ++ ([i0, i1, i2, i3].take 4).flatMap (le 4) by rw [HX.out]; simp)
        have HEM := Lib.hid (show data.isEmpty = ((n : Int) == 0) by rw [← HN]; cases data <;> simp <;> omega)
        generalize (ok && (whole 1 63).ok bucket) = okx at ho HZ
        have d1 := ho.c1
        have f1 := ho.f1
        have HO5 := Lib.hid (ho.put (okx && data.isEmpty))
        have HF5 := Lib.hid (hof.put HS2.out (.bool (okx && data.isEmpty)) 1)
        clear ho hof HN
        cases okx
        all_goals
          simp only [Bool.false_and, Bool.true_and] at HO5 HF5 HZ
          try rw [HEM.out] at HO5 HF5 HZ
          go_wp2_with fail
          go_end0
          rw [HZ.out, HY.out]
          exact ⟨rfl, ⟨ao5, n5, cap5, HO5.out, fun b hb => HF5.out.2 b (HP.out b hb)⟩, HS.out.trans (HF5.out.1.mono HP.out)⟩
      · have T4 := Lib.hid (oentries_any _ g _ _ ao n cap data (by have := HLL.out; have e : (flag.enc true).length = 1 := rfl; simp only [List.length_append, le_length, e, if_true] at this ⊢; have := HLE.out 4; omega) wr (HD.out.safe HS2.out) HO.out)
        go_wp2_with fail
        refine T4.out.mono ?_
        rintro e wa ⟨rfl, q1, q2⟩
        have Q1 := Lib.hid q1
        have Q2 := Lib.hid (HS2.out.trans q2)
        clear q1 q2 c2 c3
        go_wp2_with fail
        go_end0
        rw [HX.out, HOK.out]
        simp only [if_true]
        refine ⟨rfl, ?_, HS.out.trans (Q2.out.mono HP.out)⟩
        show OutIs wa P g _ (ok && ((whole 1 63).ok bucket && entsC.ok data))
        have q := Q1.out.mono HP.out
        simpa only [List.append_assoc, Bool.and_assoc] using q
end Go.Proofs.YtngcbpgafjnfaaaGreatDoor
