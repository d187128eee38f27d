/- The document's writer: what is written so far, behind a pointer; a number, an int, a bool, a text. What a slice of structs holds, read as a list; the document's writer: entries. -/
import Derived.Test.YtngcbpgafjnfaaaGreatDoorLoB3
set_option linter.unusedSimpArgs false
set_option linter.unusedVariables false

namespace Go.Proofs.YtngcbpgafjnfaaaGreatDoor
open Go.RowKit
set_option linter.unusedVariables false

theorem le_bt : ∀ (n v k : Nat), k < n → bt (le n v) k = v / 256 ^ k % 256
  | 0, _, _, h => by omega
  | n + 1, v, 0, _ => by simp [le, bt]
  | n + 1, v, k + 1, h => by
    have := le_bt n (v / 256) k (by omega)
    have e : bt (le (n + 1) v) (k + 1) = bt (le n (v / 256)) k := by simp [le, bt]
    rw [e, this, Nat.div_div_eq_div_mul, Nat.pow_succ, Nat.mul_comm]
theorem le_take (n v k : Nat) (h : k < n) : (le n v).take (k + 1) = (le n v).take k ++ [v / 256 ^ k % 256] := by
  have hk : k < (le n v).length := by rw [le_length]; exact h
  rw [List.take_add_one, bt_get hk, le_bt n v k h]
  rfl
theorem le_whole (n v : Nat) : (le n v).take n = le n v := by
  have := List.take_length (l := le n v)
  rwa [le_length] at this

/-- blocks of P stay as they are -/
structure Safe (P : Nat → Prop) (w w' : World) : Prop where
  os : w'.os = w.os
  tape : w'.tape = w.tape
  output : w'.output = w.output
  size : w.heap.size ≤ w'.heap.size
  block : ∀ k, P k → w'.heap[k]? = w.heap[k]?
section
variable {P Q : Nat → Prop} {w w' w'' : World}
theorem Safe.refl (P : Nat → Prop) (w : World) : Safe P w w := ⟨rfl, rfl, rfl, Nat.le_refl _, fun _ _ => rfl⟩
theorem Safe.trans (h : Safe P w w') (k : Safe P w' w'') : Safe P w w'' :=
  ⟨k.os.trans h.os, k.tape.trans h.tape, k.output.trans h.output, Nat.le_trans h.size k.size, fun i hi => (k.block i hi).trans (h.block i hi)⟩
theorem Safe.mono (h : Safe P w w') (hq : ∀ k, Q k → P k) : Safe Q w w' := ⟨h.os, h.tape, h.output, h.size, fun k hk => h.block k (hq k hk)⟩
theorem Safe.below {B : Nat} (h : Safe (· < B) w w') : Below B w w' := ⟨h.os, h.tape, h.output, h.size, fun k hk => h.block k hk⟩
theorem Safe.cell (h : Safe P w w') {a : Addr} (ha : P a.block) : w'.cell? a = w.cell? a := World.cell?_of_block (w := w) (h.block _ ha)
theorem Safe.of_keep {S : List Nat} (h : Keep S w w') (hp : ∀ k, P k → k < w.heap.size ∧ k ∉ S) : Safe P w w' := ⟨h.os, h.tape, h.output, h.size, fun k hk => h.block k (hp k hk).1 (hp k hk).2⟩
theorem Safe.alloc (h : Safe P w w') (hp : ∀ k, P k → k < w'.heap.size) (o : Obj) : Safe P w (w'.alloc o) := h.trans (.of_keep (S := []) (.of_below (below_alloc (Below.refl _ _) o) []) fun k hk => ⟨hp k hk, by simp⟩)
end

/-- a writer at block g: what is written, whether all of it may be -/
structure OutAt (w : World) (g : Nat) (ao : Option Addr) (n cap : Nat) (l : List Nat) (ok : Bool) : Prop where
  c0 : w.cell? ⟨g, 0, none⟩ = some (.slice ao n cap)
  c1 : w.cell? ⟨g, 1, none⟩ = some (.bool ok)
  f0 : w.frozen? ⟨g, 0, none⟩ = false
  f1 : w.frozen? ⟨g, 1, none⟩ = false
  lt : g < w.heap.size
  own : Own w 0 ao n cap l
  apart : g ∉ blk ao
/-- these blocks are none of the writer's -/
def Off (P : Nat → Prop) (w : World) (g : Nat) (ao : Option Addr) : Prop := ∀ b, P b → b < w.heap.size ∧ b ≠ g ∧ b ∉ blk ao
def OutIs (w : World) (P : Nat → Prop) (g : Nat) (l : List Nat) (ok : Bool) : Prop := ∃ ao n cap, OutAt w g ao n cap l ok ∧ Off P w g ao
section
variable {P Q : Nat → Prop} {w w' : World} {g n cap : Nat} {ao : Option Addr} {l : List Nat} {ok : Bool}
theorem OutAt.keep {S : List Nat} (h : OutAt w g ao n cap l ok) (k : Keep S w w') (h1 : g ∉ S) (h2 : ∀ b ∈ blk ao, b ∉ S) : OutAt w' g ao n cap l ok :=
  ⟨(k.cell (a := ⟨g, 0, none⟩) h.lt h1).trans h.c0, (k.cell (a := ⟨g, 1, none⟩) h.lt h1).trans h.c1, (k.frozen (a := ⟨g, 0, none⟩) h.lt h1).trans h.f0, (k.frozen (a := ⟨g, 1, none⟩) h.lt h1).trans h.f1,
    Nat.lt_of_lt_of_le h.lt k.size, h.own.keep k h2, h.apart⟩
theorem OutAt.below (h : OutAt w g ao n cap l ok) (b : Below w.heap.size w w') : OutAt w' g ao n cap l ok := h.keep (Keep.of_below b []) (by simp) (by simp)
/-- the flag is laid -/
theorem OutAt.put (h : OutAt w g ao n cap l ok) (b : Bool) : OutAt (w.setCell ⟨g, 1, none⟩ (.bool b)) g ao n cap l b := by
  have k := Keep.setCell w ⟨g, 1, none⟩ (.bool b)
  refine ⟨?_, World.cell?_setCell_same w _ _ h.c1, by rw [World.frozen?_setCell]; exact h.f0, by rw [World.frozen?_setCell]; exact h.f1, by simpa [World.setCell] using h.lt, h.own.keep k (fun b hb hm => h.apart ?_), h.apart⟩
  · rw [World.cell?_setCell_other _ _ _ _ (by simp)]; exact h.c0
  · simp at hm; exact hm ▸ hb
/-- the bytes are laid -/
theorem OutAt.lay (h : OutAt w g ao n cap l ok) {ao' : Option Addr} {n' cap' : Nat} {l' : List Nat} {w2 : World} (k : Keep (blk ao) w w2) (o : Own w2 0 ao' n' cap' l') (hn : ∀ b ∈ blk ao', b ∈ blk ao ∨ w.heap.size ≤ b) :
    OutAt (w2.setCell ⟨g, 0, none⟩ (.slice ao' n' cap')) g ao' n' cap' l' ok := by
  have ha : g ∉ blk ao' := fun hm => by
    rcases hn g hm with h1 | h1
    · exact h.apart h1
    · have := h.lt; omega
  have hc0 := (k.cell (a := ⟨g, 0, none⟩) h.lt h.apart).trans h.c0
  have hc1 := (k.cell (a := ⟨g, 1, none⟩) h.lt h.apart).trans h.c1
  have hf0 := (k.frozen (a := ⟨g, 0, none⟩) h.lt h.apart).trans h.f0
  have hf1 := (k.frozen (a := ⟨g, 1, none⟩) h.lt h.apart).trans h.f1
  have hlt : g < w2.heap.size := Nat.lt_of_lt_of_le h.lt k.size
  refine ⟨World.cell?_setCell_same w2 _ _ hc0, ?_, by rw [World.frozen?_setCell]; exact hf0, by rw [World.frozen?_setCell]; exact hf1, by simpa [World.setCell] using hlt, o.keep (Keep.setCell w2 ⟨g, 0, none⟩ _) (fun b hb hm => ha (by simp at hm; exact hm ▸ hb)), ha⟩
  rw [World.cell?_setCell_other _ _ _ _ (by simp)]
  exact hc1
theorem Off.put (h : Off P w g ao) {a : World} (hb : Safe P a w) (v : Value) (j : Nat) : Safe P a (w.setCell ⟨g, j, none⟩ v) ∧ Off P (w.setCell ⟨g, j, none⟩ v) g ao :=
  ⟨hb.trans (.of_keep (Keep.setCell w ⟨g, j, none⟩ v) fun k hk => ⟨(h k hk).1, by simpa using (h k hk).2.1⟩), fun b hb => ⟨by simpa [World.setCell] using (h b hb).1, (h b hb).2⟩⟩
theorem Off.lay (h : Off P w g ao) {a : World} (hb : Safe P a w) {ao' : Option Addr} {w2 : World} (k : Keep (blk ao) w w2) (hn : ∀ b ∈ blk ao', b ∈ blk ao ∨ w.heap.size ≤ b) (v : Value) : Safe P a (w2.setCell ⟨g, 0, none⟩ v) ∧ Off P (w2.setCell ⟨g, 0, none⟩ v) g ao' := by
  have h2 : Off P w2 g ao' := fun b hb => ⟨Nat.lt_of_lt_of_le (h b hb).1 k.size, (h b hb).2.1, fun hm => by
    rcases hn b hm with h1 | h1
    · exact (h b hb).2.2 h1
    · have := (h b hb).1; omega⟩
  exact h2.put (hb.trans (.of_keep k fun b hb => ⟨(h b hb).1, (h b hb).2.2⟩)) v 0
theorem Off.alloc (h : Off P w g ao) (o : Obj) : Off P (w.alloc o) g ao := fun b hb => ⟨by have := (h b hb).1; simp; omega, (h b hb).2⟩
theorem OutIs.mono (h : OutIs w P g l ok) (hq : ∀ k, Q k → P k) : OutIs w Q g l ok := by
  obtain ⟨ao, n, cap, h1, h2⟩ := h
  exact ⟨ao, n, cap, h1, fun b hb => h2 b (hq b hb)⟩
/-- a block more, that is none of the writer's -/
theorem OutIs.alloc (h : OutIs w P g l ok) (o : Obj) : OutIs (w.alloc o) (fun b => P b ∨ b = w.heap.size) g l ok := by
  obtain ⟨ao, n, cap, h1, h2⟩ := h
  refine ⟨ao, n, cap, h1.below (below_alloc (Below.refl _ _) o), fun b hb => ?_⟩
  rcases hb with hb | rfl
  · exact h2.alloc o b hb
  · exact ⟨by simp, fun e => by have := h1.lt; omega, fun hm => by have := (h1.own.lt_size _ hm).2; omega⟩
theorem OutIs.lt (h : OutIs w P g l ok) : ∀ k, P k → k < w.heap.size := by
  obtain ⟨ao, n, cap, h1, h2⟩ := h
  exact fun k hk => (h2 k hk).1
end

/-- what a writer's method does -/
def Wrote (w : World) (P : Nat → Prop) (g : Nat) (l : List Nat) (ok : Bool) (e : Ending) (w' : World) : Prop := e = .returned (.tuple #[]) ∧ OutIs w' P g l ok ∧ Safe P w w'
/-- what the writer lays of an int -/
def wholeOut (size : Nat) (v : Int) : List Nat := if v < 0 then [] else le size v.toNat
theorem wholeOut_enc {size most : Nat} {v : Int} (h : (whole size most).ok v = true) : wholeOut size v = (whole size most).enc v := by
  rw [whole_ok, decide_eq_true_eq] at h
  rw [wholeOut, if_neg (by omega), whole_enc]
theorem wholeOut_length (size : Nat) (v : Int) : (wholeOut size v).length ≤ size := by
  unfold wholeOut; split
  · simp
  · rw [le_length]; omega

set_option maxHeartbeats 4000000 in
theorem onum_any (P : Nat → Prop) (g : Nat) (l : List Nat) (ok : Bool) (v : Nat) (hv : v < 18446744073709551616) (size : Nat) (hs : size ≤ 8) (hl : l.length + size ≤ 140737488355328) (most : Nat) (w : World) (h : OutIs w P g l ok) :
    Calls Tryz.prog 54 #[.pointer (some ⟨g, 0, none⟩), .int .u64 (v : Int), .int .i64 (size : Int), .int .u64 (most : Int)] w (Wrote w P g (l ++ le size v) (ok && decide (v ≤ most))) := by
  obtain ⟨ao, n, cap, ha, hoff⟩ := h
  have hc1 := ha.c1
  have hf1 := ha.f1
  have HO := Lib.hid (ha.put (ok && decide (v ≤ most)))
  have HB := Lib.hid (hoff.put (Safe.refl P w) (.bool (ok && decide (v ≤ most))) 1)
  clear ha hoff
  have HL := Lib.hid (le_take size v)
  have HW := Lib.hid (le_whole size v)
  have hlen : ∀ k, k ≤ size → (l ++ (le size v).take k).length = l.length + k := fun k hk => by simp [le_length]; omega
  have hsg : IntKind.u64.signed = false := rfl
  cases ok
  · simp only [Bool.false_and, Bool.true_and] at HO HB ⊢
    go_enter Tryz.func54, Tryz.ntmps54
    go_wp2_with fail
    generalize (w.setCell ⟨g, 1, none⟩ (Value.bool false)) = w1 at *
    clear hc1 hf1
    go_loopw [1, 8] (fun y i wr => ∃ (k n2 cap2 : Nat) (ao2 : Option Addr), k ≤ size ∧ i = .int .i64 (k : Int) ∧ y = .int .u64 (v / 256 ^ k : Nat) ∧ OutAt wr g ao2 n2 cap2 (l ++ (le size v).take k) false ∧ Safe P w wr ∧ Off P wr g ao2) (fun _ i _ => size - (intOf i).toNat)
    case atStart => exact ⟨0, n, cap, ao, by omega, rfl, by simp, by simpa using HO.out, HB.out.1, HB.out.2⟩
    case round =>
      obtain ⟨k, n2, cap2, ao2, hk, rfl, rfl, ho, hb, hof⟩ := hrel
      have h1 := hlen k hk
      have hn2 := ho.own.len
      have hc0 := ho.c0
      have hf0 := ho.f0
      have hltg := ho.lt
      have HO2 := Lib.hid ho
      have HB2 := Lib.hid hb
      have HF2 := Lib.hid hof
      clear ho hb hof
      by_cases hlt : k < size
      · have hy : v / 256 ^ k < 18446744073709551616 := Nat.lt_of_le_of_lt (Nat.div_le_self _ _) hv
        have HS := Lib.hid (HL.out k hlt)
        have HP := Lib.hid (show v / 256 ^ (k + 1) = v / 256 ^ k / 256 by rw [Nat.pow_succ, Nat.div_div_eq_div_mul])
        generalize v / 256 ^ k = y at *
        have HA := Lib.hid (HO2.out.below (below_alloc (Below.refl _ _) (.cells #[u8v (y % 256)] 5)))
        go_wp2_with (at_builtin; refine wpList_app rfl (.tmp 30) (.tmp 34) rfl rfl HA.out.own rfl (Own.one wr 0 (y % 256) (by omega) (by omega)).rd rfl (Nat.zero_le _) (by omega) ?_; intro ao3 cap3 w3 o3 k3 n3; have hc3 := (k3.cell (a := ⟨g, 0, none⟩) HA.out.lt HA.out.apart).trans HA.out.c0; have hf3 := (k3.frozen (a := ⟨g, 0, none⟩) HA.out.lt HA.out.apart).trans HA.out.f0)
        go_roundw
        case rel => exact ⟨k + 1, n2 + 1, cap3, ao3, by omega, by go_num, by rw [HP.out]; go_num, by rw [HS.out, ← List.append_assoc]; exact HA.out.lay k3 o3 n3, ((HF2.out.alloc _).lay (HB2.out.alloc (fun k hk => (HF2.out k hk).1) _) k3 n3 _).1, ((HF2.out.alloc _).lay (HB2.out.alloc (fun k hk => (HF2.out k hk).1) _) k3 n3 _).2⟩
        case measure => simp [intOf]; omega
      · obtain rfl : size = k := by omega
        go_wp2_with fail
        go_end0
        refine ⟨rfl, ⟨ao2, n2, cap2, ?_, HF2.out⟩, HB2.out⟩
        have := HO2.out
        rw [HW.out] at this
        exact this
  · simp only [Bool.false_and, Bool.true_and] at HO HB ⊢
    go_enter Tryz.func54, Tryz.ntmps54
    go_wp2_with fail
    generalize (w.setCell ⟨g, 1, none⟩ (Value.bool (decide (v ≤ most)))) = w1 at *
    clear hc1 hf1
    generalize decide (v ≤ most) = ok2 at *
    go_loopw [1, 8] (fun y i wr => ∃ (k n2 cap2 : Nat) (ao2 : Option Addr), k ≤ size ∧ i = .int .i64 (k : Int) ∧ y = .int .u64 (v / 256 ^ k : Nat) ∧ OutAt wr g ao2 n2 cap2 (l ++ (le size v).take k) ok2 ∧ Safe P w wr ∧ Off P wr g ao2) (fun _ i _ => size - (intOf i).toNat)
    case atStart => exact ⟨0, n, cap, ao, by omega, rfl, by simp, by simpa using HO.out, HB.out.1, HB.out.2⟩
    case round =>
      obtain ⟨k, n2, cap2, ao2, hk, rfl, rfl, ho, hb, hof⟩ := hrel
      have h1 := hlen k hk
      have hn2 := ho.own.len
      have hc0 := ho.c0
      have hf0 := ho.f0
      have hltg := ho.lt
      have HO2 := Lib.hid ho
      have HB2 := Lib.hid hb
      have HF2 := Lib.hid hof
      clear ho hb hof
      by_cases hlt : k < size
      · have hy : v / 256 ^ k < 18446744073709551616 := Nat.lt_of_le_of_lt (Nat.div_le_self _ _) hv
        have HS := Lib.hid (HL.out k hlt)
        have HP := Lib.hid (show v / 256 ^ (k + 1) = v / 256 ^ k / 256 by rw [Nat.pow_succ, Nat.div_div_eq_div_mul])
        generalize v / 256 ^ k = y at *
        have HA := Lib.hid (HO2.out.below (below_alloc (Below.refl _ _) (.cells #[u8v (y % 256)] 5)))
        go_wp2_with (at_builtin; refine wpList_app rfl (.tmp 30) (.tmp 34) rfl rfl HA.out.own rfl (Own.one wr 0 (y % 256) (by omega) (by omega)).rd rfl (Nat.zero_le _) (by omega) ?_; intro ao3 cap3 w3 o3 k3 n3; have hc3 := (k3.cell (a := ⟨g, 0, none⟩) HA.out.lt HA.out.apart).trans HA.out.c0; have hf3 := (k3.frozen (a := ⟨g, 0, none⟩) HA.out.lt HA.out.apart).trans HA.out.f0)
        go_roundw
        case rel => exact ⟨k + 1, n2 + 1, cap3, ao3, by omega, by go_num, by rw [HP.out]; go_num, by rw [HS.out, ← List.append_assoc]; exact HA.out.lay k3 o3 n3, ((HF2.out.alloc _).lay (HB2.out.alloc (fun k hk => (HF2.out k hk).1) _) k3 n3 _).1, ((HF2.out.alloc _).lay (HB2.out.alloc (fun k hk => (HF2.out k hk).1) _) k3 n3 _).2⟩
        case measure => simp [intOf]; omega
      · obtain rfl : size = k := by omega
        go_wp2_with fail
        go_end0
        refine ⟨rfl, ⟨ao2, n2, cap2, ?_, HF2.out⟩, HB2.out⟩
        have := HO2.out
        rw [HW.out] at this
        exact this

set_option maxHeartbeats 4000000 in
theorem owhole_any (P : Nat → Prop) (g : Nat) (l : List Nat) (ok : Bool) (v : Int) (hv : v ≤ 9223372036854775807) (size : Nat) (hs : size ≤ 8) (hl : l.length + size ≤ 140737488355328) (most : Nat) (w : World) (h : OutIs w P g l ok) :
    Calls Tryz.prog 53 #[.pointer (some ⟨g, 0, none⟩), .int .i64 v, .int .i64 (size : Int), .int .u64 (most : Int)] w (Wrote w P g (l ++ wholeOut size v) (ok && (whole size most).ok v)) := by
  by_cases hneg : v < 0
  · obtain ⟨ao, n, cap, ha, hoff⟩ := h
    have hc1 := ha.c1
    have hf1 := ha.f1
    have HO := Lib.hid (ha.put false)
    have HB := Lib.hid (hoff.put (Safe.refl P w) (.bool false) 1)
    have HX := Lib.hid (show wholeOut size v = [] by rw [wholeOut, if_pos hneg])
    have HF := Lib.hid (show (whole size most).ok v = false by rw [whole_ok]; exact decide_eq_false (by omega))
    clear ha hoff
    go_enter Tryz.func53, Tryz.ntmps53
    go_wp2_with fail
    refine bodyPost_ret (results_none rfl _ _ _) rfl ?_
    rw [HF.out, Bool.and_false, HX.out, List.append_nil]
    exact ⟨rfl, ⟨ao, n, cap, HO.out, HB.out.2⟩, HB.out.1⟩
  · obtain ⟨u, rfl⟩ := Int.eq_ofNat_of_zero_le (show 0 ≤ v by omega)
    have N := Lib.hid (onum_any P g l ok u (by omega) size hs hl most w h)
    have HF := Lib.hid (show (whole size most).ok (u : Int) = decide (u ≤ most) by rw [whole_ok]; congr 1; apply propext; omega)
    clear h
    go_enter Tryz.func53, Tryz.ntmps53
    go_wp2_with fail
    refine N.out.mono ?_
    rintro e w1 ⟨rfl, h1, h2⟩
    go_wp2_with fail
    go_end0
    rw [HF.out, show wholeOut size (u : Int) = le size u by rw [wholeOut, if_neg (by omega)]; rfl]
    exact ⟨rfl, h1, h2⟩

set_option maxHeartbeats 4000000 in
theorem oflag_any (P : Nat → Prop) (g : Nat) (l : List Nat) (ok : Bool) (hl : l.length + 1 ≤ 140737488355328) (b : Bool) (w : World) (h : OutIs w P g l ok) :
    Calls Tryz.prog 138 #[.pointer (some ⟨g, 0, none⟩), .bool b] w (Wrote w P g (l ++ flag.enc b) ok) := by
  cases b
  · have N := Lib.hid (onum_any P g l ok 0 (by omega) 1 (by omega) hl 1 w h)
    clear h
    go_enter Tryz.func138, Tryz.ntmps138
    go_wp2_with fail
    refine N.out.mono ?_
    rintro e w1 ⟨rfl, h1, h2⟩
    go_wp2_with fail
    go_end0
    exact ⟨rfl, by rw [show (ok && decide (0 ≤ 1)) = ok by simp] at h1; exact h1, h2⟩
  · have N := Lib.hid (onum_any P g l ok 1 (by omega) 1 (by omega) hl 1 w h)
    clear h
    go_enter Tryz.func138, Tryz.ntmps138
    go_wp2_with fail
    refine N.out.mono ?_
    rintro e w1 ⟨rfl, h1, h2⟩
    go_wp2_with fail
    go_end0
    exact ⟨rfl, by rw [show (ok && decide (1 ≤ 1)) = ok by simp] at h1; exact h1, h2⟩

set_option maxHeartbeats 4000000 in
theorem otext_any (P : Nat → Prop) (g : Nat) (l : List Nat) (ok : Bool) (s : ByteArray) (hl : l.length + 1 + s.size ≤ 140737488355328) (most : Nat) (hm : most ≤ 255) (w : World) (h : OutIs w P g l ok) :
    Calls Tryz.prog 139 #[.pointer (some ⟨g, 0, none⟩), .string s, .int .i64 (most : Int)] w (Wrote w P g (l ++ (le 1 s.size ++ bs s)) (ok && decide (s.size ≤ most))) := by
  have N := Lib.hid (onum_any P g l ok s.size (by omega) 1 (by omega) (by omega) most w h)
  clear h
  go_enter Tryz.func139, Tryz.ntmps139
  go_wp2_with fail
  refine N.out.mono ?_
  rintro e w1 ⟨rfl, ⟨ao, n, cap, ho, hof⟩, h2⟩
  have hn := ho.own.len
  have hc0 := ho.c0
  have hf0 := ho.f0
  have HO := Lib.hid ho
  have HN := Lib.hid (show n = l.length + 1 by rw [← hn]; simp [le_length])
  have HF2 := Lib.hid hof
  have H2 := Lib.hid h2
  clear ho hn hof h2
  go_wp2_with (at_builtin; refine wpList_apps rfl (.tmp 17) (.tmp 18) rfl rfl HO.out.own rfl (Nat.zero_le _) (by have := HN.out; omega) ?_; intro ao3 cap3 w3 o3 k3 n3; have hc3 := (k3.cell (a := ⟨g, 0, none⟩) HO.out.lt HO.out.apart).trans HO.out.c0; have hf3 := (k3.frozen (a := ⟨g, 0, none⟩) HO.out.lt HO.out.apart).trans HO.out.f0)
  go_end0
  refine ⟨rfl, ⟨ao3, n + s.size, cap3, ?_, (HF2.out.lay H2.out k3 n3 _).2⟩, (HF2.out.lay H2.out k3 n3 _).1⟩
  rw [← List.append_assoc]
  exact HO.out.lay k3 o3 n3
end Go.Proofs.YtngcbpgafjnfaaaGreatDoor


namespace Go.Proofs.YtngcbpgafjnfaaaGreatDoor
open Go.RowKit
set_option linter.unusedVariables false

/-- what the writer lays of a list, whatever it is: its number, then max of them at most -/
def listOut {α : Type} (max : Nat) (c : Cod α) (l : List α) : List Nat := le 1 l.length ++ (l.take max).flatMap c.enc
def listMay {α : Type} (max : Nat) (c : Cod α) (l : List α) : Bool := decide (l.length ≤ max) && (l.take max).all c.ok
theorem listMay_ok {α : Type} (max : Nat) (c : Cod α) (l : List α) : listMay max c l = (list max c).ok l := by
  rw [list_ok, listMay]
  by_cases h : l.length ≤ max
  · rw [List.take_of_length_le h]
  · simp [h]
theorem listOut_enc {α : Type} {max : Nat} {c : Cod α} {l : List α} (h : (list max c).ok l = true) : listOut max c l = (list max c).enc l := by
  rw [list_ok, Bool.and_eq_true, decide_eq_true_eq] at h
  rw [list_enc, listOut, List.take_of_length_le h.1]
theorem take_more {α : Type} {l : List α} {k : Nat} {a : α} (h : l[k]? = some a) : l.take (k + 1) = l.take k ++ [a] := by
  rw [List.take_add_one, h]; rfl
theorem map_more {α : Type} {l : List α} {k : Nat} {a : α} (h : l[k]? = some a) (f : α → List Nat) : (l.take (k + 1)).flatMap f = (l.take k).flatMap f ++ f a := by
  rw [take_more h, List.flatMap_append]; simp
theorem all_more {α : Type} {l : List α} {k : Nat} {a : α} (h : l[k]? = some a) (f : α → Bool) : (l.take (k + 1)).all f = ((l.take k).all f && f a) := by
  rw [take_more h, List.all_append]; simp
/-- the lists grow -/
theorem take_len {α : Type} (l : List α) (f : α → List Nat) {k m : Nat} (h : k ≤ m) : ((l.take k).flatMap f).length ≤ ((l.take m).flatMap f).length := by
  have e : l.take m = l.take k ++ (l.take m).drop k := by
    have := (List.take_append_drop k (l.take m)).symm
    rwa [List.take_take, Nat.min_eq_left h] at this
  rw [e, List.flatMap_append, List.length_append]
  omega

/-- element i of a slice has its cells from o + i * size on -/
def SlIs {α : Type} (size : Nat) (is : World → (Nat → Prop) → List Value → α → Prop) (w : World) (P : Nat → Prop) (ao : Option Addr) (n cap : Nat) (l : List α) : Prop :=
  l.length = n ∧ n ≤ cap ∧ cap ≤ maxLen ∧ ∀ i a, l[i]? = some a → ∃ g o cs, ao = some ⟨g, o, none⟩ ∧ P g ∧ is w P cs a ∧ ∀ j u, cs[j]? = some u → w.cell? ⟨g, o + i * size + j, none⟩ = some u
theorem SlIs.safe {α : Type} {size : Nat} {is : World → (Nat → Prop) → List Value → α → Prop} {w w' : World} {P : Nat → Prop} {ao : Option Addr} {n cap : Nat} {l : List α} (hi : ∀ cs a, is w P cs a → is w' P cs a)
    (h : SlIs size is w P ao n cap l) (b : Safe P w w') : SlIs size is w' P ao n cap l :=
  ⟨h.1, h.2.1, h.2.2.1, fun i a ha => by
    obtain ⟨g, o, cs, h1, h2, h3, h4⟩ := h.2.2.2 i a ha
    exact ⟨g, o, cs, h1, h2, hi _ _ h3, fun j u hu => (b.cell h2).trans (h4 j u hu)⟩⟩
theorem SlIs.lt {α : Type} {size : Nat} {is : World → (Nat → Prop) → List Value → α → Prop} {w : World} {P : Nat → Prop} {ao : Option Addr} {n cap : Nat} {l : List α} (h : SlIs size is w P ao n cap l) {k : Nat} (hk : k < n) : ∃ a, l[k]? = some a :=
  ⟨l[k]'(by rw [h.1]; exact hk), List.getElem?_eq_getElem (by rw [h.1]; exact hk)⟩

/-- an entry by its cells -/
def EntIs (w : World) (P : Nat → Prop) (cs : List Value) (e : Ent) : Prop := cs = [.string e.key, .string e.val]
abbrev EntsIs := @SlIs Ent 2 EntIs
theorem EntsIs.safe {w w' : World} {P : Nat → Prop} {ao : Option Addr} {n cap : Nat} {l : List Ent} (h : EntsIs w P ao n cap l) (b : Safe P w w') : EntsIs w' P ao n cap l := SlIs.safe (w := w) (w' := w') (is := EntIs) (fun _ _ h => h) h b
theorem ent_enc (e : Ent) : entC.enc e = (le 1 e.key.size ++ bs e.key) ++ (le 1 e.val.size ++ bs e.val) := by
  show (text 32).enc e.key ++ (text 64).enc e.val = _
  rw [text_enc, text_enc]
theorem ent_ok (e : Ent) : entC.ok e = (decide (e.key.size ≤ 32) && decide (e.val.size ≤ 64)) := by
  show (true && ((text 32).ok e.key && (text 64).ok e.val)) = _
  rw [text_ok, text_ok, Bool.true_and]

set_option maxHeartbeats 8000000 in
theorem oentries_any (P : Nat → Prop) (g : Nat) (l : List Nat) (ok : Bool) (ao : Option Addr) (n cap : Nat) (es : List Ent) (hl : (l ++ listOut 8 entC es).length ≤ 140737488355328) (w : World) (hr : EntsIs w P ao n cap es) (h : OutIs w P g l ok) :
    Calls Tryz.prog 141 #[.pointer (some ⟨g, 0, none⟩), .slice ao n cap] w (Wrote w P g (l ++ listOut 8 entC es) (ok && entsC.ok es)) := by
  have hn : n ≤ 9223372036854775807 := Nat.le_trans hr.2.1 hr.2.2.1
  have hes := hr.1
  have HLL := Lib.hid (show l.length + 1 + ((es.take 8).flatMap entC.enc).length ≤ 140737488355328 by simpa [listOut, le_length, Nat.add_assoc] using hl)
  have N := Lib.hid (onum_any P g l ok n (by omega) 1 (by omega) (by have := HLL.out; omega) 8 w h)
  have HR := Lib.hid hr
  clear hr h hl
  go_enter Tryz.func141, Tryz.ntmps141
  go_wp2_with fail
  refine N.out.mono ?_
  rintro e w1 ⟨rfl, h1, h2⟩
  have H1 := Lib.hid h1
  have H2 := Lib.hid h2
  clear h1 h2
  go_wp2_with fail
  go_loopw [4] (fun i wr => ∃ (k : Nat), k ≤ n ∧ k ≤ 8 ∧ i = .int .i64 (k : Int) ∧ OutIs wr P g (l ++ (le 1 n ++ (es.take k).flatMap entC.enc)) (ok && decide (n ≤ 8) && (es.take k).all entC.ok) ∧ Safe P w wr) (fun i _ => 8 - (intOf i).toNat)
  case atStart => exact ⟨0, by omega, by omega, rfl, by simpa using H1.out, H2.out⟩
  case round =>
    obtain ⟨k, hk, hk8, rfl, ho, hb⟩ := hrel
    have HO := Lib.hid ho
    have HB := Lib.hid hb
    clear ho hb
    by_cases hlt : k < n
    · by_cases h8 : k < 8
      · obtain ⟨a, ha⟩ := HR.out.lt hlt
        obtain ⟨g2, o2, cs2, e1, hg2, e2, e3⟩ := HR.out.2.2.2 k a ha
        have e2' : cs2 = [.string a.key, .string a.val] := e2
        subst e1
        have hk0 : wr.cell? ⟨g2, o2 + k * 2, none⟩ = some (.string a.key) := (HB.out.cell hg2).trans (e3 0 _ (by rw [e2']; rfl))
        have hk1 : wr.cell? ⟨g2, o2 + k * 2 + 1, none⟩ = some (.string a.val) := (HB.out.cell hg2).trans (e3 1 _ (by rw [e2']; rfl))
        have HA := Lib.hid (map_more ha entC.enc)
        have HK := Lib.hid (all_more ha entC.ok)
        have hlen := take_len es entC.enc (show k + 1 ≤ 8 by omega)
        rw [HA.out, ent_enc] at hlen
        simp only [List.length_append, le_length, bs_length] at hlen
        have hll := HLL.out
        have T1 := Lib.hid (otext_any P g _ _ a.key (by simp only [List.length_append, le_length]; omega) 32 (by omega) wr HO.out)
        have HG := Lib.hid hg2
        clear hlen hll e2 e2' e3 hg2
        go_wp2_with fail
        refine T1.out.mono ?_
        rintro e wa ⟨rfl, q1, q2⟩
        have hk1' : wa.cell? ⟨g2, o2 + k * 2 + 1, none⟩ = some (.string a.val) := (q2.cell HG.out).trans hk1
        have Q2 := Lib.hid (HB.out.trans q2)
        have T2 := Lib.hid (otext_any P g _ _ a.val (by
          have hlen := take_len es entC.enc (show k + 1 ≤ 8 by omega)
          rw [HA.out, ent_enc] at hlen
          simp only [List.length_append, le_length, bs_length] at hlen ⊢
          have hll := HLL.out
          omega) 64 (by omega) wa q1)
        clear q1 q2 hk0 hk1
        go_wp2_with fail
        refine T2.out.mono ?_
        rintro e wb ⟨rfl, q1, q2⟩
        have Q1 := Lib.hid q1
        have Q3 := Lib.hid (Q2.out.trans q2)
        clear q1 q2 hk1'
        go_wp2_with fail
        go_roundw
        case rel =>
          refine ⟨k + 1, by omega, by omega, by go_num, ?_, Q3.out⟩
          have q := Q1.out
          rw [HA.out, HK.out, ent_enc, ent_ok]
          simpa only [List.append_assoc, Bool.and_assoc] using q
        case measure => simp [intOf]; omega
      · obtain rfl : k = 8 := by omega
        go_wp2_with fail
        go_end0
        refine ⟨rfl, ?_, HB.out⟩
        have q := HO.out
        rw [show entsC.ok es = listMay 8 entC es from (listMay_ok 8 entC es).symm, listMay, listOut, hes]
        simpa only [List.append_assoc, Bool.and_assoc] using q
    · obtain rfl : n = k := by omega
      go_wp2_with fail
      go_end0
      refine ⟨rfl, ?_, HB.out⟩
      have q := HO.out
      rw [show entsC.ok es = listMay 8 entC es from (listMay_ok 8 entC es).symm, listMay, listOut, hes, List.take_of_length_le (show es.length ≤ 8 by omega)]
      rw [List.take_of_length_le (show es.length ≤ n by omega)] at q
      simpa only [List.append_assoc, Bool.and_assoc] using q
end Go.Proofs.YtngcbpgafjnfaaaGreatDoor
