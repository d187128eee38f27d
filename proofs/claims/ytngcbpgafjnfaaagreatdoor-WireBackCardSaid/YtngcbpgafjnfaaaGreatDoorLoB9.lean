/- The coder's rows of numbers: managers, a number for each replica (gen_array.py). The coder's structs and lists of them (gen_structs.py). -/
import Derived.Test.YtngcbpgafjnfaaaGreatDoorLoB8
set_option linter.unusedSimpArgs false
set_option linter.unusedVariables false

namespace Go.Proofs.YtngcbpgafjnfaaaGreatDoor
open Go.RowKit Go.Sort
set_option linter.unusedVariables false

/-- a kind that is what it should be: it is sound, it goes there and back, it is no longer than mx -/
structure Kd.Okay {α : Type} (k : Kd α) (mx : Nat) : Prop where
  fine : k.Fine
  good : Good k.cod
  len : ∀ a, k.cod.ok a = true → (k.cod.enc a).length ≤ mx
theorem Kd.Okay.step {α : Type} {k : Kd α} {mx : Nat} (h : k.Okay mx) {md : Bool} {l : List Nat} (hl : md = true → Bytes l) {a : α} {p : List Nat × α} (hs : step k.cod md l a = some p) : p.1.length ≤ l.length + mx := by
  cases md
  · rw [step_w] at hs
    split at hs
    · rename_i h1
      injection hs with hs
      subst hs
      have := h.len a h1
      simp; omega
    · cases hs
  · have := step_short h.good (hl rfl) hs
    omega
theorem CdIs.bytes_of {w : World} {md : Bool} {P : Nat → Prop} {gc : Nat} {sb : Src} {f : ByteArray} {l : List Nat} (h : CdIs w md P gc sb f l) : md = true → Bytes l := fun hm => by subst hm; exact h.bytes

/-- a row of n parts of one cell each -/
def rowK {α : Type} (k : Kd α) (fv : α → Value) (ok : α → Prop) (n : Nat) : Kd (List α) := ⟨rep k.cod n, n, List.replicate n k.zero, fun _ _ cs xs => xs.length = n ∧ cs = xs.map fv ∧ ∀ x ∈ xs, ok x⟩
theorem rowK_fine {α : Type} (k : Kd α) (fv : α → Value) (ok : α → Prop) (n : Nat) : (rowK k fv ok n).Fine :=
  ⟨fun _ _ _ _ h => by rw [h.2.1, List.length_map, h.1]; rfl, fun _ _ _ _ _ _ h _ _ => h, fun _ _ _ _ _ h _ => h⟩
theorem rowK_okay {α : Type} {k : Kd α} {mx : Nat} (h : k.Okay mx) (fv : α → Value) (ok : α → Prop) (n : Nat) : (rowK k fv ok n).Okay (n * mx) := by
  refine ⟨rowK_fine k fv ok n, rep_good h.good n, fun a ha => ?_⟩
  change (decide (a.length = n) && a.all k.cod.ok) = true at ha
  rw [Bool.and_eq_true, decide_eq_true_eq, List.all_eq_true] at ha
  obtain ⟨rfl, ha⟩ := ha
  show (a.flatMap k.cod.enc).length ≤ _
  induction a with
  | nil => simp
  | cons x a ih =>
    have h1 := h.len x (ha x (by simp))
    have h2 := ih fun y hy => ha y (by simp [hy])
    simp only [List.flatMap_cons, List.length_append, List.length_cons, Nat.succ_mul]
    omega
theorem row_start {α : Type} {k : Kd α} {fv : α → Value} {ok : α → Prop} {n : Nat} {w : World} {N M : Nat → Prop} {g o : Nat} {cs : List Value} {xs : List α} (h1 : k.sz = 1) (hk : ∀ w N x, ok x → k.is w N [fv x] x) (his : (rowK k fv ok n).is w N cs xs) (hc : Cells w g o cs) :
    ∀ i a, xs[i]? = some a → ∃ cs, k.is w M cs a ∧ Cells w g (o + i * k.sz) cs := fun i a hi => by
  obtain ⟨_, rfl, h3⟩ := his
  refine ⟨[fv a], hk _ _ _ (h3 a (List.mem_of_getElem? hi)), fun j u hu => ?_⟩
  obtain rfl : j = 0 := by
    have := (List.getElem?_eq_some_iff.1 hu).1
    simp at this; exact this
  obtain rfl : fv a = u := by simpa using hu
  rw [h1, Nat.mul_one]
  exact hc i _ (by rw [List.getElem?_map, hi]; rfl)
theorem row_end {α : Type} {md : Bool} {P N : Nat → Prop} {gc : Nat} {sb : Src} {f : ByteArray} {g o n : Nat} {lk : List Nat} {k : Kd α} {fv : α → Value} {ok : α → Prop} {ys : List α} {w wr : World} (h1 : k.sz = 1) (hk : ∀ w N cs x, k.is w N cs x → cs = [fv x] ∧ ok x) (hy : ys.length = n) (M : MidL md P N gc sb f lk g o k ys w wr) :
    Coded md P N gc sb f g o (rowK k fv ok n) w (some (lk, ys)) (.returned (.tuple #[])) wr := by
  refine ⟨M.safe, rfl, M.cd, ⟨ys.map fv, ⟨hy, rfl, fun x hx => ?_⟩, fun j u hu => ?_⟩, fun j hj => M.out j ?_, M.fz⟩
  · obtain ⟨i, hi⟩ := List.getElem?_of_mem hx
    obtain ⟨cs, q1, _⟩ := M.at_ i x hi
    exact (hk _ _ _ _ q1).2
  · rw [List.getElem?_map] at hu
    obtain ⟨x, hx, rfl⟩ := Option.map_eq_some_iff.1 hu
    obtain ⟨cs, q1, q2⟩ := M.at_ j x hx
    have := (hk _ _ _ _ q1).1
    subst this
    have := q2 0 _ rfl
    rwa [h1, Nat.mul_one, Nat.add_zero] at this
  · rw [h1, hy, Nat.mul_one]; exact hj
theorem set_mid2 {α : Type} (y x : List α) (b : α) (k : Nat) (hy : y.length = k) (hk : k < x.length) : (y ++ x.drop k).set k b = (y ++ [b]) ++ x.drop (k + 1) := by
  rw [List.set_append_right _ _ (by omega), hy, Nat.sub_self, List.drop_eq_getElem_cons hk, List.set_cons_zero]
  simp
theorem get_mid2 {α : Type} {y x : List α} {k : Nat} (hy : y.length = k) : (y ++ x.drop k)[k]? = x[k]? := by
  rw [List.getElem?_append_right (by omega), hy, Nat.sub_self, List.getElem?_drop]; simp
theorem intK_okay {size most : Nat} (h : most < 256 ^ size) (hs : size ≤ 8) : (intK size most).Okay 8 := ⟨intK_fine _ _, whole_good h, fun a _ => by show (le size a.toNat).length ≤ _; rw [le_length]; exact hs⟩
theorem natK_okay {kd : IntKind} {size most : Nat} (h : most < 256 ^ size) (hs : size ≤ 8) : (natK kd size most).Okay 8 := ⟨natK_fine _ _ _, num_good _ _ h, fun a _ => by show (le size a).length ≤ _; rw [le_length]; exact hs⟩
theorem flagK_okay : flagK.Okay 8 := ⟨flagK_fine, flag_good, fun a _ => by cases a <;> decide⟩
theorem textK_okay {max : Nat} (h : max ≤ 255) : (textK max).Okay 300 := ⟨textK_fine _, text_good (by omega), fun a ha => by
  change (text max).ok a = true at ha
  rw [text_ok, decide_eq_true_eq] at ha
  show ((text max).enc a).length ≤ _
  rw [text_enc]; simp [le_length, bs_length]; omega⟩
theorem flat_len {α : Type} (f : α → List Nat) (mx : Nat) : ∀ a : List α, (∀ x ∈ a, (f x).length ≤ mx) → (a.flatMap f).length ≤ a.length * mx
  | [], _ => by simp
  | x :: a, h => by
    have h1 := h x (by simp)
    have h2 := flat_len f mx a fun y hy => h y (by simp [hy])
    simp only [List.flatMap_cons, List.length_append, List.length_cons, Nat.succ_mul]
    omega
theorem listK_okay {α : Type} {k : Kd α} {mx : Nat} (h : k.Okay mx) {max : Nat} (hm : max ≤ 255) : (listK k max).Okay (8 + max * mx) := ⟨listK_fine h.fine max, list_good (by omega) h.good, fun a ha => by
  change (list max k.cod).ok a = true at ha
  rw [list_ok, Bool.and_eq_true, decide_eq_true_eq, List.all_eq_true] at ha
  show ((list max k.cod).enc a).length ≤ _
  rw [list_enc]
  have := flat_len k.cod.enc mx a fun x hx => h.len x (ha.2 x hx)
  have h3 : a.length * mx ≤ max * mx := Nat.mul_le_mul_right _ ha.1
  rw [List.length_append, le_length]; omega⟩

abbrev mansK : Kd (List Int) := rowK (intK 1 255) (Value.int .i64) I64 3
abbrev incsK : Kd (List Nat) := rowK (natK .u32 4 4294967295) (fun v : Nat => Value.int .u32 (v : Int)) (fun v : Nat => (v : Int) ≤ IntKind.u32.max) 4

set_option maxHeartbeats 4000000 in
theorem mans_codes : Codes 159 [] (mansK) 24 := by
  intro md P N gc sb f l g o cs xs w hcd hz his hcs hN hw hr hg hne hl
  have hxl := his.1
  have M0 := Lib.hid (MidL.start (k := intK 1 255) (N := N) (g := g) (o := o) (xs := xs) hcd (row_start (M := Grow md N w w) rfl (fun w N x h => ⟨rfl, h⟩) his hcs))
  have HXZ := Lib.hid (show ∀ (i : Nat) a, xs[i]? = some a → md = true → a = (intK 1 255).zero from fun i a hi hm => by
    rw [hz hm] at hi
    exact List.eq_of_mem_replicate (List.mem_of_getElem? hi))
  show Calls _ _ #[.pointer (some ⟨gc, 0, none⟩), .pointer (some ⟨g, o, none⟩)] w (Coded md P N gc sb f g o (mansK) w (step (rep (intK 1 255).cod 3) md l xs))
  have HR := Lib.hid (step_rep (intK 1 255).cod md 3 xs hxl l)
  generalize step (rep (intK 1 255).cod 3) md l xs = r at *
  have HN := Lib.hid hN; have HW := Lib.hid hw; have HRD := Lib.hid hr; have HXL := Lib.hid hxl
  clear hcd hz his hcs hN hw hr
  go_enter Tryz.func159, Tryz.ntmps159
  go_wp2_with fail
  go_loopw [5] (fun i wr => ∃ (k : Nat) (lk : List Nat) (ys : List _), k ≤ 3 ∧ i = .int .i64 (k : Int) ∧ stepL (intK 1 255).cod md (xs.take k) l = some (lk, ys) ∧ lk.length ≤ l.length + k * 8 ∧ MidL md P N gc sb f lk g o (intK 1 255) (ys ++ xs.drop k) w wr) (fun i _ => 3 - (intOf i).toNat)
  case atStart => exact ⟨0, l, [], by omega, rfl, rfl, by omega, M0.out⟩
  case round =>
    obtain ⟨k, lk, ys, hk, rfl, hst, hlk, hM⟩ := hrel
    have HM := Lib.hid hM
    have HST := Lib.hid hst
    have hyl : ys.length = k := by rw [stepL_len _ _ _ _ _ _ hst]; simp; omega
    have HYL := Lib.hid hyl
    clear hM hst
    by_cases hlt : k < 3
    · have hi0 : xs[k]? = some (xs[k]'(by omega)) := List.getElem?_eq_getElem (by omega)
      generalize xs[k]'(by omega) = a at hi0
      have hi := (get_mid2 (x := xs) hyl).trans hi0
      have CALL := Lib.hid (HM.out.call (intK_okay (size := 1) (most := 255) (by decide) (by decide)).fine octet_codes hi (HXZ.out k a hi0) HN.out HW.out HRD.out hg hne (by omega))
      rw [show (intK 1 255).sz = 1 from rfl, Nat.mul_one] at CALL
      have HMORE := Lib.hid (stepL_more (intK 1 255).cod md hi0 l)
      rw [HST.out] at HMORE
      have HB := Lib.hid HM.out.cd.bytes_of
      clear hi hi0 hyl
      cases hs : step (intK 1 255).cod md lk a with
      | none =>
        rw [hs] at CALL
        have hr0 : r = none := by
          rw [HR.out]
          refine stepL_none _ _ l (k := k + 1) ?_
          have h9 := HMORE.out
          simp only [Option.bind_some, hs, Option.map_none] at h9
          exact h9
        clear hs HMORE
        subst hr0
        go_wp2_with fail
        refine CALL.out.mono ?_
        rintro e w' ⟨h8, a', h9, h10, rfl, h11⟩
        exact ⟨rfl, coded_gave ⟨a', h9, h10, rfl, h11⟩ h8⟩
      | some p =>
        rw [hs] at CALL
        have HLN := Lib.hid ((intK_okay (size := 1) (most := 255) (by decide) (by decide)).step HB.out hs)
        have HMORE2 : Hid (stepL (intK 1 255).cod md (xs.take (k + 1)) l = some (p.1, ys ++ [p.2])) := Lib.hid (by
          have h9 := HMORE.out
          simp only [Option.bind_some, hs, Option.map_some] at h9
          exact h9)
        clear hs HMORE
        go_wp2_with fail
        refine CALL.out.mono ?_
        rintro e w' ⟨rfl, hM2⟩
        have hM3 := hM2
        rw [set_mid2 _ _ _ _ HYL.out (by rw [HXL.out]; exact hlt)] at hM3
        have HM2 := Lib.hid hM3
        clear hM2 hM3
        go_wp2_with fail
        go_roundw
        case rel => exact ⟨k + 1, p.1, ys ++ [p.2], by omega, by go_num, HMORE2.out, by have := HLN.out; omega, HM2.out⟩
        case measure => simp [intOf]; omega
    · obtain rfl : k = 3 := by omega
      have hr0 : r = some (lk, ys) := by
        rw [HR.out]
        have h9 := HST.out
        rwa [List.take_of_length_le (by rw [HXL.out]; exact Nat.le_refl _)] at h9
      subst hr0
      clear hyl
      go_wp2_with fail
      go_end0
      have M := HM.out
      rw [List.drop_of_length_le (by rw [HXL.out]; exact Nat.le_refl _), List.append_nil] at M
      exact row_end rfl (fun w N cs x h => h) HYL.out M

set_option maxHeartbeats 4000000 in
theorem incs_codes : Codes 168 [] (incsK) 32 := by
  intro md P N gc sb f l g o cs xs w hcd hz his hcs hN hw hr hg hne hl
  have hxl := his.1
  have M0 := Lib.hid (MidL.start (k := natK .u32 4 4294967295) (N := N) (g := g) (o := o) (xs := xs) hcd (row_start (M := Grow md N w w) rfl (fun w N x h => ⟨rfl, h⟩) his hcs))
  have HXZ := Lib.hid (show ∀ (i : Nat) a, xs[i]? = some a → md = true → a = (natK .u32 4 4294967295).zero from fun i a hi hm => by
    rw [hz hm] at hi
    exact List.eq_of_mem_replicate (List.mem_of_getElem? hi))
  show Calls _ _ #[.pointer (some ⟨gc, 0, none⟩), .pointer (some ⟨g, o, none⟩)] w (Coded md P N gc sb f g o (incsK) w (step (rep (natK .u32 4 4294967295).cod 4) md l xs))
  have HR := Lib.hid (step_rep (natK .u32 4 4294967295).cod md 4 xs hxl l)
  generalize step (rep (natK .u32 4 4294967295).cod 4) md l xs = r at *
  have HN := Lib.hid hN; have HW := Lib.hid hw; have HRD := Lib.hid hr; have HXL := Lib.hid hxl
  clear hcd hz his hcs hN hw hr
  go_enter Tryz.func168, Tryz.ntmps168
  go_wp2_with fail
  go_loopw [5] (fun i wr => ∃ (k : Nat) (lk : List Nat) (ys : List _), k ≤ 4 ∧ i = .int .i64 (k : Int) ∧ stepL (natK .u32 4 4294967295).cod md (xs.take k) l = some (lk, ys) ∧ lk.length ≤ l.length + k * 8 ∧ MidL md P N gc sb f lk g o (natK .u32 4 4294967295) (ys ++ xs.drop k) w wr) (fun i _ => 4 - (intOf i).toNat)
  case atStart => exact ⟨0, l, [], by omega, rfl, rfl, by omega, M0.out⟩
  case round =>
    obtain ⟨k, lk, ys, hk, rfl, hst, hlk, hM⟩ := hrel
    have HM := Lib.hid hM
    have HST := Lib.hid hst
    have hyl : ys.length = k := by rw [stepL_len _ _ _ _ _ _ hst]; simp; omega
    have HYL := Lib.hid hyl
    clear hM hst
    by_cases hlt : k < 4
    · have hi0 : xs[k]? = some (xs[k]'(by omega)) := List.getElem?_eq_getElem (by omega)
      generalize xs[k]'(by omega) = a at hi0
      have hi := (get_mid2 (x := xs) hyl).trans hi0
      have CALL := Lib.hid (HM.out.call (natK_okay (kd := .u32) (size := 4) (most := 4294967295) (by decide) (by decide)).fine word_codes hi (HXZ.out k a hi0) HN.out HW.out HRD.out hg hne (by omega))
      rw [show (natK .u32 4 4294967295).sz = 1 from rfl, Nat.mul_one] at CALL
      have HMORE := Lib.hid (stepL_more (natK .u32 4 4294967295).cod md hi0 l)
      rw [HST.out] at HMORE
      have HB := Lib.hid HM.out.cd.bytes_of
      clear hi hi0 hyl
      cases hs : step (natK .u32 4 4294967295).cod md lk a with
      | none =>
        rw [hs] at CALL
        have hr0 : r = none := by
          rw [HR.out]
          refine stepL_none _ _ l (k := k + 1) ?_
          have h9 := HMORE.out
          simp only [Option.bind_some, hs, Option.map_none] at h9
          exact h9
        clear hs HMORE
        subst hr0
        go_wp2_with fail
        refine CALL.out.mono ?_
        rintro e w' ⟨h8, a', h9, h10, rfl, h11⟩
        exact ⟨rfl, coded_gave ⟨a', h9, h10, rfl, h11⟩ h8⟩
      | some p =>
        rw [hs] at CALL
        have HLN := Lib.hid ((natK_okay (kd := .u32) (size := 4) (most := 4294967295) (by decide) (by decide)).step HB.out hs)
        have HMORE2 : Hid (stepL (natK .u32 4 4294967295).cod md (xs.take (k + 1)) l = some (p.1, ys ++ [p.2])) := Lib.hid (by
          have h9 := HMORE.out
          simp only [Option.bind_some, hs, Option.map_some] at h9
          exact h9)
        clear hs HMORE
        go_wp2_with fail
        refine CALL.out.mono ?_
        rintro e w' ⟨rfl, hM2⟩
        have hM3 := hM2
        rw [set_mid2 _ _ _ _ HYL.out (by rw [HXL.out]; exact hlt)] at hM3
        have HM2 := Lib.hid hM3
        clear hM2 hM3
        go_wp2_with fail
        go_roundw
        case rel => exact ⟨k + 1, p.1, ys ++ [p.2], by omega, by go_num, HMORE2.out, by have := HLN.out; omega, HM2.out⟩
        case measure => simp [intOf]; omega
    · obtain rfl : k = 4 := by omega
      have hr0 : r = some (lk, ys) := by
        rw [HR.out]
        have h9 := HST.out
        rwa [List.take_of_length_le (by rw [HXL.out]; exact Nat.le_refl _)] at h9
      subst hr0
      clear hyl
      go_wp2_with fail
      go_end0
      have M := HM.out
      rw [List.drop_of_length_le (by rw [HXL.out]; exact Nat.le_refl _), List.append_nil] at M
      exact row_end rfl (fun w N cs x h => h) HYL.out M

end Go.Proofs.YtngcbpgafjnfaaaGreatDoor


namespace Go.Proofs.YtngcbpgafjnfaaaGreatDoor
open Go.RowKit Go.Sort
set_option linter.unusedVariables false

theorem cells_left {w : World} {g o : Nat} {c d : List Value} (h : Cells w g o (c ++ d)) : Cells w g o c := fun j u hu => h j u (by rw [List.getElem?_append_left (List.getElem?_eq_some_iff.1 hu).1]; exact hu)
theorem cells_right {w : World} {g o : Nat} {c d : List Value} (h : Cells w g o (c ++ d)) : Cells w g (o + c.length) d := fun j u hu => by
  rw [Nat.add_assoc]
  exact h _ u (by rw [List.getElem?_append_right (by omega), Nat.add_sub_cancel_left]; exact hu)
theorem cells_join {w : World} {g o : Nat} {c d : List Value} (h : Cells w g o c) (k : Cells w g (o + c.length) d) : Cells w g o (c ++ d) := fun j u hu => by
  by_cases hj : j < c.length
  · exact h j u (by rwa [List.getElem?_append_left hj] at hu)
  · rw [List.getElem?_append_right (by omega)] at hu
    have := k _ u hu
    rwa [show o + c.length + (j - c.length) = o + j by omega] at this
/-- how long what is written is, off the chain of its parts -/
theorem enc_len {α : Type} {c : Cod α} {a : α} (h : c.ok a = true) {mx : Nat} (hs : ∀ p, step c false [] a = some p → p.1.length ≤ mx) : (c.enc a).length ≤ mx := by
  have := hs ([] ++ c.enc a, a) (by rw [step_w, if_pos h])
  simpa using this
theorem bind_some_of {α β : Type} {x : Option α} {f : α → Option β} {b : β} (h : x.bind f = some b) : ∃ a, x = some a ∧ f a = some b := by
  cases x with
  | none => cases h
  | some a => exact ⟨a, rfl, h⟩
theorem okay_stepw {α : Type} {k : Kd α} {mx : Nat} (h : k.Okay mx) {l : List Nat} {a : α} {p : List Nat × α} (hs : step k.cod false l a = some p) : p.1.length ≤ l.length + mx := h.step (fun h => by cases h) hs

/-- ent -/
def entK : Kd Ent := ⟨entC, 2, ⟨ByteArray.empty, ByteArray.empty⟩, fun w N cs a => ∃ c0 c1, cs = c0 ++ (c1) ∧ (textK 32).is w N c0 a.key ∧ (textK 64).is w N c1 a.val⟩
theorem entK_fine : entK.Fine := by
  refine ⟨fun w N cs a ha => ?_, fun w w' N P cs a ha hs hN => ?_, fun w N M cs a ha hm => ?_⟩
  · obtain ⟨c0, c1, rfl, h0, h1⟩ := ha
    have s0 := (textK_okay (max := 32) (by decide)).fine.size _ _ _ _ h0; have s1 := (textK_okay (max := 64) (by decide)).fine.size _ _ _ _ h1
    change c0.length = 1 at s0; change c1.length = 1 at s1
    show _ = 2
    simp only [List.length_append]; omega
  · obtain ⟨c0, c1, e, h0, h1⟩ := ha
    exact ⟨c0, c1, e, (textK_okay (max := 32) (by decide)).fine.safe _ _ _ _ _ _ h0 hs hN, (textK_okay (max := 64) (by decide)).fine.safe _ _ _ _ _ _ h1 hs hN⟩
  · obtain ⟨c0, c1, e, h0, h1⟩ := ha
    exact ⟨c0, c1, e, (textK_okay (max := 32) (by decide)).fine.mono _ _ _ _ _ h0 hm, (textK_okay (max := 64) (by decide)).fine.mono _ _ _ _ _ h1 hm⟩
theorem step_ent (md : Bool) (l : List Nat) (a : Ent) : step entC md l a = (step (text 32) md l a.key).bind fun p0 => (step (text 64) md p0.1 a.val).bind fun p1 => some (p1.1, ⟨p0.2, p1.2⟩) := by
  unfold entC
  rw [step_map _ _ _ _ _ _ (fun _ => rfl)]
  simp only [step_two, Option.map_bind, Option.bind_assoc, Option.bind_some, Option.map_some, Function.comp_def]
theorem entK_okay : entK.Okay 600 := ⟨entK_fine, ent_good, fun a ha => enc_len (c := entC) ha fun p hp => by
  rw [step_ent] at hp
  obtain ⟨p0, e0, hp⟩ := bind_some_of hp
  have t0 := okay_stepw (textK_okay (max := 32) (by decide)) (show step (textK 32).cod false _ _ = _ from e0)
  obtain ⟨p1, e1, hp⟩ := bind_some_of hp
  have t1 := okay_stepw (textK_okay (max := 64) (by decide)) (show step (textK 64).cod false _ _ = _ from e1)
  injection hp with hp
  subst hp
  simp at *
  omega⟩

set_option maxHeartbeats 8000000 in
theorem ent_codes : Codes 187 [] entK 600 := by
  intro md P N gc sb f l g o cs a w hcd hz his hcs hN hw hr hg hne hl
  obtain ⟨c0, c1, rfl, h0, h1⟩ := his
  have s0 := (textK_okay (max := 32) (by decide)).fine.size _ _ _ _ h0; change c0.length = 1 at s0
  have s1 := (textK_okay (max := 64) (by decide)).fine.size _ _ _ _ h1; change c1.length = 1 at s1
  have k0 := cells_left hcs; have r0 := cells_right hcs; rw [s0] at r0
  have k1 := r0
  have M0 := Lib.hid (Mid.start (sz := 2) hcd (show Slots w (Grow md N w w) g o [(textK 32).slot 0 a.key, (textK 64).slot 1 a.val] from ⟨⟨c0, (textK_okay (max := 32) (by decide)).fine.mono _ _ (Grow md N w w) _ _ h0 (fun b hb => Or.inl hb), k0⟩, ⟨⟨c1, (textK_okay (max := 64) (by decide)).fine.mono _ _ (Grow md N w w) _ _ h1 (fun b hb => Or.inl hb), k1⟩, trivial⟩⟩))
  have Z0 := Lib.hid (show md = true → a.key = (textK 32).zero from fun h => by rw [hz h]; rfl)
  have Z1 := Lib.hid (show md = true → a.val = (textK 64).zero from fun h => by rw [hz h]; rfl)
  show Calls _ _ #[.pointer (some ⟨gc, 0, none⟩), .pointer (some ⟨g, o, none⟩)] w (Coded md P N gc sb f g o entK w (step entC md l a))
  have HR := Lib.hid (step_ent md l a)
  generalize step entC md l a = r at *
  have HN := Lib.hid hN; have HW := Lib.hid hw; have HRD := Lib.hid hr
  clear hcd hz hcs hN hw hr h0 s0 k0 h1 s1 k1 r0
  go_enter Tryz.func187, Tryz.ntmps187
  have CALL := Lib.hid (M0.out.call (textK_okay (max := 32) (by decide)).fine (show Codes _ [.int .u64 32] _ _ from text_codes 32 (by decide)) Z0.out HN.out HW.out HRD.out hg hne (by omega) (Nat.le_of_ble_eq_true rfl) trivial ⟨(textK_okay (max := 64) (by decide)).fine.slot _ _, trivial⟩ trivial ⟨.inr (Nat.le_of_ble_eq_true rfl), trivial⟩)
  rw [Nat.add_zero] at CALL
  cases e0 : step (textK 32).cod md l a.key with
  | none =>
    rw [e0] at CALL
    have hr0 : r = none := by
      have h9 := HR.out
      change step (text 32) md l a.key = _ at e0; rw [e0] at h9; exact h9
    clear e0
    subst hr0
    go_wp2_with fail
    refine CALL.out.mono ?_
    rintro e w' ⟨h8, a', h9, h10, rfl, h11⟩
    exact ⟨rfl, coded_gave ⟨a', h9, h10, rfl, h11⟩ h8⟩
  | some p0 =>
    rw [e0] at CALL
    have hlen0 := (textK_okay (max := 32) (by decide)).step M0.out.cd.bytes_of e0
    have E0 := Lib.hid e0
    clear e0
    go_wp2_with fail
    refine CALL.out.mono ?_
    rintro e w1 ⟨rfl, hM⟩
    have M1 := Lib.hid hM
    clear hM CALL
    have CALL := Lib.hid (M1.out.call (textK_okay (max := 64) (by decide)).fine (show Codes _ [.int .u64 64] _ _ from text_codes 64 (by decide)) Z1.out HN.out HW.out HRD.out hg hne (by omega) (Nat.le_of_ble_eq_true rfl) ⟨(textK_okay (max := 32) (by decide)).fine.slot _ _, trivial⟩ trivial ⟨.inl (Nat.le_of_ble_eq_true rfl), trivial⟩ trivial)
    cases e1 : step (textK 64).cod md p0.1 a.val with
    | none =>
      rw [e1] at CALL
      have hr0 : r = none := by
        have h9 := HR.out
        have hh0 := E0.out; change step (text 32) md l a.key = _ at hh0; rw [hh0] at h9; simp only [Option.bind_some] at h9
        change step (text 64) md p0.1 a.val = _ at e1; rw [e1] at h9; exact h9
      clear e1
      subst hr0
      go_wp2_with fail
      refine CALL.out.mono ?_
      rintro e w' ⟨h8, a', h9, h10, rfl, h11⟩
      exact ⟨rfl, coded_gave ⟨a', h9, h10, rfl, h11⟩ h8⟩
    | some p1 =>
      rw [e1] at CALL
      have hlen1 := (textK_okay (max := 64) (by decide)).step M1.out.cd.bytes_of e1
      have E1 := Lib.hid e1
      clear e1
      go_wp2_with fail
      refine CALL.out.mono ?_
      rintro e w2 ⟨rfl, hM⟩
      have M2 := Lib.hid hM
      clear hM CALL
      have hr0 : r = some (p1.1, ⟨p0.2, p1.2⟩) := by
        have h9 := HR.out
        have hh0 := E0.out; change step (text 32) md l a.key = _ at hh0; rw [hh0] at h9; simp only [Option.bind_some] at h9
        have hh1 := E1.out; change step (text 64) md p0.1 a.val = _ at hh1; rw [hh1] at h9; simp only [Option.bind_some] at h9
        first | exact h9 | (rw [hb]; exact h9)
      subst hr0
      go_wp2_with fail
      go_end0
      have M := M2.out
      obtain ⟨⟨d1, q1, x1⟩, ⟨d0, q0, x0⟩, _⟩ := M.dn
      change (textK 32).is w2 (Grow md N w w2) d0 p0.2 at q0
      have t0 := (textK_okay (max := 32) (by decide)).fine.size _ _ _ _ q0; change d0.length = 1 at t0; change Cells _ g (o + 0) d0 at x0
      change (textK 64).is w2 (Grow md N w w2) d1 p1.2 at q1
      have t1 := (textK_okay (max := 64) (by decide)).fine.size _ _ _ _ q1; change d1.length = 1 at t1; change Cells _ g (o + 1) d1 at x1
      have y0 := cells_join x0 (show Cells _ g (o + 0 + d0.length) _ from by rw [t0, Nat.add_assoc]; exact x1)
      exact ⟨M.safe, rfl, M.cd, ⟨d0 ++ (d1), ⟨d0, d1, rfl, q0, q1⟩, by rw [Nat.add_zero] at y0; exact y0⟩, M.out, M.fz⟩

set_option maxHeartbeats 16000000 in
theorem listent_codes (mx : Nat) (hlen : ∀ a, (entK).cod.ok a = true → ((entK).cod.enc a).length ≤ mx) (hgood : Good (entK).cod) (hE : Codes 187 [] (entK) mx) (max : Nat) (hm : max ≤ 255) : Codes 186 [.int .u64 (max : Int), .func (.func 187) #[] #[]] (listK (entK) max) (8 + max * mx) := by
  intro md P N gc sb f l g o cs xs w hcd hz his hcs hN hw hr hg hne hl
  obtain ⟨ao0, n0, cap0, rfl, hsl⟩ := his
  have hp := hcs 0 _ rfl
  simp only [Nat.add_zero] at hp
  have hn0 : n0 ≤ 9223372036854775807 := Nat.le_trans hsl.2.1 hsl.2.2.1
  have hxs := hsl.1
  have HCAP := Lib.hid hsl.2.2.1
  have hz0 : md = true → n0 = 0 := fun h => by rw [← hxs, hz h]; rfl
  have NB := Lib.hid (boxnum hcd hg hne hw n0 hn0 hz0 max hm (by omega))
  show Calls _ _ #[.pointer (some ⟨gc, 0, none⟩), .pointer (some ⟨g, o, none⟩), .int .u64 (max : Int), .func (.func 187) #[] #[]] w (Coded md P N gc sb f g o (listK (entK) max) w (step (list max (entK).cod) md l xs))
  have HR := Lib.hid (step_list (entK).cod md max (entK).zero xs l)
  rw [hxs] at HR
  generalize hrr : step (list max (entK).cod) md l xs = r at *
  clear hrr
  have hgc := hcd.lt
  have HNP := Lib.hid hN
  have HPO := Lib.hid (fun b (hb : P b) => hcd.off hb)
  cases md
  · have HE := Lib.hid (fun l' w' hcd' hs' => coded_wrote (sb := sb) (f := f) (gc := gc) (l' := l') (listK_fine entK_okay.fine max) (w' := w') hcd' hs' (hw rfl) hN ⟨ao0, n0, cap0, rfl, hsl⟩ hcs)
    obtain ⟨g2, o2, hsn, hat⟩ := sl_at hsl
    have HAT := Lib.hid hat
    clear hat
    by_cases hok : n0 ≤ max
    · rw [num_w hok] at NB HR
      simp only [Option.bind_some, Bool.false_eq_true, if_false] at HR
      clear hz hcs hN hw hr hcd hz0 hsl
      go_enter Tryz.func186, Tryz.ntmps186
      go_wp2_with fail
      refine NB.out.mono ?_
      rintro e w1 ⟨rfl, h1, h2, h3, h4, h5⟩
      have h1 : CdIs w1 false (fun b => P b ∨ b = g ∨ b = w.heap.size) gc sb f (l ++ le 1 n0) := h1
      have h3 : w1.cell? ⟨w.heap.size, 0, none⟩ = some (.int .i64 (n0 : Int)) := h3
      have hp1 := (h2.cell (a := ⟨g, o, none⟩) (.inr rfl)).trans hp
      have H2 := Lib.hid h2
      have M0 := Lib.hid (MidL.start (k := entK) (N := N) (g := g2) (o := o2) (xs := xs) h1 (fun i a hi => by
        obtain ⟨cs, q1, q2⟩ := HAT.out i a hi
        have hn : 0 < n0 := by have := (List.getElem?_eq_some_iff.1 hi).1; omega
        exact ⟨cs, entK_okay.fine.mono _ _ _ _ _ (entK_okay.fine.safe _ _ _ _ _ _ q1 (h2.mono fun b hb => .inl hb) HNP.out) (fun b hb => .inl hb), q2.safe h2 (.inl (HNP.out _ (hsn hn).2))⟩))
      have HSZ := Lib.hid (show w.heap.size ≤ w1.heap.size from h2.size)
      have HPG := Lib.hid hp1
      have hcc := h1
      obtain ⟨ao, n, cap, ha, hof⟩ := h1
      have c0 := ha.c0
      have HL0 := Lib.hid (show (l ++ le 1 n0).length = l.length + 1 by simp [le_length])
      clear ha hof h2 h4 hp hp1 hcc
      generalize l ++ le 1 n0 = l1 at *
      go_wp2_with fail
      clear c0 h3
      go_loopw [30] (fun i wr => ∃ (k : Nat) (lk : List Nat), k ≤ n0 ∧ i = .int .i64 (k : Int) ∧ stepL (entK).cod false (xs.take k) l1 = some (lk, xs.take k) ∧ lk.length ≤ l.length + 1 + k * mx ∧ MidL false (fun b => P b ∨ b = g ∨ b = w.heap.size) N gc sb f lk g2 o2 (entK) xs w1 wr) (fun i _ => n0 - (intOf i).toNat)
      case atStart => exact ⟨0, l1, by omega, rfl, rfl, by rw [HL0.out]; omega, M0.out⟩
      case round =>
        obtain ⟨k, lk, hk, rfl, hst, hlk, hM⟩ := hrel
        have HM := Lib.hid hM
        have HST := Lib.hid hst
        have hp2 := (hM.safe.toSafe.cell (a := ⟨g, o, none⟩) (.inr (.inl rfl))).trans HPG.out
        clear hM hst
        by_cases hlt : k < n0
        · have hi : xs[k]? = some (xs[k]'(by omega)) := List.getElem?_eq_getElem (by omega)
          generalize xs[k]'(by omega) = a at hi
          have HI := Lib.hid hi
          obtain ⟨hao, hNg⟩ := hsn (by omega)
          have hkm : (k + 1) * mx ≤ max * mx := Nat.mul_le_mul_right _ (by omega)
          rw [Nat.succ_mul] at hkm
          have CALL := Lib.hid (HM.out.call entK_okay.fine hE hi (fun h => by cases h) (fun b hb => .inl (HNP.out b hb)) (fun _ => .inl (HNP.out _ hNg)) (fun h => by cases h) (Nat.lt_of_lt_of_le (HPO.out _ (HNP.out _ hNg)).1 HSZ.out) (HPO.out _ (HNP.out _ hNg)).2 (by omega))
          have HMORE := Lib.hid (stepL_more (entK).cod false hi l1)
          rw [HST.out] at HMORE
          subst hao
          clear hi
          cases hs : step (entK).cod false lk a with
          | none =>
            rw [hs] at CALL
            have hr0 : r = none := by
              rw [HR.out]
              refine stepL_none _ _ l1 (k := k + 1) ?_
              have h9 := HMORE.out
              simp only [Option.bind_some, hs, Option.map_none] at h9
              exact h9
            clear hs HMORE
            subst hr0
            go_wp2_with fail
            refine CALL.out.mono ?_
            rintro e w' ⟨h8, a', h9, h10, rfl, h11⟩
            exact ⟨rfl, coded_gave (Gave.from ⟨a', h9, h10, rfl, h11⟩ HSZ.out) ((SafeK.of H2.out).trans (SafeK.of (h8.toSafe.mono fun b hb => by
              rcases hb with hb | hb
              · exact .inl hb
              · exact .inr (.inl hb))))⟩
          | some p =>
            rw [hs] at CALL
            have HS := Lib.hid hs
            clear hs
            go_wp2_with fail
            refine CALL.out.mono ?_
            rintro e w' ⟨rfl, hM2⟩
            have HM2 := Lib.hid (midl_wrote HI.out HS.out hM2)
            clear hM2
            go_wp2_with fail
            go_roundw
            case rel =>
              refine ⟨k + 1, p.1, by omega, by go_num, ?_, ?_, HM2.out⟩
              · have h9 := HMORE.out
                have h10 := HS.out
                rw [step_w] at h10
                split at h10
                · injection h10 with h10
                  subst h10
                  rename_i hk2
                  simp only [Option.bind_some, step_w, hk2, if_true, Option.map_some] at h9
                  rw [h9, List.take_add_one, HI.out]; rfl
                · cases h10
              · have h10 := HS.out
                rw [step_w] at h10
                split at h10
                · injection h10 with h10
                  subst h10
                  rename_i hk2
                  have := hlen a hk2
                  simp only [List.length_append, Nat.succ_mul]
                  omega
                · cases h10
            case measure => simp [intOf]; omega
        · obtain rfl : n0 = k := by omega
          have hr0 : r = some (lk, xs) := by
            rw [HR.out]
            have h9 := HST.out
            rwa [List.take_of_length_le (by omega)] at h9
          subst hr0
          go_wp2_with fail
          go_end0
          exact HE.out _ _ (HM.out.cd.reP (fun hm => by cases hm) fun b hb => .inl (.inl (.inl hb))) ((H2.out.mono fun b hb => .inl hb).trans (HM.out.safe.toSafe.mono fun b hb => .inl hb))
    · rw [num_w_no (by omega)] at NB HR
      simp only [Option.bind_none] at HR
      have hr0 : r = none := HR.out
      subst hr0
      clear hz hcs hN hw hr hcd hz0 hsl
      go_enter Tryz.func186, Tryz.ntmps186
      go_wp2_with fail
      refine NB.out.mono ?_
      rintro e w1 ⟨hs, a, h1, h2, rfl, h3⟩
      exact ⟨rfl, coded_gave ⟨a, h1, h2, rfl, h3⟩ hs⟩
  · have hf0 := (hr rfl).2 o
    have hsrc := hcd.src
    have hnP := (hr rfl).1
    have hl0 := hcd.bytes
    obtain rfl : xs = [] := hz rfl
    obtain rfl : n0 = 0 := hz0 rfl
    clear hz hcs hN hw hr hcd hz0 hsl
    cases hst : step (num' 1 max) true l 0 with
    | none =>
      rw [hst] at NB HR
      simp only [Option.bind_none] at HR
      have hr0 : r = none := HR.out
      subst hr0
      clear hst
      go_enter Tryz.func186, Tryz.ntmps186
      go_wp2_with fail
      refine NB.out.mono ?_
      rintro e w1 ⟨hs, a, h1, h2, rfl, h3⟩
      exact ⟨rfl, coded_gave ⟨a, h1, h2, rfl, h3⟩ hs⟩
    | some p =>
      obtain ⟨l', n⟩ := p
      obtain ⟨hnm, hll⟩ := num_r_le hst
      rw [hst] at NB HR
      simp only [Option.bind_some, if_true] at HR
      clear hst
      by_cases hn : n = 0
      · subst hn
        have hr0 : r = some (l', []) := HR.out
        subst hr0
        go_enter Tryz.func186, Tryz.ntmps186
        go_wp2_with fail
        refine NB.out.mono ?_
        rintro e w1 ⟨rfl, h1, h2, h3, h4, h5⟩
        have h1 : CdIs w1 true (fun b => P b ∨ b = g ∨ b = w.heap.size) gc sb f l' := h1
        have h3 : w1.cell? ⟨w.heap.size, 0, none⟩ = some (.int .i64 0) := h3
        have hp1 := (h2.cell (a := ⟨g, o, none⟩) (.inr rfl)).trans hp
        have HE := Lib.hid (Coded.from (N := N) (listK_fine entK_okay.fine max) (coded_keep (N := N) (k := listK (entK) max) (g := g) (o := o) (a := []) (cs := [.slice ao0 0 cap0]) (listK_fine entK_okay.fine max) h1 (fun b hb => .inl hb) hsrc ⟨ao0, 0, cap0, rfl, rfl, Nat.zero_le _, HCAP.out, fun i a hi => by simp at hi⟩ (fun j u hu => by
          obtain rfl : j = 0 := by
            have := (List.getElem?_eq_some_iff.1 hu).1
            simp at this; exact this
          obtain rfl : Value.slice ao0 0 cap0 = u := by simpa using hu
          exact hp1)) h2 hgc)
        obtain ⟨ao, nn, cap, ha, hof⟩ := h1
        have c0 := ha.c0
        clear ha hof h2 h4 hp hp1
        go_wp2_with fail
        go_loopw [30] (fun i wr => i = .int .i64 0 ∧ wr = w1) (fun _ _ => 0)
        case atStart => exact ⟨rfl, rfl⟩
        case round =>
          obtain ⟨rfl, rfl⟩ := hrel
          go_wp2_with fail
          go_end0
          exact HE.out
      · have hn1 : 1 ≤ n := by omega
        clear hn
        have HMM := Lib.hid (show mx ≤ max * mx from Nat.le_mul_of_pos_left _ (by omega))
        have HLL := Lib.hid hll
        clear hll
        go_enter Tryz.func186, Tryz.ntmps186
        go_wp2_with fail
        refine NB.out.mono ?_
        rintro e w1 ⟨rfl, h1, h2, h3, h4, h5⟩
        have h1 : CdIs w1 true (fun b => P b ∨ b = g ∨ b = w.heap.size) gc sb f l' := h1
        have h3 : w1.cell? ⟨w.heap.size, 0, none⟩ = some (.int .i64 (n : Int)) := h3
        have hp1 := (h2.cell (a := ⟨g, o, none⟩) (.inr rfl)).trans hp
        have hf1 : w1.frozen? ⟨g, o, none⟩ = false := (World.frozen?_of_block (w := w) (a := ⟨g, o, none⟩) (h2.block g (.inr rfl))).trans hf0
        have HLD := Lib.hid (laid_of (o := o) (n := n) (k := entK) h1 hsrc hnP hne hg hgc h5 (Value.agg #[.string ⟨#[]⟩, .string ⟨#[]⟩]) 193 _ rfl rfl (fun w N => ⟨[.string ⟨#[]⟩], [.string ⟨#[]⟩], rfl, ⟨rfl, by decide⟩, ⟨rfl, by decide⟩⟩) (by rw [hp1]; rfl) hf1)
        have RM := Lib.hid (run_mk w1 36 193 (Value.agg #[.string ⟨#[]⟩, .string ⟨#[]⟩]) (entK).sz 32 (by kernel_rfl) (by kernel_rfl) n (by omega) (by decide))
        have H2 := Lib.hid h2
        obtain ⟨ao, nn, cap, ha, hof⟩ := h1
        have c0 := ha.c0
        clear ha hof h2 h4 hp
        generalize w1.alloc (.cells (madeCells (Value.agg #[.string ⟨#[]⟩, .string ⟨#[]⟩]).cells (n * (entK).sz)) 193) = w2 at *
        obtain ⟨xv, c2⟩ := Option.isSome_iff_exists.1 HLD.out.c2
        have f2 := HLD.out.f2
        have c3 := HLD.out.c3
        have b3 := HLD.out.b3.trans h3
        have hd : decide (0 < n) = true := decide_eq_true (by omega)
        go_wp2_with (at_make; refine wpList_runs rfl _ _ (exec_make (vl := .int .i64 (n : Int)) (vc := .int .i64 (n : Int)) 36 (.tmp 26) (.tmp 26) rfl rfl rfl RM.out) ?_)
        generalize w2.setCell ⟨g, o, none⟩ _ = w3 at *
        clear c0 h3 hp1 hf1 c2 f2 hd RM b3
        have HC3 := Lib.hid c3
        clear c3
        go_loopw [30] (fun i wr => ∃ (k : Nat) (lk : List Nat) (ys : List _), k ≤ n ∧ i = .int .i64 (k : Int) ∧ stepL (entK).cod true ((List.replicate n (entK).zero).take k) l' = some (lk, ys) ∧ lk.length ≤ l.length ∧ MidL true (fun b => P b ∨ b = g ∨ b = w.heap.size) (fun _ => False) gc sb f lk w1.heap.size 0 (entK) (ys ++ List.replicate (n - k) (entK).zero) w3 wr) (fun i _ => n - (intOf i).toNat)
        case atStart => exact ⟨0, l', [], by omega, rfl, rfl, HLL.out, HLD.out.mid⟩
        case round =>
          obtain ⟨k, lk, ys, hk, rfl, hst, hlk, hM⟩ := hrel
          have HM := Lib.hid hM
          have HST := Lib.hid hst
          have hp2 := (hM.safe.toSafe.cell (a := ⟨g, o, none⟩) (.inr (.inl rfl))).trans HC3.out
          have hyl : ys.length = k := by rw [stepL_len _ _ _ _ _ _ hst]; simp; omega
          have HYL := Lib.hid hyl
          have HSR := Lib.hid HLD.out.sz
          clear hM hst
          by_cases hlt : k < n
          · have hi : (ys ++ List.replicate (n - k) (entK).zero)[k]? = some (entK).zero := by
              rw [List.getElem?_append_right (by omega), hyl, Nat.sub_self, List.getElem?_replicate, if_pos (by omega)]
            have CALL := Lib.hid (HM.out.call entK_okay.fine hE hi (fun _ => rfl) (fun b hb => hb.elim) (fun h => by cases h) (fun _ => ⟨(fun hb => by
              rcases hb with hb | hb | hb
              · have := HPO.out _ hb; have := H2.out.size; omega
              · have := H2.out.size; omega
              · omega), HLD.out.f3⟩) (by rw [HSR.out]; omega) (by have := H2.out.size; omega) (by have := HMM.out; omega))
            have HMORE := Lib.hid (stepL_more (entK).cod true (x := List.replicate n (entK).zero) (k := k) (a := (entK).zero) (by rw [List.getElem?_replicate, if_pos hlt]) l')
            rw [HST.out] at HMORE
            rw [Nat.zero_add] at CALL
            clear hi hyl
            cases hs : step (entK).cod true lk (entK).zero with
            | none =>
              rw [hs] at CALL
              have hr0 : r = none := by
                rw [HR.out]
                refine stepL_none _ _ l' (k := k + 1) ?_
                have h9 := HMORE.out
                simp only [Option.bind_some, hs, Option.map_none] at h9
                exact h9
              clear hs HMORE
              subst hr0
              go_wp2_with fail
              refine CALL.out.mono ?_
              rintro e w' ⟨h8, a', h9, h10, rfl, h11⟩
              exact ⟨rfl, coded_gave (Gave.from ⟨a', h9, h10, rfl, h11⟩ (by have := H2.out.size; have := HSR.out; omega)) (((SafeK.of H2.out).trans ⟨HLD.out.s3, fun j hj => (by
                by_cases e : j = o
                · subst e; rw [HC3.out]; rfl
                · rw [HLD.out.ot j e]; exact hj), HLD.out.fz⟩).trans (SafeK.of (h8.toSafe.mono fun b hb => by
                rcases hb with hb | hb
                · exact .inl hb
                · exact .inr (.inl hb))))⟩
            | some p =>
              rw [hs] at CALL
              have HSH := Lib.hid (step_short hgood HM.out.cd.bytes hs)
              have HMORE2 : Hid (stepL (entK).cod true ((List.replicate n (entK).zero).take (k + 1)) l' = some (p.1, ys ++ [p.2])) := Lib.hid (by
                have h9 := HMORE.out
                simp only [Option.bind_some, hs, Option.map_some] at h9
                exact h9)
              clear hs HMORE
              go_wp2_with fail
              refine CALL.out.mono ?_
              rintro e w' ⟨rfl, hM2⟩
              have hM3 := hM2
              rw [set_mid _ _ _ _ _ HYL.out hlt] at hM3
              have HM2 := Lib.hid hM3
              clear hM2 hM3
              go_wp2_with fail
              go_roundw
              case rel => exact ⟨k + 1, p.1, ys ++ [p.2], by omega, by go_num, HMORE2.out, by have := HSH.out; omega, HM2.out⟩
              case measure => simp [intOf]; omega
          · obtain rfl : n = k := by omega
            have hr0 : r = some (lk, ys) := by
              rw [HR.out]
              have h9 := HST.out
              rwa [List.take_of_length_le (by simp)] at h9
            subst hr0
            clear hyl
            go_wp2_with fail
            go_end0
            have M := HM.out
            rw [Nat.sub_self, List.replicate_zero, List.append_nil] at M
            exact coded_listread entK_okay.fine H2.out HLD.out.s3 hsrc hgc (Nat.le_refl _) (by rw [HSR.out]; omega) HC3.out HLD.out.ot HLD.out.fz HYL.out (by omega) M

set_option maxHeartbeats 1000000 in
theorem entries_codes : Codes 164 [] ((listK entK 8)) 4808 := by
  intro md P N gc sb f l g o cs a w hcd hz his hcs hN hw hr hg hne hl
  have T := Lib.hid ((show Codes _ [.int .u64 8, .func (.func 187) #[] #[]] _ _ from listent_codes 600 entK_okay.len entK_okay.good ent_codes 8 (by decide)) md P N gc sb f l g o cs a w hcd hz his hcs hN hw hr hg hne hl)
  clear hcd hz his hcs hN hw hr hg hne hl
  show Calls _ _ #[.pointer (some ⟨gc, 0, none⟩), .pointer (some ⟨g, o, none⟩)] w _
  generalize step ((listK entK 8)).cod md l a = r at *
  go_enter Tryz.func164, Tryz.ntmps164
  go_wp2_with fail
  refine T.out.mono ?_
  rintro e w' h
  rcases h.ended with ⟨ch, rfl, h⟩ | ⟨rfl, h⟩
  · exact ⟨rfl, h⟩
  · have HE := Lib.hid h
    clear h
    go_wp2_with fail
    go_end0
    exact HE.out

end Go.Proofs.YtngcbpgafjnfaaaGreatDoor
