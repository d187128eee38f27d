/- The coder's leaves: octets, words, longs, buckets, replicas, votes; texts; flags (gen_text.py). The coder's flags; lists: what a list of parts is (gen_list.py). -/
import Derived.Test.YtngcbpgafjnfaaaGreatDoorLoB7
import Derived.Laws.BytesArg
set_option linter.unusedSimpArgs false
set_option linter.unusedVariables false

namespace Go.Proofs.YtngcbpgafjnfaaaGreatDoor
open Go.RowKit Go.Sort
set_option linter.unusedVariables false

/-- what a call came to is what its only call came to -/
def Ended {α : Type} (md : Bool) (P N : Nat → Prop) (gc : Nat) (sb : Src) (f : ByteArray) (g o : Nat) (k : Kd α) (w : World) (r : Option (List Nat × α)) (e : Ending) (w' : World) : Prop :=
  (∃ ch, e = .panicked ch ∧ Coded md P N gc sb f g o k w r e w') ∨ (e = .returned (.tuple #[]) ∧ Coded md P N gc sb f g o k w r e w')
theorem Coded.ended {α : Type} {md : Bool} {P N : Nat → Prop} {gc : Nat} {sb : Src} {f : ByteArray} {g o : Nat} {k : Kd α} {w w' : World} {r : Option (List Nat × α)} {e : Ending} (h : Coded md P N gc sb f g o k w r e w') : Ended md P N gc sb f g o k w r e w' := by
  cases r with
  | none =>
    obtain ⟨hs, a, h1, h2, rfl, h3⟩ := h
    exact .inl ⟨_, rfl, hs, a, h1, h2, rfl, h3⟩
  | some p =>
    obtain ⟨hs, rfl, h2⟩ := h
    exact .inr ⟨rfl, hs, rfl, h2⟩

set_option maxHeartbeats 1000000 in
theorem octet_codes : Codes 86 [] (intK 1 255) 8 := by
  intro md P N gc sb f l g o cs a w hcd hz his hcs hN hw hr hg hne hl
  have T : Calls Tryz.prog 149 #[.pointer (some ⟨gc, 0, none⟩), .pointer (some ⟨g, o, none⟩), .int .i64 1, .int .u64 255] w (Coded md P N gc sb f g o (intK 1 255) w (step (intK 1 255).cod md l a)) :=
    numint_codes 1 255 (by omega) (by omega) md P N gc sb f l g o cs a w hcd hz his hcs hN hw hr hg hne hl
  have T := Lib.hid T
  clear hcd hz his hcs hN hw hr hg hne hl
  show Calls _ _ #[.pointer (some ⟨gc, 0, none⟩), .pointer (some ⟨g, o, none⟩)] w _
  generalize step (intK 1 255).cod md l a = r at *
  go_enter Tryz.func86, Tryz.ntmps86
  go_wp2_with fail
  refine T.out.mono ?_
  rintro e w' h
  rcases h.ended with ⟨ch, rfl, h⟩ | ⟨rfl, h⟩
  · exact ⟨rfl, h⟩
  · have HE := Lib.hid h
    clear h
    go_wp2_with fail
    go_end0
    exact HE.out

set_option maxHeartbeats 1000000 in
theorem octet8_codes : Codes 156 [] (natK .u8 1 255) 8 := by
  intro md P N gc sb f l g o cs a w hcd hz his hcs hN hw hr hg hne hl
  have T : Calls Tryz.prog 185 #[.pointer (some ⟨gc, 0, none⟩), .pointer (some ⟨g, o, none⟩), .int .i64 1, .int .u64 255] w (Coded md P N gc sb f g o (natK .u8 1 255) w (step (natK .u8 1 255).cod md l a)) :=
    numu8_codes 1 255 (by omega) (by omega) md P N gc sb f l g o cs a w hcd hz his hcs hN hw hr hg hne hl
  have T := Lib.hid T
  clear hcd hz his hcs hN hw hr hg hne hl
  show Calls _ _ #[.pointer (some ⟨gc, 0, none⟩), .pointer (some ⟨g, o, none⟩)] w _
  generalize step (natK .u8 1 255).cod md l a = r at *
  go_enter Tryz.func156, Tryz.ntmps156
  go_wp2_with fail
  refine T.out.mono ?_
  rintro e w' h
  rcases h.ended with ⟨ch, rfl, h⟩ | ⟨rfl, h⟩
  · exact ⟨rfl, h⟩
  · have HE := Lib.hid h
    clear h
    go_wp2_with fail
    go_end0
    exact HE.out

set_option maxHeartbeats 1000000 in
theorem word_codes : Codes 88 [] (natK .u32 4 4294967295) 8 := by
  intro md P N gc sb f l g o cs a w hcd hz his hcs hN hw hr hg hne hl
  have T : Calls Tryz.prog 150 #[.pointer (some ⟨gc, 0, none⟩), .pointer (some ⟨g, o, none⟩), .int .i64 4, .int .u64 4294967295] w (Coded md P N gc sb f g o (natK .u32 4 4294967295) w (step (natK .u32 4 4294967295).cod md l a)) :=
    numu32_codes 4 4294967295 (by omega) (by omega) md P N gc sb f l g o cs a w hcd hz his hcs hN hw hr hg hne hl
  have T := Lib.hid T
  clear hcd hz his hcs hN hw hr hg hne hl
  show Calls _ _ #[.pointer (some ⟨gc, 0, none⟩), .pointer (some ⟨g, o, none⟩)] w _
  generalize step (natK .u32 4 4294967295).cod md l a = r at *
  go_enter Tryz.func88, Tryz.ntmps88
  go_wp2_with fail
  refine T.out.mono ?_
  rintro e w' h
  rcases h.ended with ⟨ch, rfl, h⟩ | ⟨rfl, h⟩
  · exact ⟨rfl, h⟩
  · have HE := Lib.hid h
    clear h
    go_wp2_with fail
    go_end0
    exact HE.out

set_option maxHeartbeats 1000000 in
theorem long_codes : Codes 109 [] (natK .u64 8 18446744073709551615) 8 := by
  intro md P N gc sb f l g o cs a w hcd hz his hcs hN hw hr hg hne hl
  have T : Calls Tryz.prog 162 #[.pointer (some ⟨gc, 0, none⟩), .pointer (some ⟨g, o, none⟩), .int .i64 8, .int .u64 18446744073709551615] w (Coded md P N gc sb f g o (natK .u64 8 18446744073709551615) w (step (natK .u64 8 18446744073709551615).cod md l a)) :=
    numu64_codes 8 18446744073709551615 (by omega) (by omega) md P N gc sb f l g o cs a w hcd hz his hcs hN hw hr hg hne hl
  have T := Lib.hid T
  clear hcd hz his hcs hN hw hr hg hne hl
  show Calls _ _ #[.pointer (some ⟨gc, 0, none⟩), .pointer (some ⟨g, o, none⟩)] w _
  generalize step (natK .u64 8 18446744073709551615).cod md l a = r at *
  go_enter Tryz.func109, Tryz.ntmps109
  go_wp2_with fail
  refine T.out.mono ?_
  rintro e w' h
  rcases h.ended with ⟨ch, rfl, h⟩ | ⟨rfl, h⟩
  · exact ⟨rfl, h⟩
  · have HE := Lib.hid h
    clear h
    go_wp2_with fail
    go_end0
    exact HE.out

set_option maxHeartbeats 1000000 in
theorem bucket_codes : Codes 113 [] (intK 1 63) 8 := by
  intro md P N gc sb f l g o cs a w hcd hz his hcs hN hw hr hg hne hl
  have T : Calls Tryz.prog 149 #[.pointer (some ⟨gc, 0, none⟩), .pointer (some ⟨g, o, none⟩), .int .i64 1, .int .u64 63] w (Coded md P N gc sb f g o (intK 1 63) w (step (intK 1 63).cod md l a)) :=
    numint_codes 1 63 (by omega) (by omega) md P N gc sb f l g o cs a w hcd hz his hcs hN hw hr hg hne hl
  have T := Lib.hid T
  clear hcd hz his hcs hN hw hr hg hne hl
  show Calls _ _ #[.pointer (some ⟨gc, 0, none⟩), .pointer (some ⟨g, o, none⟩)] w _
  generalize step (intK 1 63).cod md l a = r at *
  go_enter Tryz.func113, Tryz.ntmps113
  go_wp2_with fail
  refine T.out.mono ?_
  rintro e w' h
  rcases h.ended with ⟨ch, rfl, h⟩ | ⟨rfl, h⟩
  · exact ⟨rfl, h⟩
  · have HE := Lib.hid h
    clear h
    go_wp2_with fail
    go_end0
    exact HE.out

set_option maxHeartbeats 1000000 in
theorem replica_codes : Codes 115 [] (intK 1 3) 8 := by
  intro md P N gc sb f l g o cs a w hcd hz his hcs hN hw hr hg hne hl
  have T : Calls Tryz.prog 149 #[.pointer (some ⟨gc, 0, none⟩), .pointer (some ⟨g, o, none⟩), .int .i64 1, .int .u64 3] w (Coded md P N gc sb f g o (intK 1 3) w (step (intK 1 3).cod md l a)) :=
    numint_codes 1 3 (by omega) (by omega) md P N gc sb f l g o cs a w hcd hz his hcs hN hw hr hg hne hl
  have T := Lib.hid T
  clear hcd hz his hcs hN hw hr hg hne hl
  show Calls _ _ #[.pointer (some ⟨gc, 0, none⟩), .pointer (some ⟨g, o, none⟩)] w _
  generalize step (intK 1 3).cod md l a = r at *
  go_enter Tryz.func115, Tryz.ntmps115
  go_wp2_with fail
  refine T.out.mono ?_
  rintro e w' h
  rcases h.ended with ⟨ch, rfl, h⟩ | ⟨rfl, h⟩
  · exact ⟨rfl, h⟩
  · have HE := Lib.hid h
    clear h
    go_wp2_with fail
    go_end0
    exact HE.out

set_option maxHeartbeats 1000000 in
theorem vote_codes : Codes 119 [] (intK 1 2) 8 := by
  intro md P N gc sb f l g o cs a w hcd hz his hcs hN hw hr hg hne hl
  have T : Calls Tryz.prog 163 #[.pointer (some ⟨gc, 0, none⟩), .pointer (some ⟨g, o, none⟩), .int .i64 1, .int .u64 2] w (Coded md P N gc sb f g o (intK 1 2) w (step (intK 1 2).cod md l a)) :=
    numvote_codes 1 2 (by omega) (by omega) md P N gc sb f l g o cs a w hcd hz his hcs hN hw hr hg hne hl
  have T := Lib.hid T
  clear hcd hz his hcs hN hw hr hg hne hl
  show Calls _ _ #[.pointer (some ⟨gc, 0, none⟩), .pointer (some ⟨g, o, none⟩)] w _
  generalize step (intK 1 2).cod md l a = r at *
  go_enter Tryz.func119, Tryz.ntmps119
  go_wp2_with fail
  refine T.out.mono ?_
  rintro e w' h
  rcases h.ended with ⟨ch, rfl, h⟩ | ⟨rfl, h⟩
  · exact ⟨rfl, h⟩
  · have HE := Lib.hid h
    clear h
    go_wp2_with fail
    go_end0
    exact HE.out

/-- a text of max bytes at most -/
def textK (max : Nat) : Kd ByteArray := ⟨text max, 1, ByteArray.empty, fun _ _ cs s => cs = [.string s] ∧ s.size ≤ maxLen⟩
theorem textK_fine (max : Nat) : (textK max).Fine := ⟨fun _ _ _ _ h => by rw [h.1]; rfl, fun _ _ _ _ _ _ h _ _ => h, fun _ _ _ _ _ h _ => h⟩
theorem text_w {max : Nat} {l : List Nat} {s : ByteArray} (h : s.size ≤ max) : step (text max) false l s = some (l ++ le 1 s.size ++ bs s, s) := by
  rw [step_w, text_ok, if_pos (by simpa using h), text_enc, List.append_assoc]
theorem text_w_no {max : Nat} {l : List Nat} {s : ByteArray} (h : max < s.size) : step (text max) false l s = none := by
  rw [step_w, text_ok, if_neg (by simp; omega)]
theorem repDec_bytes : ∀ (n : Nat) (l : List Nat), Bytes l → repDec (num' 1 255) n l = if n ≤ l.length then some (l.take n, l.drop n) else none
  | 0, l, _ => by simp [repDec]
  | n + 1, [], _ => by simp [repDec, num']
  | n + 1, b :: l, h => by
    have hb := h b (by simp)
    have e : (num' 1 255).dec (b :: l) = some (b, l) := by
      show (if (b :: l).length < 1 then none else if unle ((b :: l).take 1) ≤ 255 then some (unle ((b :: l).take 1), (b :: l).drop 1) else none) = _
      have h1 : unle ((b :: l).take 1) = b := by simp [unle]
      rw [if_neg (by simp), h1, if_pos (by omega)]; rfl
    simp only [repDec, e]
    rw [repDec_bytes n l fun c hc => h c (by simp [hc])]
    by_cases hn : n ≤ l.length
    · rw [if_pos hn, if_pos (by simp; omega)]; simp
    · rw [if_neg hn, if_neg (by simp; omega)]
theorem text_r {max : Nat} {l : List Nat} {s : ByteArray} (hl : Bytes l) (v : Nat) : step (text max) true l s = (step (num' 1 max) true l v).bind fun p => if p.2 ≤ p.1.length then some (p.1.drop p.2, ofBs (p.1.take p.2)) else none := by
  rw [step_r, step_r]
  simp only [text, list, Cod.map, Cod.dep, rep]
  cases h : (num' 1 max).dec l with
  | none => rfl
  | some p =>
    obtain ⟨n, r⟩ := p
    have hr : Bytes r := by
      have : (if l.length < 1 then none else if unle (l.take 1) ≤ max then some (unle (l.take 1), l.drop 1) else none) = some (n, r) := h
      split at this
      · cases this
      · split at this
        · cases this; exact Bytes.drop hl 1
        · cases this
    simp only [Option.map_some, Option.bind_some]
    rw [repDec_bytes n r hr]
    by_cases hn : n ≤ r.length
    · rw [if_pos hn, if_pos hn]; rfl
    · rw [if_neg hn, if_neg hn]; rfl
theorem exec_convert {P : Program} {o : Oper} {a : Act} {w : World} {v vx : Value} (s d : TypeId) (x : Operand) (ho : o.op = .convert s d x) (hx : a.eval x = vx) (h : (convert s d vx).run P w = .ok v w) : (execOp a.eval o).run P w = .ok (.value v) w := by
  unfold execOp
  simp only [ho, hx, Sem.run_bind, h, Result.andThen_ok, Sem.run_pure]
theorem strOf_ofBs (l : List Nat) : strOfNums (l.map fun c : Nat => (c : Int)) = ofBs l := by
  apply ByteArray.ext
  apply Array.toList_inj.1
  rw [strOfNums_data]
  simp [ofBs, List.map_map, Function.comp_def]
/-- the bytes as a text -/
theorem run_str {w : World} {ao : Option Addr} {l : List Nat} (h : Rd w ao l) (n cap : Nat) (hn : l.length = n) : (convert 54 9 (.slice ao n cap)).run Tryz.prog w = .ok (.string (ofBs l)) w := by
  cases ao with
  | none =>
    have : l = [] := by
      cases l with
      | nil => rfl
      | cons b l => obtain ⟨g, o, e, _⟩ := h.at_ 0 (by simp); cases e
    subst this
    exact run_convert_bytes_nil w 54 (Tryz.prog.elem 54) byte_elem (by kernel_rfl) n cap 9 (by kernel_rfl)
  | some a =>
    have hl : (loadCells a n).run Tryz.prog w = .ok ((l.map fun c : Nat => (c : Int)).map (Value.int .u8)).toArray w := by
      have := run_loadCells_list (P := Tryz.prog) w a ((l.map fun c : Nat => (c : Int)).map (Value.int .u8)) (fun j v hj => by
        have hjl : j < l.length := by simpa using (List.getElem?_eq_some_iff.1 hj).1
        obtain ⟨g, o, e, _, h3⟩ := h.at_ j hjl
        injection e with e
        subst e
        rw [Addr.add_lit, h3]
        simp only [List.getElem?_map, bt_get hjl, Option.map_some, Option.some.injEq] at hj
        rw [← hj])
      simpa [hn] using this
    rw [run_convert_bytes_string w 54 9 (Tryz.prog.elem 54) (some a) n cap byte_elem (by kernel_rfl) (by kernel_rfl), run_bytesToString w _ n cap _ hl, foldl_push_bytes]
    rw [← strOf_ofBs]
    simp [strOfNums, ByteArray.empty, ByteArray.emptyWithCapacity]
    rfl

/-- the number of a text, in a box of its own -/
theorem box_cd {md : Bool} {P : Nat → Prop} {gc g : Nat} {sb : Src} {f : ByteArray} {l : List Nat} {w : World} (hcd : CdIs w md P gc sb f l) (hg : g < w.heap.size) (hne : g ≠ gc) (hw : md = false → P g) (o : Obj) :
    CdIs (w.alloc o) md (fun b => P b ∨ b = g ∨ md = false ∧ b = w.heap.size) gc sb f l := by
  have h1 : CdIs w md (fun b => P b ∨ b = g) gc sb f l := by
    obtain ⟨ao, n, cap, ha, hof⟩ := hcd
    refine ⟨ao, n, cap, ha, fun hm => .inl (hof.1 hm), fun b hb => ?_⟩
    rcases hb with hb | rfl
    · exact hof.2 b hb
    · exact ⟨hg, hne, fun hm => (hof.2 b (hw hm)).2.2 hm⟩
  exact h1.alloc o (fun b hb => by
    rcases hb with hb | hb | ⟨_, hb⟩
    · exact .inl (.inl hb)
    · exact .inl (.inr hb)
    · exact .inr hb) (fun hm => .inl (by subst hm; exact hcd.src))

/-- what the number in the box came to -/
def BoxEnd (md : Bool) (P : Nat → Prop) (gc : Nat) (sb : Src) (g : Nat) (f : ByteArray) (w : World) (r : Option (List Nat × Nat)) (e : Ending) (w' : World) : Prop :=
  match r with
  | none => SafeK P g w w' ∧ Gave md f e w w'
  | some p => e = .returned (.tuple #[]) ∧ CdIs w' md (fun b => P b ∨ b = g ∨ b = w.heap.size) gc sb f p.1 ∧ Safe (fun b => P b ∨ b = g) w w' ∧ w'.cell? ⟨w.heap.size, 0, none⟩ = some (.int .i64 (p.2 : Int)) ∧ w'.frozen? ⟨w.heap.size, 0, none⟩ = false ∧ w.heap.size < w'.heap.size
theorem boxnum {md : Bool} {P : Nat → Prop} {gc g : Nat} {sb : Src} {f : ByteArray} {l : List Nat} {w : World} (hcd : CdIs w md P gc sb f l) (hg : g < w.heap.size) (hne : g ≠ gc) (hw : md = false → P g) (v : Nat) (hv : v ≤ 9223372036854775807) (hz : md = true → v = 0) (max : Nat) (hm : max ≤ 255) (hl : l.length + 8 ≤ 140737488355328) :
    Calls Tryz.prog 149 #[.pointer (some ⟨gc, 0, none⟩), .pointer (some ⟨w.heap.size, 0, none⟩), .int .i64 1, .int .u64 (max : Int)] (w.alloc (.cells #[.int .i64 (v : Int)] 3)) (BoxEnd md P gc sb g f w (step (num' 1 max) md l v)) := by
  have hgc := hcd.lt
  have hPl : ∀ b, P b → b < w.heap.size := fun b hb => (hcd.off hb).1
  have h := numint_codes 1 max (by omega) (by omega) md (fun b => P b ∨ b = g ∨ md = false ∧ b = w.heap.size) (fun _ => False) gc sb f l w.heap.size 0 [.int .i64 (v : Int)] (v : Int) (w.alloc (.cells #[.int .i64 (v : Int)] 3)) (box_cd hcd hg hne hw _) (fun h => by rw [hz h]; rfl) ⟨rfl, by unfold I64; omega⟩
    (fun j u hu => by
      obtain rfl : j = 0 := by
        have := (List.getElem?_eq_some_iff.1 hu).1
        simp at this; exact this
      obtain rfl : (Value.int .i64 (v : Int)) = u := by simpa using hu
      go_simp) (fun _ h => h.elim) (fun h => .inr (.inr ⟨h, rfl⟩)) (fun h => ⟨(fun hb => by
        rcases hb with hb | hb | ⟨hb, _⟩
        · exact absurd (hPl _ hb) (Nat.lt_irrefl _)
        · omega
        · rw [h] at hb; cases hb), fun j => frozen_of_row _ _ _ _ _ (heap_alloc_new w _)⟩) (by simp) (by omega) hl
  refine Calls.mono h ?_
  rintro e w' ⟨hs, h⟩
  have hsz := hs.size
  have hsz2 : w.heap.size < w'.heap.size := by simp at hsz; omega
  have hsp : Safe (fun b => P b ∨ b = g) w w' := ((Safe.refl _ w).alloc (fun b hb => by
    rcases hb with hb | rfl
    · exact hPl b hb
    · exact hg) _).trans (hs.mono fun b hb => by
    rcases hb with hb | hb
    · exact .inl hb
    · exact .inr (.inl hb))
  have hst0 : step (intK 1 max).cod md l (v : Int) = (step (num' 1 max) md l v).map fun p => (p.1, (p.2 : Int)) := step_whole _ _ _ _ _
  rw [hst0] at h
  unfold BoxEnd
  cases hst : step (num' 1 max) md l v with
  | none =>
    rw [hst] at h
    obtain ⟨a, h1, h2⟩ := h
    exact ⟨SafeK.of hsp, a, by simp at h1; omega, h2⟩
  | some p =>
    rw [hst] at h
    obtain ⟨he, hcd', ⟨cs, ⟨rfl, _⟩, hc⟩, _, hfz⟩ := h
    refine ⟨he, hcd'.reP (fun hm => ?_) (fun b hb => ?_), hsp, ?_, ?_, hsz2⟩
    · subst hm; exact .inl hcd.src
    · rcases hb with hb | hb | rfl
      · exact .inl (.inl (.inl hb))
      · exact .inl (.inl (.inr (.inl hb)))
      · cases md
        · exact .inl (.inl (.inr (.inr ⟨rfl, rfl⟩)))
        · exact .inr ⟨rfl, hsz2, by omega⟩
    · have := hc 0 _ rfl
      simpa using this
    · rw [hfz 0]; exact frozen_of_row _ _ _ _ _ (heap_alloc_new w _)

/-- what began earlier -/
theorem Coded.from {α : Type} {P N : Nat → Prop} {gc : Nat} {sb : Src} {f : ByteArray} {g o : Nat} {k : Kd α} (hk : k.Fine) {w w1 w' : World} {r : Option (List Nat × α)} {e : Ending} (h : Coded true P N gc sb f g o k w1 r e w') (hs : Safe (fun b => P b ∨ b = g) w w1) (hgc : gc < w.heap.size) :
    Coded true P N gc sb f g o k w r e w' := by
  obtain ⟨h1, h2⟩ := h
  have hsz := h1.size
  have hsz2 := hs.size
  refine ⟨(SafeK.of hs).trans h1, ?_⟩
  cases r with
  | none => exact h2.from hs.size
  | some p =>
    obtain ⟨he, hcd, ⟨cs, hi, hc⟩, ho, hf⟩ := h2
    have hgr : ∀ Q : Nat → Prop, ∀ b, Grow true Q w1 w' b → Grow true Q w w' b := fun Q b hb => by
      rcases hb with hb | ⟨_, h3, h4⟩
      · exact .inl hb
      · exact .inr ⟨rfl, by omega, h4⟩
    exact ⟨he, hcd.reP (fun _ => hgr P _ hcd.src) (fun b hb => by
      rcases hb with hb | ⟨_, h3, h4⟩
      · exact .inl (.inl hb)
      · exact .inr ⟨rfl, h4, by omega⟩), ⟨cs, hk.mono _ _ _ _ _ hi (hgr N), hc⟩, fun j hj => (ho j hj).trans (hs.cell (a := ⟨g, j, none⟩) (.inr rfl)), fun j => (hf j).trans (World.frozen?_of_block (w := w) (a := ⟨g, j, none⟩) (hs.block g (.inr rfl)))⟩
theorem ofBs_size (l : List Nat) : (ofBs l).size = l.length := by simp [ofBs, ByteArray.size]

set_option maxHeartbeats 8000000 in
theorem text_codes (max : Nat) (hm : max ≤ 255) : Codes 105 [.int .u64 (max : Int)] (textK max) 300 := by
  intro md P N gc sb f l g o cs s w hcd hz his hcs hN hw hr hg hne hl
  have hp := hcs 0 _ (by rw [his.1]; rfl)
  simp only [Nat.add_zero] at hp
  have hsz := his.2
  unfold maxLen at hsz
  have NB := Lib.hid (boxnum hcd hg hne hw s.size (by omega) (fun h => by rw [hz h]; rfl) max hm (by omega))
  show Calls _ _ #[.pointer (some ⟨gc, 0, none⟩), .pointer (some ⟨g, o, none⟩), .int .u64 (max : Int)] w (Coded md P N gc sb f g o (textK max) w (step (text max) md l s))
  have HP := Lib.hid (fun b (hb : P b) => (hcd.off hb).1)
  cases md
  · have HW := Lib.hid (hw rfl)
    have HE := Lib.hid (fun l' w' hcd' hs' => coded_wrote (sb := sb) (f := f) (gc := gc) (l' := l') (textK_fine max) (w' := w') hcd' hs' (hw rfl) hN his hcs)
    clear hz his hcs hN hw hr hcd
    by_cases hok : s.size ≤ max
    · rw [text_w hok]
      rw [num_w hok] at NB
      go_enter Tryz.func105, Tryz.ntmps105
      go_wp2_with fail
      refine NB.out.mono ?_
      rintro e w1 ⟨rfl, h1, h2, h3, h4, h5⟩
      obtain ⟨ao, n, cap, ha, hof⟩ := h1
      have hn := ha.len
      have c0 := ha.c0
      have c1 := ha.c1
      have f1 := ha.f1
      have hp1 := (h2.cell (a := ⟨g, o, none⟩) (.inl HW.out)).trans hp
      have HA := Lib.hid ha.drew
      have HF := Lib.hid hof.drew
      have HS := Lib.hid h2
      have hnl : n + s.size ≤ 140737488355328 := by
        have : (l ++ le 1 s.size).length = n := hn
        simp [le_length] at this
        omega
      clear ha hof h2 h3 h4 hn hp
      go_wp2_with fail
      go_region_law (refine step_apps rfl (.tmp 28) (.tmp 31) rfl rfl (HA.out.wr rfl).1 rfl (Nat.zero_le _) (by omega) ?_; intro ao3 cap3 w3 o3 k3 n3 y3 z3; have hc3 := (k3.cell (a := ⟨gc, 1, none⟩) HA.out.lt (HA.out.wr rfl).2).trans HA.out.c1; have hf3 := (k3.frozen (a := ⟨gc, 1, none⟩) HA.out.lt (HA.out.wr rfl).2).trans HA.out.f1)
      all_goals
        try go_wp2_with fail
        go_end0
        obtain ⟨q1, q2, q3⟩ := HA.out.lay HF.out k3 o3 n3 y3 z3 (by omega)
        refine HE.out _ _ (CdIs.reP ⟨_, _, _, q1, q2⟩ (fun hm => by cases hm) fun b hb => .inl (.inl hb)) ?_
        exact (HS.out.mono fun b hb => .inl hb).trans ((Safe.drew _ _).trans (q3.mono fun b hb => .inl hb))
    · rw [text_w_no (by omega)]
      rw [num_w_no (by omega)] at NB
      go_enter Tryz.func105, Tryz.ntmps105
      go_wp2_with fail
      refine NB.out.mono ?_
      rintro e w1 ⟨hs, a, h1, h2, rfl, h3⟩
      exact ⟨rfl, coded_gave ⟨a, h1, h2, rfl, h3⟩ hs⟩
  · have hf0 := (hr rfl).2 o
    have HB : Bytes l := by
      obtain ⟨ao, n, cap, ha, hof⟩ := hcd
      exact (ha.rd rfl).1.lt
    rw [text_r HB s.size]
    have hgc := hcd.lt
    have hsrc := hcd.src
    have hnP := (hr rfl).1
    clear hz his hcs hN hw hr hcd
    cases hst : step (num' 1 max) true l s.size with
    | none =>
      rw [hst] at NB
      simp only [Option.bind_none]
      go_enter Tryz.func105, Tryz.ntmps105
      go_wp2_with fail
      refine NB.out.mono ?_
      rintro e w1 ⟨hs, a, h1, h2, rfl, h3⟩
      exact ⟨rfl, coded_gave ⟨a, h1, h2, rfl, h3⟩ hs⟩
    | some p =>
      obtain ⟨l', k⟩ := p
      rw [hst] at NB
      simp only [Option.bind_some]
      clear hst
      by_cases hkl : k ≤ l'.length
      · rw [if_pos hkl]
        go_enter Tryz.func105, Tryz.ntmps105
        go_wp2_with fail
        refine NB.out.mono ?_
        rintro e w1 ⟨rfl, h1, h2, h3, h4, h5⟩
        obtain ⟨ao, n, cap, ha, hof⟩ := h1
        have ha : CdAt w1 true gc sb f ao n cap l' := ha
        have hn : l'.length = n := ha.len
        have hk : k ≤ n := by omega
        clear hkl
        have c0 := ha.c0
        have hp1 := (h2.cell (a := ⟨g, o, none⟩) (.inr rfl)).trans hp
        have hf1 : w1.frozen? ⟨g, o, none⟩ = false := (World.frozen?_of_block (w := w) (a := ⟨g, o, none⟩) (h2.block g (.inr rfl))).trans hf0
        have HOF := Lib.hid (show OffC true w1 P gc sb ao from ⟨fun _ => hsrc, fun b hb => ⟨(hof.2 b (.inl hb)).1, (hof.2 b (.inl hb)).2.1, fun hm => by cases hm⟩⟩)
        have hg1 : g < w1.heap.size := by omega
        have TK := Lib.hid (take_yes gc sb f ao n cap l' k hk w1 ha)
        have hR := ((ha.rd rfl).1.take k).keep (Keep.setCell w1 ⟨gc, 1, none⟩ (.slice (sh ao cap k) (n - k) (cap - k))) (fun b hb hm => (ha.rd rfl).2.1 (((ha.rd rfl).2.2 b hb) ▸ by simpa using hm))
        have HCV := Lib.hid (run_str hR k cap (by simp; omega))
        have HE := Lib.hid (Coded.from (N := N) (k := textK max) (textK_fine max) (coded_read (N := N) (k := textK max) (o := o) (a := ofBs (l'.take k)) (v := .string (ofBs (l'.take k))) ha HOF.out hnP hne hg1 k hk (by rw [hp1]; rfl) rfl (fun w N => ⟨rfl, by
          have e : (ofBs (l'.take k)).size = k := by rw [ofBs_size]; simp; omega
          have := ha.le; have := ha.max
          rw [e]; omega⟩)) h2 hgc)
        have hp2 : (w1.setCell ⟨gc, 1, none⟩ (.slice (sh ao cap k) (n - k) (cap - k))).cell? ⟨g, o, none⟩ = some (.string s) := by
          rw [World.cell?_setCell_other _ _ _ _ (by intro e; apply hne; cases e; rfl)]; exact hp1
        have hf2 : (w1.setCell ⟨gc, 1, none⟩ (.slice (sh ao cap k) (n - k) (cap - k))).frozen? ⟨g, o, none⟩ = false := by rw [World.frozen?_setCell]; exact hf1
        clear ha hof h2 h4 hn hp hp1 hf0 hf1 hR
        generalize w1.setCell ⟨gc, 1, none⟩ _ = w2 at *
        go_wp2_with fail
        refine TK.out.mono ?_
        rintro e w' ⟨rfl, rfl⟩
        go_wp2_with (refine wpList_value rfl _ (exec_convert (vx := .slice ao k cap) 54 9 (.tmp 21) rfl rfl HCV.out) ?_)
        go_end0
        exact HE.out
      · rw [if_neg hkl]
        go_enter Tryz.func105, Tryz.ntmps105
        go_wp2_with fail
        refine NB.out.mono ?_
        rintro e w1 ⟨rfl, h1, h2, h3, h4, h5⟩
        obtain ⟨ao, n, cap, ha, hof⟩ := h1
        have ha : CdAt w1 true gc sb f ao n cap l' := ha
        have hn : l'.length = n := ha.len
        have c0 := ha.c0
        have TK := Lib.hid (take_no gc sb f ao n cap l' k (by omega) w1 ha)
        have HS := Lib.hid h2
        have HL := Lib.hid (fun b (hb : P b) => (hof.2 b (.inl hb)).1)
        clear ha hof h2 h4 hn hp hf0
        go_wp2_with fail
        refine TK.out.mono ?_
        intro e w' h
        cases e <;> first | (exact ⟨rfl, coded_gave (h.gave.from HS.out.size) ((SafeK.of HS.out).trans (h.safeK HL.out (Nat.lt_of_lt_of_le hg HS.out.size)))⟩) | (cases h.1)

end Go.Proofs.YtngcbpgafjnfaaaGreatDoor


namespace Go.Proofs.YtngcbpgafjnfaaaGreatDoor
open Go.RowKit Go.Sort
set_option linter.unusedVariables false

def flagK : Kd Bool := ⟨flag, 1, false, fun _ _ cs b => cs = [.bool b]⟩
theorem flagK_fine : flagK.Fine := ⟨fun _ _ _ _ h => by rw [h]; rfl, fun _ _ _ _ _ _ h _ _ => h, fun _ _ _ _ _ h _ => h⟩
theorem step_flag (md : Bool) (l : List Nat) (b : Bool) : step flag md l b = (step (num' 1 1) md l (if b then 1 else 0)).map fun x => (x.1, x.2 == 1) :=
  step_map (num' 1 1) (fun v => v == 1) (fun b => if b then 1 else 0) md l b (fun b => by cases b <;> rfl)
/-- the end of what was read and is stored now -/
theorem coded_put {α : Type} {P N Q : Nat → Prop} {gc : Nat} {sb : Src} {f : ByteArray} {g o : Nat} {l' : List Nat} {k : Kd α} {a : α} {v : Value} {w : World} (hcd : CdIs w true Q gc sb f l') (hQ : ∀ b, P b → Q b) (hsb : P sb.b)
    (hP : ¬ P g) (hne : g ≠ gc) (hg : g < w.heap.size) (hc : (w.cell? ⟨g, o, none⟩).isSome = true) (hsz : k.sz = 1) (his : ∀ w N, k.is w N [v] a) :
    Coded true P N gc sb f g o k w (some (l', a)) (.returned (.tuple #[])) (w.setCell ⟨g, o, none⟩ v) := by
  have hcd1 : CdIs w true P gc sb f l' := hcd.reP (fun _ => hsb) fun b hb => .inl (hQ b hb)
  have hcd2 := hcd1.put (g := g) (o := o) hP hne v
  refine ⟨⟨Safe.put (fun b hb => ⟨(hcd1.off hb).1, fun e => hP (by rw [← e]; exact hb)⟩) _, fun j hj => ?_, fun j => World.frozen?_setCell _ _ _ _⟩, rfl, hcd2.reP (fun _ => .inl hsb) (fun b hb => ?_), ⟨[v], his _ _, fun j u hu => ?_⟩, fun j hj => ?_, fun j => ?_⟩
  · obtain ⟨x, hx⟩ := Option.isSome_iff_exists.1 hj
    by_cases e : j = o
    · subst e; rw [World.cell?_setCell_same w ⟨g, j, none⟩ _ hx]; rfl
    · rw [World.cell?_setCell_other _ _ _ _ (by intro e2; cases e2; exact e rfl)]; exact hj
  · rcases hb with hb | ⟨_, h1, h2⟩
    · exact .inl hb
    · exact absurd h2 (by have : (w.setCell ⟨g, o, none⟩ v).heap.size = w.heap.size := by simp [World.setCell]
                          omega)
  · obtain rfl : j = 0 := by
      have := (List.getElem?_eq_some_iff.1 hu).1
      simp at this; exact this
    obtain rfl : v = u := by simpa using hu
    obtain ⟨x, hx⟩ := Option.isSome_iff_exists.1 hc
    exact World.cell?_setCell_same w ⟨g, o, none⟩ _ hx
  · rw [hsz] at hj
    rw [World.cell?_setCell_other _ _ _ _ (by intro e; cases e; omega)]
  · rw [World.frozen?_setCell]

set_option maxHeartbeats 4000000 in
theorem flag_codes : Codes 157 [] flagK 8 := by
  intro md P N gc sb f l g o cs b w hcd hz his hcs hN hw hr hg hne hl
  have hp : w.cell? ⟨g, o, none⟩ = some (.bool b) := hcs 0 _ (by rw [show cs = [Value.bool b] from his]; rfl)
  have NB := Lib.hid (boxnum hcd hg hne hw (if b then 1 else 0) (by cases b <;> decide) (fun h => by rw [hz h]; rfl) 1 (by omega) hl)
  show Calls _ _ #[.pointer (some ⟨gc, 0, none⟩), .pointer (some ⟨g, o, none⟩)] w (Coded md P N gc sb f g o flagK w (step flag md l b))
  rw [step_flag]
  cases md
  · have HE := Lib.hid (fun l' w' hcd' hs' => coded_wrote (sb := sb) (f := f) (gc := gc) (l' := l') flagK_fine (w' := w') hcd' hs' (hw rfl) hN his hcs)
    rw [num_w (by cases b <;> decide)] at NB ⊢
    simp only [Option.map_some]
    have e : ((if b then 1 else 0 : Nat) == 1) = b := by cases b <;> rfl
    rw [e]
    clear hz his hcs hN hw hr hcd e
    cases b
    all_goals
      go_enter Tryz.func157, Tryz.ntmps157
      go_wp2_with fail
      refine NB.out.mono ?_
      rintro e w1 ⟨rfl, h1, h2, h3, h4, h5⟩
      have H1 := Lib.hid h1
      have H2 := Lib.hid h2
      obtain ⟨ao, n, cap, ha, hof⟩ := h1
      have c0 := ha.c0
      clear ha hof h2 h4 hp
      go_wp2_with fail
      go_end0
      exact HE.out _ _ (H1.out.reP (fun hm => by cases hm) fun b hb => .inl (.inl hb)) (H2.out.mono fun b hb => .inl hb)
  · have hf0 := (hr rfl).2 o
    have hgc := hcd.lt
    have hsrc := hcd.src
    have hnP := (hr rfl).1
    obtain rfl : b = false := hz rfl
    clear hz his hcs hN hw hr hcd
    cases hst : step (num' 1 1) true l (if false = true then 1 else 0) with
    | none =>
      rw [hst] at NB
      simp only [Option.map_none]
      clear hst
      go_enter Tryz.func157, Tryz.ntmps157
      go_wp2_with fail
      refine NB.out.mono ?_
      rintro e w1 ⟨hs, a, h1, h2, rfl, h3⟩
      exact ⟨rfl, coded_gave ⟨a, h1, h2, rfl, h3⟩ hs⟩
    | some p =>
      obtain ⟨l', k⟩ := p
      rw [hst] at NB
      simp only [Option.map_some]
      clear hst
      go_enter Tryz.func157, Tryz.ntmps157
      go_wp2_with fail
      refine NB.out.mono ?_
      rintro e w1 ⟨rfl, h1, h2, h3, h4, h5⟩
      have h1 : CdIs w1 true (fun b => P b ∨ b = g ∨ b = w.heap.size) gc sb f l' := h1
      have h3 : w1.cell? ⟨w.heap.size, 0, none⟩ = some (.int .i64 (k : Int)) := h3
      have H1 := Lib.hid h1
      have hp1 := (h2.cell (a := ⟨g, o, none⟩) (.inr rfl)).trans hp
      have hf1 : w1.frozen? ⟨g, o, none⟩ = false := (World.frozen?_of_block (w := w) (a := ⟨g, o, none⟩) (h2.block g (.inr rfl))).trans hf0
      have HE := Lib.hid (Coded.from (N := N) flagK_fine (coded_put (N := N) (k := flagK) (o := o) (a := k == 1) (v := .bool (k == 1)) h1 (fun b hb => .inl hb) hsrc hnP hne (by omega) (by rw [hp1]; rfl) rfl (fun w N => rfl)) h2 hgc)
      obtain ⟨ao, n, cap, ha, hof⟩ := h1
      have c0 := ha.c0
      have hkk : ((k : Int) == 1) = (k == 1) := by
        rw [Bool.eq_iff_iff]; simp; omega
      clear ha hof h2 h4 hp hf0
      generalize (k == 1) = q at *
      go_wp2_with fail
      go_end0
      exact HE.out

/-- a list of max parts at most -/
def listK {α : Type} (k : Kd α) (max : Nat) : Kd (List α) := ⟨list max k.cod, 1, [], fun w N cs xs => ∃ ao n cap, cs = [.slice ao n cap] ∧ SlIs k.sz k.is w N ao n cap xs⟩
theorem listK_fine {α : Type} {k : Kd α} (h : k.Fine) (max : Nat) : (listK k max).Fine := by
  refine ⟨fun w N cs a ha => ?_, fun w w' N P cs a ha hs hN => ?_, fun w N M cs a ha hm => ?_⟩
  · obtain ⟨ao, n, cap, rfl, _⟩ := ha; rfl
  · obtain ⟨ao, n, cap, e, h1, h2, h3, h4⟩ := ha
    refine ⟨ao, n, cap, e, h1, h2, h3, fun i x hi => ?_⟩
    obtain ⟨g, o, cs2, q1, q2, q3, q4⟩ := h4 i x hi
    exact ⟨g, o, cs2, q1, q2, h.safe _ _ _ _ _ _ q3 hs hN, fun j u hu => (hs.cell (a := ⟨g, o + i * k.sz + j, none⟩) (hN g q2)).trans (q4 j u hu)⟩
  · obtain ⟨ao, n, cap, e, h1, h2, h3, h4⟩ := ha
    refine ⟨ao, n, cap, e, h1, h2, h3, fun i x hi => ?_⟩
    obtain ⟨g, o, cs2, q1, q2, q3, q4⟩ := h4 i x hi
    exact ⟨g, o, cs2, q1, hm g q2, h.mono _ _ _ _ _ q3 hm, q4⟩
/-- where a slice's parts stand -/
theorem sl_at {α : Type} {k : Kd α} {w : World} {N : Nat → Prop} {ao : Option Addr} {n cap : Nat} {xs : List α} (h : SlIs k.sz k.is w N ao n cap xs) :
    ∃ g2 o2, (0 < n → ao = some ⟨g2, o2, none⟩ ∧ N g2) ∧ ∀ i a, xs[i]? = some a → ∃ cs, k.is w N cs a ∧ Cells w g2 (o2 + i * k.sz) cs := by
  by_cases hn : 0 < n
  · obtain ⟨a, ha⟩ := h.lt (k := 0) hn
    obtain ⟨g, o, cs, q1, q2, q3, q4⟩ := h.2.2.2 0 a ha
    refine ⟨g, o, fun _ => ⟨q1, q2⟩, fun i x hi => ?_⟩
    obtain ⟨g', o', cs', r1, r2, r3, r4⟩ := h.2.2.2 i x hi
    rw [q1] at r1
    cases r1
    exact ⟨cs', r3, r4⟩
  · refine ⟨0, 0, fun h0 => absurd h0 hn, fun i x hi => ?_⟩
    have := (List.getElem?_eq_some_iff.1 hi).1
    have := h.1
    omega
theorem mod_at (i j s : Nat) (h : j < s) : (i * s + j) % s = j := by
  rw [Nat.add_comm, Nat.add_mul_mod_self_right, Nat.mod_eq_of_lt h]
theorem made_at (w : World) (e : TypeId) (z : Array Value) (zc : List Value) (hz : z.toList = zc) (n i : Nat) (hi : i < n) : Cells (w.alloc (.cells (madeCells z (n * zc.length)) e)) w.heap.size (0 + i * zc.length) zc := by
  intro j u hu
  have hj : j < zc.length := (List.getElem?_eq_some_iff.1 hu).1
  have hzs : z.size = zc.length := by rw [← hz]; simp
  have hlt : i * zc.length + j < n * zc.length := by
    have : (i + 1) * zc.length ≤ n * zc.length := Nat.mul_le_mul_right _ hi
    rw [Nat.succ_mul] at this; omega
  rw [cell_of_row _ _ _ _ _ (0, 0) (heap_alloc_new w _), Nat.zero_add]
  unfold madeCells
  rw [Array.getElem?_map, Array.getElem?_range, if_pos hlt]
  simp only [Option.map_some]
  rw [hzs, mod_at i j _ hj, getElem!_pos z j (by omega)]
  rw [← hz, Array.getElem?_toList, Array.getElem?_eq_getElem (by omega)] at hu
  exact hu
theorem wpList_runs {P : Program} {ops : Array Oper} {rest : List Oper} {o : Oper} {a : Act} {w : World} {Q : Exit → Act → World → Prop} (hg : o.guard = none) (v : Value) (w' : World)
    (hrun : (execOp a.eval o).run P w = .ok (.value v) w') (h : wpList P ops Q rest (a.put o.dst v) w') : wpList P ops Q (o :: rest) a w :=
  wpList_plain hg fun K hK => by
    unfold Oper.wp
    simp only [hrun, Oper.upon]
    exact hK _ _ h
theorem exec_make {P : Program} {o : Oper} {a : Act} {w w' : World} {v vl vc : Value} (t : TypeId) (x y : Operand) (ho : o.op = .makeSlice t x y) (hx : a.eval x = vl) (hy : a.eval y = vc) (h : (Instr.makeSlice t vl vc).run P w = .ok v w') : (execOp a.eval o).run P w = .ok (.value v) w' := by
  unfold execOp
  simp only [ho, hx, hy, Sem.run_bind, h, Result.andThen_ok, Sem.run_pure]
theorem run_mk (w : World) (t e : TypeId) (z : Value) (size bytes : Nat) (ht : Tryz.prog.underlying t = some (.slice e)) (hi : (Tryz.prog.info? e).map (fun i => (i.zero, i.size, i.bytes)) = some (some z, size, bytes)) (n : Nat) (hn : n ≤ 255) (hb : bytes ≤ 1000000) :
    (Instr.makeSlice t (.int .i64 (n : Int)) (.int .i64 (n : Int))).run Tryz.prog w = .ok (.slice (some ⟨w.heap.size, 0, none⟩) n n) (w.alloc (.cells (madeCells z.cells (n * size)) e)) := by
  obtain ⟨i, h1, h2, h3, h4⟩ := info_parts hi
  have hbn : bytes * n ≤ 1000000 * 255 := Nat.mul_le_mul hb hn
  have := run_make (P := Tryz.prog) w t e i z ht h1 h2 .i64 .i64 n n (by omega) (Int.le_refl _) (by rw [h4]; omega) (by omega)
  simpa [h3] using this

/-- the parts that were written, all of them -/
theorem midl_wrote {α : Type} {P N : Nat → Prop} {gc : Nat} {sb : Src} {f : ByteArray} {g2 o2 i : Nat} {k : Kd α} {xs : List α} {a : α} {w0 w' : World} {lk : List Nat} {p : List Nat × α} (hi : xs[i]? = some a) (hst : step k.cod false lk a = some p)
    (h : MidL false P N gc sb f p.1 g2 o2 k (xs.set i p.2) w0 w') : MidL false P N gc sb f p.1 g2 o2 k xs w0 w' := by
  rw [step_w] at hst
  split at hst
  · injection hst with hst
    subst hst
    have : xs.set i a = xs := by
      apply List.ext_getElem?
      intro j
      by_cases e : j = i
      · subst e; rw [List.getElem?_set_self (List.getElem?_eq_some_iff.1 hi).1, hi]
      · rw [List.getElem?_set_ne (Ne.symm e)]
    rwa [this] at h
  · cases hst
theorem Safe.from {P Q : Nat → Prop} {w0 w1 w : World} (h : Safe Q w0 w1) (k : Safe P w1 w) (hp : ∀ b, P b → Q b) : Safe P w0 w := (h.mono hp).trans k

theorem num_r_le {size max : Nat} {l l' : List Nat} {v n : Nat} (h : step (num' size max) true l v = some (l', n)) : n ≤ max ∧ l'.length ≤ l.length := by
  rw [step_r] at h
  have h2 : Option.map (fun x : Nat × List Nat => (x.2, x.1)) (if l.length < size then none else if unle (l.take size) ≤ max then some (unle (l.take size), l.drop size) else none) = some (l', n) := h
  split at h2
  · cases h2
  · split at h2
    · rename_i h3
      simp only [Option.map_some, Option.some.injEq, Prod.mk.injEq] at h2
      obtain ⟨rfl, rfl⟩ := h2
      exact ⟨h3, by simp⟩
    · cases h2
theorem CdIs.bytes {w : World} {P : Nat → Prop} {gc : Nat} {sb : Src} {f : ByteArray} {l : List Nat} (h : CdIs w true P gc sb f l) : Bytes l := by
  obtain ⟨ao, n, cap, ha, hof⟩ := h
  exact (ha.rd rfl).1.lt
theorem step_short {α : Type} {c : Cod α} (hc : Good c) {l : List Nat} (hl : Bytes l) {a : α} {p : List Nat × α} (h : step c true l a = some p) : p.1.length ≤ l.length := by
  rw [step_r] at h
  cases e : c.dec l with
  | none => rw [e] at h; cases h
  | some x =>
    obtain ⟨x, r⟩ := x
    rw [e] at h
    simp only [Option.map_some, Option.some.injEq] at h
    subst h
    have := (hc.of l x r hl e).2
    have h2 := congrArg List.length this
    simp at h2
    show r.length ≤ _
    omega
theorem set_mid {α : Type} (y : List α) (z b : α) (k n : Nat) (hy : y.length = k) (hk : k < n) : (y ++ List.replicate (n - k) z).set k b = (y ++ [b]) ++ List.replicate (n - (k + 1)) z := by
  obtain ⟨q, rfl⟩ : ∃ q, n = k + 1 + q := ⟨n - (k + 1), by omega⟩
  rw [show k + 1 + q - k = q + 1 by omega, show k + 1 + q - (k + 1) = q by omega, List.replicate_succ, List.set_append_right _ _ (by omega), hy, Nat.sub_self]
  simp
/-- nothing more was to be done -/
theorem coded_keep {α : Type} {P N Q : Nat → Prop} {gc : Nat} {sb : Src} {f : ByteArray} {g o : Nat} {l' : List Nat} {k : Kd α} (hk : k.Fine) {a : α} {cs : List Value} {w : World} (hcd : CdIs w true Q gc sb f l') (hQ : ∀ b, P b → Q b) (hsb : P sb.b) (his : k.is w N cs a) (hcs : Cells w g o cs) :
    Coded true P N gc sb f g o k w (some (l', a)) (.returned (.tuple #[])) w :=
  ⟨SafeK.refl _ _ _, rfl, hcd.reP (fun _ => .inl hsb) (fun b hb => .inl (hQ b (grow_self _ _ _ b hb))), ⟨cs, hk.mono _ _ _ _ _ his (fun b hb => .inl hb), hcs⟩, fun _ _ => rfl, fun _ => rfl⟩
/-- a list was read -/
theorem coded_listread {α : Type} {P N : Nat → Prop} {gc : Nat} {sb : Src} {f : ByteArray} {g o g2 n max : Nat} {lk : List Nat} {k : Kd α} (hk : k.Fine) {ys : List α} {w w1 w3 wr : World} (hs1 : Safe (fun b => P b ∨ b = g) w w1) (hs3 : Safe P w1 w3) (hsb : P sb.b)
    (hgc : gc < w.heap.size) (hg2 : w1.heap.size ≤ g2) (hg3 : g2 < w3.heap.size) (hc : w3.cell? ⟨g, o, none⟩ = some (.slice (some ⟨g2, 0, none⟩) n n)) (ho : ∀ j, j ≠ o → w3.cell? ⟨g, j, none⟩ = w1.cell? ⟨g, j, none⟩) (hf : ∀ j, w3.frozen? ⟨g, j, none⟩ = w1.frozen? ⟨g, j, none⟩) (hys : ys.length = n) (hn : n ≤ 255)
    (M : MidL true (fun b => P b ∨ b = g ∨ b = w.heap.size) (fun _ => False) gc sb f lk g2 0 k ys w3 wr) : Coded true P N gc sb f g o (listK k max) w (some (lk, ys)) (.returned (.tuple #[])) wr := by
  have h1 := hs1.size
  have h3 := hs3.size
  have h4 := M.safe.size
  have hgr : ∀ b, Grow true (fun _ => False) w3 wr b → Grow true N w wr b := fun b hb => by
    rcases hb with hb | ⟨_, q1, q2⟩
    · exact hb.elim
    · exact .inr ⟨rfl, by omega, q2⟩
  have hMs : Safe (fun b => P b ∨ b = g) w3 wr := M.safe.toSafe.mono fun b hb => by
    rcases hb with hb | hb
    · exact .inl hb
    · exact .inr (.inl hb)
  refine ⟨((SafeK.of hs1).trans ⟨hs3, fun j hj => ?_, hf⟩).trans (SafeK.of hMs), rfl, M.cd.reP (fun _ => .inl hsb) (fun b hb => ?_), ⟨[.slice (some ⟨g2, 0, none⟩) n n], ⟨_, n, n, rfl, hys, Nat.le_refl _, by unfold maxLen; omega, fun i a hi => ?_⟩, fun j u hu => ?_⟩, fun j hj => ?_, fun j => ?_⟩
  · by_cases e : j = o
    · subst e; rw [hc]; rfl
    · rw [ho j e]; exact hj
  · rcases hb with hb | ⟨_, q1, q2⟩
    · exact .inl (.inl (.inl hb))
    · exact .inr ⟨rfl, q2, by omega⟩
  · obtain ⟨cs, r1, r2⟩ := M.at_ i a hi
    exact ⟨g2, 0, cs, rfl, .inr ⟨rfl, by omega, by omega⟩, hk.mono _ _ _ _ _ r1 hgr, r2⟩
  · obtain rfl : j = 0 := by
      have := (List.getElem?_eq_some_iff.1 hu).1
      simp at this; exact this
    obtain rfl : Value.slice (some ⟨g2, 0, none⟩) n n = u := by simpa using hu
    exact (M.safe.toSafe.cell (a := ⟨g, o, none⟩) (.inr (.inl rfl))).trans hc
  · have hj2 : j ≠ o := by
      have : (listK k max).sz = 1 := rfl
      omega
    exact (M.safe.toSafe.cell (a := ⟨g, j, none⟩) (.inr (.inl rfl))).trans ((ho j hj2).trans (hs1.cell (a := ⟨g, j, none⟩) (.inr rfl)))
  · exact (World.frozen?_of_block (w := w3) (a := ⟨g, j, none⟩) (M.safe.toSafe.block g (.inr (.inl rfl)))).trans ((hf j).trans (World.frozen?_of_block (w := w) (a := ⟨g, j, none⟩) (hs1.block g (.inr rfl))))
/-- a list has been made, and where it is kept -/
structure Laid {α : Type} (P : Nat → Prop) (gc : Nat) (sb : Src) (f : ByteArray) (l' : List Nat) (g o n : Nat) (k : Kd α) (w w1 w2 w3 : World) : Prop where
  mid : MidL true (fun b => P b ∨ b = g ∨ b = w.heap.size) (fun _ => False) gc sb f l' w1.heap.size 0 k (List.replicate n k.zero) w3 w3
  s3 : Safe P w1 w3
  c2 : (w2.cell? ⟨g, o, none⟩).isSome = true
  f2 : w2.frozen? ⟨g, o, none⟩ = false
  c3 : w3.cell? ⟨g, o, none⟩ = some (.slice (some ⟨w1.heap.size, 0, none⟩) n n)
  b3 : w3.cell? ⟨w.heap.size, 0, none⟩ = w1.cell? ⟨w.heap.size, 0, none⟩
  ot : ∀ j, j ≠ o → w3.cell? ⟨g, j, none⟩ = w1.cell? ⟨g, j, none⟩
  fz : ∀ j, w3.frozen? ⟨g, j, none⟩ = w1.frozen? ⟨g, j, none⟩
  f3 : ∀ j, w3.frozen? ⟨w1.heap.size, j, none⟩ = false
  sz : w3.heap.size = w1.heap.size + 1
theorem laid_of {α : Type} {P : Nat → Prop} {gc : Nat} {sb : Src} {f : ByteArray} {l' : List Nat} {g o n : Nat} {k : Kd α} {w w1 : World} (hcd : CdIs w1 true (fun b => P b ∨ b = g ∨ b = w.heap.size) gc sb f l') (hsb : P sb.b) (hnP : ¬ P g) (hne : g ≠ gc) (hg : g < w.heap.size) (hgc : gc < w.heap.size) (hw1 : w.heap.size < w1.heap.size)
    (z : Value) (e : TypeId) (zc : List Value) (hz : z.cells.toList = zc) (hzl : zc.length = k.sz) (his : ∀ w N, k.is w N zc k.zero) (hc : (w1.cell? ⟨g, o, none⟩).isSome = true) (hf : w1.frozen? ⟨g, o, none⟩ = false) :
    Laid P gc sb f l' g o n k w w1 (w1.alloc (.cells (madeCells z.cells (n * k.sz)) e)) ((w1.alloc (.cells (madeCells z.cells (n * k.sz)) e)).setCell ⟨g, o, none⟩ (.slice (some ⟨w1.heap.size, 0, none⟩) n n)) := by
  have hA : ∀ i, i < n → Cells (w1.alloc (.cells (madeCells z.cells (n * k.sz)) e)) w1.heap.size (0 + i * k.sz) zc := fun i hi => by
    have := made_at w1 e z.cells zc hz n i hi
    rwa [hzl] at this
  have hrow : (w1.alloc (.cells (madeCells z.cells (n * k.sz)) e)).heap[w1.heap.size]? = some (.cells (madeCells z.cells (n * k.sz)) e (0, 0)) := heap_alloc_new w1 _
  have hbl : Below w1.heap.size w1 (w1.alloc (.cells (madeCells z.cells (n * k.sz)) e)) := below_alloc (Below.refl _ _) _
  have hsz : (w1.alloc (.cells (madeCells z.cells (n * k.sz)) e)).heap.size = w1.heap.size + 1 := by simp
  generalize w1.alloc (.cells (madeCells z.cells (n * k.sz)) e) = w2 at *
  have hcell : ∀ j, w2.cell? ⟨g, j, none⟩ = w1.cell? ⟨g, j, none⟩ := fun j => hbl.cell (p := ⟨g, j, none⟩) (by show g < _; omega)
  have hfz : ∀ j, w2.frozen? ⟨g, j, none⟩ = w1.frozen? ⟨g, j, none⟩ := fun j => hbl.frozen (p := ⟨g, j, none⟩) (by show g < _; omega)
  have cd1 : CdIs w2 true P gc sb f l' := by
    obtain ⟨ao, n, cap, ha, hof⟩ := hcd
    exact ⟨ao, n, cap, ha.below hbl, fun _ => hsb, fun b hb => ⟨by have := (hof.2 b (.inl hb)).1; omega, (hof.2 b (.inl hb)).2.1, fun hm => by cases hm⟩⟩
  have cd2 := cd1.put (g := g) (o := o) hnP hne (.slice (some ⟨w1.heap.size, 0, none⟩) n n)
  have hsz3 : (w2.setCell ⟨g, o, none⟩ (.slice (some ⟨w1.heap.size, 0, none⟩) n n)).heap.size = w2.heap.size := by simp [World.setCell]
  obtain ⟨x, hx⟩ := Option.isSome_iff_exists.1 hc
  refine ⟨MidL.start (cd2.reP (fun _ => .inl hsb) fun b hb => ?_) fun i a hi => ?_, ?_, by rw [hcell]; exact hc, by rw [hfz]; exact hf, World.cell?_setCell_same w2 ⟨g, o, none⟩ _ ((hcell o).trans hx), ?_, fun j hj => ?_, fun j => by rw [World.frozen?_setCell]; exact hfz j, fun j => by rw [World.frozen?_setCell]; exact frozen_of_row _ _ _ _ _ hrow, by omega⟩
  · rcases hb with hb | rfl | rfl
    · exact .inl hb
    · exact .inr ⟨rfl, by omega, hne⟩
    · exact .inr ⟨rfl, by omega, by omega⟩
  · have hin : i < n := by simpa using (List.getElem?_eq_some_iff.1 hi).1
    obtain rfl : k.zero = a := by
      rw [List.getElem?_replicate, if_pos hin] at hi
      exact Option.some.inj hi
    refine ⟨zc, his _ _, (hA i hin).same fun j hj => World.cell?_setCell_other _ _ _ _ (by intro e; cases e; omega)⟩
  · exact (show Safe P w1 w2 from ⟨hbl.os, hbl.tape, hbl.output, hbl.size, fun b hb => hbl.block b (by have := (hcd.off (.inl hb)).1; exact this)⟩).trans (Safe.put (fun b hb => ⟨by have := (hcd.off (.inl hb)).1; omega, fun e => hnP (by rw [← e]; exact hb)⟩) _)
  · rw [World.cell?_setCell_other _ _ _ _ (by intro e; cases e; omega)]
    exact hbl.cell (p := ⟨w.heap.size, 0, none⟩) hw1
  · rw [World.cell?_setCell_other _ _ _ _ (by intro e; cases e; exact hj rfl)]
    exact hcell j

end Go.Proofs.YtngcbpgafjnfaaaGreatDoor
