/- Decode, of any bytes: what it comes to; how its results are read. Layer 4, plain: a frame that was cut, that has more behind it, in which a byte was changed. -/
import Derived.Test.YtngcbpgafjnfaaaGreatDoorLoB30
import Derived.Test.YtngcbpgafjnfaaaGreatDoorLoB15
import Derived.Test.YtngcbpgafjnfaaaGreatDoorLoB16
set_option linter.unusedSimpArgs false
set_option linter.unusedVariables false

namespace Go.Proofs.YtngcbpgafjnfaaaGreatDoor
open Go.RowKit
set_option linter.unusedVariables false

theorem frame_name : "frame".toUTF8 = ⟨#[102, 114, 97, 109, 101]⟩ := by kernel_rfl
/-- the message of a frame; or the error, and of what -/
def decW (l : List Nat) : Except (Nat × ByteArray) Ms :=
  if (unw l).2 ≠ 0 then .error ((unw l).2, ⟨#[102, 114, 97, 109, 101]⟩)
  else match decBody (unw l).1 with
    | .error (n, s) => .error (n, s.toUTF8)
    | .ok m => .ok m
/-- what Decode comes to -/
def DecEnd (l : List Nat) (w : World) (e : Ending) (w' : World) : Prop :=
  Below w.heap.size w w' ∧ match decW l with
  | .error (n, s) => ∃ a, e = .returned (.tuple #[.agg (noughtCs 0 0 0), .iface 112 (.pointer (some ⟨a, 0, none⟩))]) ∧ w.heap.size ≤ a ∧ w'.cell? ⟨a, 0, none⟩ = some (.int .i64 n) ∧ w'.cell? ⟨a, 1, none⟩ = some (.string s)
  | .ok m => ∃ (cs : Array Value) (N : Nat → Prop), e = .returned (.tuple #[.agg cs, .nilIface]) ∧ cs.size = 49 ∧ (∀ q, N q → w.heap.size ≤ q ∧ q < w'.heap.size) ∧ Slots (w'.alloc (.cells cs 52)) N w'.heap.size 0 (slotsOf m)
theorem unw_len (l : List Nat) : (unw l).1.length ≤ 65536 := by
  unfold unw
  split
  · simp
  · split
    · simp
    · split
      · simp
      · split
        · simp
        · rename_i h1 h2 h3 h4
          simp; omega
theorem load_msg (w : World) (g : Nat) (cs : Array Value) (hrow : w.heap[g]? = some (.cells cs 52 (0, 0))) (hz : cs.size = 49) : (loadVar 52 ⟨g, 0, none⟩).run Tryz.prog w = .ok (.agg cs) w :=
  run_loadVar_row w g 52 52 cs (0, 0) _ hrow Tryz.underlying52 rfl (by rw [hz]; exact msg_size)

theorem msgcs_one {w : World} {cs : Array Value} {N : Nat → Prop} {m : Ms} (hz : cs.size = 49) (h : Slots (w.alloc (.cells cs 52)) N w.heap.size 0 (slotsOf m)) : cs.all (·.oneCell') = true := by
  refine Array.all_eq_true_iff_forall_mem.2 (fun v hv => ?_)
  obtain ⟨j, hj, rfl⟩ := Array.mem_iff_getElem.1 hv
  have hrow := heap_alloc_new w (.cells cs 52)
  obtain ⟨u, h1, h2⟩ := chain_cells (slotsOf_chain m) h (slotsOf_fine m) (slotsOf_one m) j (Nat.zero_le _) (by omega)
  rw [cell_of_row _ _ j _ _ (0, 0) hrow, Array.getElem?_eq_getElem hj] at h1
  rw [Option.some.inj h1]; exact h2
theorem alloc_other (w w' : World) (o : Obj) (hs : w'.heap.size = w.heap.size) (k : Nat) (h : w'.heap[k]? = w.heap[k]?) : (w'.alloc o).heap[k]? = (w.alloc o).heap[k]? := by
  by_cases hk : k < w.heap.size
  · exact (heap_alloc_old w' o (r := k) (by omega)).trans (h.trans (heap_alloc_old w o (r := k) hk).symm)
  · by_cases e : k = w.heap.size
    · subst e
      have h1 := heap_alloc_new w' o
      rw [hs] at h1
      exact h1.trans (heap_alloc_new w o).symm
    · rw [Array.getElem?_eq_none (by simp; omega), Array.getElem?_eq_none (by simp; omega)]
theorem dec_results (tmps : Array Value) (w : World) (gs ge : Nat) (cs : Array Value) (v : Value) (h2 : tmps.getD 2 undef = .pointer (some ⟨gs, 0, none⟩)) (h3 : tmps.getD 3 undef = .pointer (some ⟨ge, 0, none⟩))
    (hm : (loadVar 52 ⟨gs, 0, none⟩).run Tryz.prog w = .ok (.agg cs) w) (he : w.cell? ⟨ge, 0, none⟩ = some v) : (results Tryz.f14 tmps).run Tryz.prog w = .ok (.tuple #[.agg cs, v]) w := by
  have hl2 : (loadVar 56 ⟨ge, 0, none⟩).run Tryz.prog w = .ok v w := by go_simp
  have h2' : tmps[2]?.getD undef = .pointer (some ⟨gs, 0, none⟩) := by simpa using h2
  have h3' : tmps[3]?.getD undef = .pointer (some ⟨ge, 0, none⟩) := by simpa using h3
  simp [results, Tryz.results14, h2', h3', asAddr, hm, hl2]
/-- the deferred function has caught a fault: what Decode returns -/
theorem caught_end (l : List Nat) (n : Int) (f : ByteArray) (w w6 : World) (a : Nat) (hd : ∃ k : Nat, n = (k : Int) ∧ decW l = .error (k, f)) (hB : Below w.heap.size w w6) (hE : ErrT w) (hga : a < w6.heap.size) (ha : w.heap.size + 1 + 1 ≤ a)
    (hs : w6.heap[w.heap.size]? = some (.cells (noughtCs 0 0 0) 52 (0, 0))) (he : w6.cell? ⟨w.heap.size + 1, 0, none⟩ = some .nilIface) (hf : w6.frozen? ⟨w.heap.size + 1, 0, none⟩ = false)
    (h0 : w6.cell? ⟨a, 0, none⟩ = some (.int .i64 n)) (h1 : w6.cell? ⟨a, 1, none⟩ = some (.string f)) :
    CallsD Tryz.prog 39 #[.pointer (some ⟨w.heap.size, 0, none⟩), .pointer (some ⟨w.heap.size + 1, 0, none⟩)] (.panicking [{ v := .iface 112 (.pointer (some ⟨a, 0, none⟩)), recovered := false }]) w6 fun e u' w' =>
      e = .returned (.tuple #[]) ∧ u' = .panicking [{ v := .iface 112 (.pointer (some ⟨a, 0, none⟩)), recovered := true }] ∧ (loadVar 52 ⟨w.heap.size, 0, none⟩).run Tryz.prog w' = .ok (.agg (noughtCs 0 0 0)) w' ∧ w'.cell? ⟨w.heap.size + 1, 0, none⟩ = some (.iface 112 (.pointer (some ⟨a, 0, none⟩))) ∧
        DecEnd l w (.returned (.tuple #[.agg (noughtCs 0 0 0), .iface 112 (.pointer (some ⟨a, 0, none⟩))])) w' := by
  obtain ⟨k, rfl, hk⟩ := hd
  refine (caught29 w.heap.size (w.heap.size + 1) ⟨a, 0, none⟩ _ _ w6 (hE.below hB) hga hs rfl he (by omega) hf (by show a ≠ _; omega) (by show a ≠ _; omega)).mono ?_
  rintro e u' w' ⟨rfl, rfl, r1, r2, r3, r4, r5⟩
  refine ⟨rfl, rfl, load_msg w' w.heap.size _ r1 rfl, r2, hB.trans (r5 w.heap.size (by omega) (by omega) hB.size), ?_⟩
  rw [hk]
  exact ⟨a, rfl, by omega, (r3 0).trans h0, (r3 1).trans h1⟩

set_option maxRecDepth 100000 in
set_option maxHeartbeats 4000000 in
theorem decode_any (ao : Option Addr) (n cap : Nat) (l : List Nat) (hl : l.length = n) (hn : n ≤ 9223372036854775807) (hc : n ≤ cap) (w : World) (hE : ErrT w) (hT : Tab w) (hr : Rd w ao l) :
    Calls Tryz.prog 14 #[.slice ao n cap] w (DecEnd l w) := by
  have hmf : ∀ (fn : Fn) (first cap : Array Value) (w : World), (Instr.makeFunc fn first cap).run Tryz.prog w = .ok (.func fn first cap) w := fun _ _ _ _ => rfl
  have HE := Lib.hid hE
  have HT := Lib.hid hT
  have HR := Lib.hid hr
  have HL := Lib.hid hl
  clear hE hT hr hl
  have hsz1 : (w.alloc (.cells (noughtCs 0 0 0) 52)).heap.size = w.heap.size + 1 := by simp
  have hrS := (heap_alloc_old (w.alloc (.cells (noughtCs 0 0 0) 52)) (.cells #[.nilIface] 56) (r := w.heap.size) (by rw [hsz1]; omega)).trans (heap_alloc_new w (.cells (noughtCs 0 0 0) 52))
  have hrE := heap_alloc_new (w.alloc (.cells (noughtCs 0 0 0) 52)) (.cells #[.nilIface] 56)
  rw [hsz1] at hrE
  have hB1 : Below w.heap.size w ((w.alloc (.cells (noughtCs 0 0 0) 52)).alloc (.cells #[.nilIface] 56)) := below_alloc (below_alloc (Below.refl _ _) _) _
  have hs1 : ((w.alloc (.cells (noughtCs 0 0 0) 52)).alloc (.cells #[.nilIface] 56)).heap.size = w.heap.size + 1 + 1 := by simp
  have HRS := Lib.hid hrS; have HRE := Lib.hid hrE; have HB1 := Lib.hid hB1; have HS1 := Lib.hid hs1
  clear hsz1 hrS hrE hB1 hs1
  go_enter_defers Tryz.func14, Tryz.ntmps14
  go_wp2_with fail
  change Calls _ _ _ ((w.alloc (.cells (noughtCs 0 0 0) 52)).alloc (.cells #[.nilIface] 56)) _
  generalize (w.alloc (.cells (noughtCs 0 0 0) 52)).alloc (.cells #[.nilIface] 56) = w1 at *
  have hUL := unw_len l
  refine (unwrap_any ao n cap l HL.out hn hc w1 (HT.out.below HB1.out) (HR.out.below HB1.out)).mono ?_
  rintro e w2 ⟨bo, bc, rfl, ho, hb2⟩
  have HO := Lib.hid ho; have HB2 := Lib.hid hb2
  clear ho hb2
  have hX : ∀ w6, Below w1.heap.size w1 w6 → w6.heap[w.heap.size]? = some (.cells (noughtCs 0 0 0) 52 (0, 0)) ∧ w6.cell? ⟨w.heap.size + 1, 0, none⟩ = some .nilIface ∧ w6.frozen? ⟨w.heap.size + 1, 0, none⟩ = false ∧ Below w.heap.size w w6 := fun w6 b => by
    have hs := HS1.out
    have e1 := (b.block (w.heap.size + 1) (by omega)).trans HRE.out
    exact ⟨(b.block w.heap.size (by omega)).trans HRS.out, cell_of_row w6 (w.heap.size + 1) 0 _ _ (0, 0) e1, frozen_of_row w6 (w.heap.size + 1) 0 _ _ e1, HB1.out.trans (b.mono (by omega))⟩
  have HX := Lib.hid hX
  clear hX
  by_cases hu : (unw l).2 = 0
  · have HDEC : Hid (decW l = match decBody (unw l).1 with
        | .error (n, s) => .error (n, s.toUTF8)
        | .ok m => .ok m) := Lib.hid (by unfold decW; rw [if_neg (by simp [hu])])
    rw [hu]
    clear hu
    generalize (unw l).1 = b at *
    have MO := Lib.hid (msgof_any bo b.length bc b rfl HO.out.le HO.out.max (by omega) w2 HO.out.rd)
    go_wp2_with fail
    refine MO.out.mono ?_; rintro e w3 hm
    unfold MsgEnd at hm
    cases hdb : decBody b with
    | error x =>
      obtain ⟨nn, s⟩ := x
      rw [hdb] at hm
      obtain ⟨hb3, f, rfl, a, q1, q2, rfl, q3, q4⟩ := hm
      have hb13 := HB2.out.trans (hb3.mono HB2.out.size)
      obtain ⟨x1, x2, x3, x4⟩ := HX.out w3 hb13
      have ha : w.heap.size + 1 + 1 ≤ a := by have := HS1.out; have := HB2.out.size; omega
      have HDN : Hid (decW l = .error (nn, s.toUTF8)) := Lib.hid (by rw [HDEC.out, hdb])
      refine leaves_cons (f := 39) (args := #[.pointer (some ⟨w.heap.size, 0, none⟩), .pointer (some ⟨w.heap.size + 1, 0, none⟩)]) (by simp) (by simp [go_sem]) ?_
      refine (caught_end l _ _ w w3 a ⟨nn, rfl, HDN.out⟩ x4 HE.out q2 ha x1 x2 x3 q3 q4).mono ?_
      rintro e u' w5 ⟨rfl, rfl, r1, r2, hend⟩
      have HEND := Lib.hid hend
      clear hend x1 x2 x3 x4 q1 q2 q3 q4
      exact ⟨_, dec_results _ w5 w.heap.size (w.heap.size + 1) _ _ rfl rfl r1 r2, HEND.out⟩
    | ok m =>
      rw [hdb] at hm
      obtain ⟨cs, N, rfl, hz, hb3, hN, hS⟩ := hm
      have hb13 := HB2.out.trans (hb3.mono HB2.out.size)
      obtain ⟨x1, x2, x3, x4⟩ := HX.out w3 hb13
      have hs0 := HS1.out
      have hsz3 : w.heap.size + 1 + 1 ≤ w3.heap.size := by have := hb13.size; omega
      have HONE := Lib.hid (msgcs_one hz hS)
      have HSZ : Hid ((Tryz.prog.info? 52).map (·.size) = some cs.size) := Lib.hid (by rw [hz]; exact msg_size)
      have HHO : Hid ((noughtCs 0 0 0).size = cs.size) := Lib.hid (by rw [hz]; rfl)
      have hk := Keep.setRow w3 w.heap.size cs
      have he4 := (hk.cell (a := ⟨w.heap.size + 1, 0, none⟩) (by show w.heap.size + 1 < _; omega) (by simp)).trans x2
      have hf4 := (hk.frozen (a := ⟨w.heap.size + 1, 0, none⟩) (by show w.heap.size + 1 < _; omega) (by simp)).trans x3
      have hr5 : ((w3.setRow w.heap.size cs).setCell ⟨w.heap.size + 1, 0, none⟩ .nilIface).heap[w.heap.size]? = some (.cells cs 52 (0, 0)) := by
        rw [Below.heap_setCell _ ⟨w.heap.size + 1, 0, none⟩ _ _ (by show w.heap.size ≠ w.heap.size + 1; omega)]
        exact setRow_heap _ _ _ _ _ _ x1
      have hl5 := load_msg _ w.heap.size cs hr5 hz
      have he5 := World.cell?_setCell_same (w3.setRow w.heap.size cs) ⟨w.heap.size + 1, 0, none⟩ .nilIface he4
      have hend : DecEnd l w (.returned (.tuple #[.agg cs, .nilIface])) ((w3.setRow w.heap.size cs).setCell ⟨w.heap.size + 1, 0, none⟩ .nilIface) := by
        have hss : ((w3.setRow w.heap.size cs).setCell ⟨w.heap.size + 1, 0, none⟩ .nilIface).heap.size = w3.heap.size := by simp [World.setCell, World.setRow]
        refine ⟨(x4.trans (hk.below x4.size (by simp))).setCell (by show w.heap.size ≤ w.heap.size + 1; omega) _, ?_⟩
        rw [HDEC.out, hdb]
        refine ⟨cs, N, rfl, hz, fun q hq => by have := hN q hq; have := HB2.out.size; omega, ?_⟩
        rw [hss]
        refine slots_safe (P := fun b => b ≠ w.heap.size ∧ b ≠ w.heap.size + 1) hS (slotsOf_fine m) ⟨rfl, rfl, rfl, by rw [World.size_alloc, World.size_alloc, hss]; exact Nat.le_refl _, fun k hk2 => alloc_other w3 _ _ hss k ?_⟩ (show w3.heap.size ≠ w.heap.size ∧ w3.heap.size ≠ w.heap.size + 1 from ⟨by omega, by omega⟩) (fun b hb => show b ≠ w.heap.size ∧ b ≠ w.heap.size + 1 from by have h1 := hN b hb; have h2 := HB2.out.size; exact ⟨by omega, by omega⟩) (fun b hb => hb)
        rw [Below.heap_setCell _ ⟨w.heap.size + 1, 0, none⟩ _ _ hk2.2, setRow_other _ _ _ _ hk2.1]
      have HEND := Lib.hid hend; have HX1 := Lib.hid x1; have HL5 := Lib.hid hl5; have HE5 := Lib.hid he5
      clear hend hl5 he5 hr5 x1 x2 x3 x4 hS hN hk hb13 MO
      go_wp2_with (refine wpList_store_row rfl 52 (.tmp 2) (.tmp 17) rfl w.heap.size cs rfl rfl 52 (noughtCs 0 0 0) HX1.out HSZ.out HHO.out HONE.out ?_)
      refine leaves_cons (f := 39) (args := #[.pointer (some ⟨w.heap.size, 0, none⟩), .pointer (some ⟨w.heap.size + 1, 0, none⟩)]) (by simp) (by simp [go_sem]) ?_
      refine (idle29 _ _ _).mono ?_
      rintro e u' w7 ⟨rfl, rfl, rfl⟩
      exact ⟨_, dec_results _ _ w.heap.size (w.heap.size + 1) _ _ rfl rfl HL5.out HE5.out, HEND.out⟩
  · have hpos : (unw l).2 ≠ 0 := hu
    have HDN : Hid (decW l = .error ((unw l).2, ⟨#[102, 114, 97, 109, 101]⟩)) := Lib.hid (by unfold decW; rw [if_pos hpos])
    obtain ⟨uu, huu⟩ : ∃ uu, (unw l).2 = uu := ⟨_, rfl⟩
    rw [huu] at hu HDN
    rw [huu]
    clear hpos huu
    generalize (unw l).1 = b at *
    have hne : ((uu : Int) != 0) = true := by rw [bne_iff_ne]; omega
    obtain ⟨x1, x2, x3, x4⟩ := HX.out (w2.alloc (.cells #[.int .i64 (uu : Int), .string ⟨#[102, 114, 97, 109, 101]⟩] 121)) (below_alloc HB2.out _)
    have hrow := heap_alloc_new w2 (.cells #[.int .i64 (uu : Int), .string ⟨#[102, 114, 97, 109, 101]⟩] 121)
    have g5 := cell_of_row _ w2.heap.size 0 _ _ (0, 0) hrow
    have g6 := cell_of_row _ w2.heap.size 1 _ _ (0, 0) hrow
    have g7 : w2.heap.size < (w2.alloc (.cells #[.int .i64 (uu : Int), .string ⟨#[102, 114, 97, 109, 101]⟩] 121)).heap.size := by simp
    have ha : w.heap.size + 1 + 1 ≤ w2.heap.size := by have := HS1.out; have := HB2.out.size; omega
    have CE := Lib.hid (caught_end l _ _ w _ w2.heap.size ⟨uu, rfl, HDN.out⟩ x4 HE.out g7 ha x1 x2 x3 g5 g6)
    clear x1 x2 x3 x4 hrow g5 g6 g7
    go_wp2_with (go_at_call 35; refine (giveup_any _ _ _).mono ?_; rintro e w' ⟨rfl, rfl⟩)
    refine leaves_cons (f := 39) (args := #[.pointer (some ⟨w.heap.size, 0, none⟩), .pointer (some ⟨w.heap.size + 1, 0, none⟩)]) (by simp) (by simp [go_sem]) ?_
    refine CE.out.mono ?_
    rintro e u' w5 ⟨rfl, rfl, r1, r2, hend⟩
    have HEND := Lib.hid hend
    clear hend
    exact ⟨_, dec_results _ w5 w.heap.size (w.heap.size + 1) _ _ rfl rfl r1 r2, HEND.out⟩
end Go.Proofs.YtngcbpgafjnfaaaGreatDoor


namespace Go.Proofs.YtngcbpgafjnfaaaGreatDoor
set_option linter.unusedVariables false

theorem num_taken (l : List Nat) (k : Nat) (h : 4 ≤ k) : num (l.take k) = num l := by
  rw [num_eq, num_eq, bt_take (by omega), bt_take (by omega), bt_take (by omega), bt_take (by omega)]
theorem spoilt_byte (b : List Nat) (hb : Bytes b) (hn : b.length ≤ 65536) (p y : Nat) (hp : p < (frameOf b).length) (hy : y < 256) :
    (unw ((frameOf b).set p (bt (frameOf b) p ^^^ y))).2 = 0 ↔ y = 0 := by
  have h := back_plain b hb hn [y] (by intro c hc; simp at hc; omega) p 1 (by omega) (by omega) (by omega) (by omega)
  have e : flip (frameOf b) p [y] 1 = (frameOf b).set p (bt (frameOf b) p ^^^ y) := rfl
  rw [e] at h
  have hc : chg [y] 1 = (y != 0) := by simp [chg, bt]
  rw [hc] at h
  constructor
  · intro h0
    rw [h0] at h
    simpa using h
  · intro h0
    subst h0
    have : ((unw ((frameOf b).set p (bt (frameOf b) p ^^^ 0))).2 != 0) = false := by rw [← h]; rfl
    simpa using this
theorem cut_short (b : List Nat) (hn : b.length ≤ 65536) (k : Nat) (hk : k < (frameOf b).length) : (unw ((frameOf b).take k)).2 ≠ 0 := by
  obtain ⟨g0, g1, g2, g6, g10⟩ := frame_parts b
  have hlen := frameOf_length b
  unfold unw
  by_cases h10 : k < 10
  · rw [if_pos (.inl (by simp; omega))]; decide
  · have e2 : num (((frameOf b).take k).drop 2) = b.length := by
      rw [List.drop_take, num_taken _ _ (by omega), g2, num_four _ (by omega)]
    have hl : ((frameOf b).take k).length = k := by simp; omega
    rw [e2, hl]
    split
    · decide
    · split
      · decide
      · rw [if_pos (by omega)]; decide
theorem longer (b : List Nat) (hn : b.length ≤ 65536) (m : List Nat) : (unw (frameOf b ++ m)).2 = 0 ↔ m = [] := by
  obtain ⟨g0, g1, g2, g6, g10⟩ := frame_parts b
  have hlen := frameOf_length b
  constructor
  · intro h
    by_cases hm : m = []
    · exact hm
    · exfalso
      have hml : 0 < m.length := List.length_pos_iff.2 hm
      have e2 : num ((frameOf b ++ m).drop 2) = b.length := by
        rw [List.drop_append_of_le_length (by omega), g2, List.append_assoc, num_four _ (by omega)]
      have hl : (frameOf b ++ m).length = b.length + 10 + m.length := by simp [hlen]
      unfold unw at h
      rw [e2, hl] at h
      split at h
      · simp at h
      · split at h
        · simp at h
        · rw [if_pos (by omega)] at h
          simp at h
  · rintro rfl
    rw [List.append_nil, unw_frame b hn]

/-- what is told of a message's frame that was spoilt -/
theorem spoilt {m : Ms} {f : List Nat} (h : encode m = .ok f) :
    (∀ k, k < f.length → ∃ e, decode (f.take k) = .error e) ∧ (∀ x, (∃ m', decode (f ++ x) = .ok m') ↔ x = []) ∧
    (∀ p y, p < f.length → y < 256 → ((∃ m', decode (f.set p (bt f p ^^^ y)) = .ok m') ↔ y = 0)) := by
  have hd := decode_encode h
  obtain ⟨hk, hb, hl, rfl, hB⟩ := encode_ok h
  refine ⟨fun k hk => ?_, fun x => ⟨fun hx => ?_, fun hx => ?_⟩, fun p y hp hy => ⟨fun hx => ?_, fun hx => ?_⟩⟩
  · have := cut_short _ hl k hk
    exact ⟨_, by unfold decode; rw [if_neg this]⟩
  · obtain ⟨m', hx⟩ := hx
    unfold decode at hx
    split at hx
    · rename_i h0
      exact (longer _ hl x).1 h0
    · cases hx
  · subst hx
    rw [List.append_nil]
    exact ⟨m, hd⟩
  · obtain ⟨m', hx⟩ := hx
    unfold decode at hx
    split at hx
    · rename_i h0
      exact (spoilt_byte _ hB hl p y hp hy).1 h0
    · cases hx
  · subst hx
    rw [Nat.xor_zero, show (frameOf (bodyOf m)).set p (bt (frameOf (bodyOf m)) p) = frameOf (bodyOf m) from by
      refine List.ext_getElem (by simp) fun i h1 h2 => ?_
      rw [List.getElem_set]
      split
      · rename_i e; subst e; simp [bt, List.getD, hp]
      · rfl]
    exact ⟨m, hd⟩
end Go.Proofs.YtngcbpgafjnfaaaGreatDoor
