/- Each of a message's cells is one cell. The message of a body is read: the walk. -/
import Derived.Test.YtngcbpgafjnfaaaGreatDoorLoB16
import Derived.Test.YtngcbpgafjnfaaaGreatDoorLoB25
set_option linter.unusedSimpArgs false
set_option linter.unusedVariables false

namespace Go.Proofs.YtngcbpgafjnfaaaGreatDoor
open Go.RowKit
set_option linter.unusedVariables false

def Kd.One {α : Type} (k : Kd α) : Prop := ∀ w N cs a, k.is w N cs a → ∀ v ∈ cs, v.oneCell' = true
theorem one_int (s m : Nat) : (intK s m).One := fun w N cs a h v hv => by obtain ⟨rfl, _⟩ := h; simp at hv; subst hv; rfl
theorem one_nat (k : IntKind) (s m : Nat) : (natK k s m).One := fun w N cs a h v hv => by obtain ⟨rfl, _⟩ := h; simp at hv; subst hv; rfl
theorem one_flag : flagK.One := fun w N cs a h v hv => by obtain rfl : cs = [.bool a] := h; simp at hv; subst hv; rfl
theorem one_text (m : Nat) : (textK m).One := fun w N cs a h v hv => by obtain ⟨rfl, _⟩ := h; simp at hv; subst hv; rfl
theorem one_list {α : Type} (k : Kd α) (m : Nat) : (listK k m).One := fun w N cs a h v hv => by obtain ⟨ao, n, cap, rfl, _⟩ := h; simp at hv; subst hv; rfl
theorem one_mans : mansK.One := fun w N cs a h v hv => by
  obtain ⟨_, rfl, _⟩ := h
  obtain ⟨x, _, rfl⟩ := List.mem_map.1 hv
  rfl
theorem one_incs : incsK.One := fun w N cs a h v hv => by
  obtain ⟨_, rfl, _⟩ := h
  obtain ⟨x, _, rfl⟩ := List.mem_map.1 hv
  rfl
theorem one_app {A B : List Value} (ha : ∀ v ∈ A, v.oneCell' = true) (hb : ∀ v ∈ B, v.oneCell' = true) : ∀ v ∈ A ++ B, v.oneCell' = true := fun v hv => by
  rcases List.mem_append.1 hv with h | h
  · exact ha v h
  · exact hb v h
theorem one_pos : posK.One := fun w N cs a ⟨c0, c1, e, h0, h1⟩ => by subst e; exact one_app (one_nat _ _ _ _ _ _ _ h0) (one_nat _ _ _ _ _ _ _ h1)
theorem one_arc : arcK.One := fun w N cs a ⟨c0, c1, e, h0, h1⟩ => by subst e; exact one_app (one_int _ _ _ _ _ _ h0) (one_int _ _ _ _ _ _ h1)
theorem one_bal : balK.One := fun w N cs a ⟨c0, c1, e, h0, h1⟩ => by subst e; exact one_app (one_nat _ _ _ _ _ _ _ h0) (one_nat _ _ _ _ _ _ _ h1)
theorem one_ins : insK.One := fun w N cs a ⟨c0, c1, c2, c3, e, h0, h1, h2, h3⟩ => by subst e; exact one_app (one_nat _ _ _ _ _ _ _ h0) (one_app (one_int _ _ _ _ _ _ h1) (one_app (one_int _ _ _ _ _ _ h2) (one_nat _ _ _ _ _ _ _ h3)))
theorem one_ans : ansK.One := fun w N cs a ⟨c0, c1, c2, c3, e, h0, h1, h2, h3⟩ => by subst e; exact one_app (one_nat _ _ _ _ _ _ _ h0) (one_app (one_nat _ _ _ _ _ _ _ h1) (one_app (one_nat _ _ _ _ _ _ _ h2) (one_list _ _ _ _ _ _ h3)))
theorem one_tx : txK.One := fun w N cs a ⟨c0, c1, c2, c3, e, h0, h1, h2, h3⟩ => by subst e; exact one_app (one_nat _ _ _ _ _ _ _ h0) (one_app (one_int _ _ _ _ _ _ h1) (one_app (one_mans _ _ _ _ h2) (one_list _ _ _ _ _ _ h3)))
theorem one_acc : accK.One := fun w N cs a ⟨c0, c1, c2, e, h0, h1, h2⟩ => by subst e; exact one_app (one_flag _ _ _ _ h0) (one_app (one_bal _ _ _ _ h1) (one_text _ _ _ _ _ h2))
theorem one_cpy : cpyK.One := fun w N cs a ⟨c0, c1, c2, c3, c4, c5, c6, e, h0, h1, h2, h3, h4, h5, h6⟩ => by
  subst e
  exact one_app (one_int _ _ _ _ _ _ h0) (one_app (one_nat _ _ _ _ _ _ _ h1) (one_app (one_nat _ _ _ _ _ _ _ h2) (one_app (one_list _ _ _ _ _ _ h3) (one_app (one_list _ _ _ _ _ _ h4) (one_app (one_incs _ _ _ _ h5) (one_list _ _ _ _ _ _ h6))))))
def Slot.One (s : Slot) : Prop := ∀ w N cs, s.p w N cs → ∀ v ∈ cs, v.oneCell' = true
theorem Kd.One.slot {α : Type} {k : Kd α} (h : k.One) (off : Nat) (a : α) : (k.slot off a).One := fun w N cs hp => h w N cs a hp
def AllOne : List Slot → Prop
  | [] => True
  | s :: L => s.One ∧ AllOne L
theorem slotsOf_one (m : Ms) : AllOne (slotsOf m) :=
  ⟨(one_int _ _).slot _ _, (one_int _ _).slot _ _, (one_int _ _).slot _ _, one_ins.slot _ _, one_bal.slot _ _, one_acc.slot _ _, (one_text _).slot _ _, one_tx.slot _ _, (one_nat _ _ _).slot _ _, (one_nat _ _ _).slot _ _, (one_nat _ _ _).slot _ _, (one_int _ _).slot _ _, (one_int _ _).slot _ _, (one_int _ _).slot _ _,
    (one_nat _ _ _).slot _ _, (one_int _ _).slot _ _, one_ans.slot _ _, one_cpy.slot _ _, one_arc.slot _ _, (one_list _ _).slot _ _, one_pos.slot _ _, (one_int _ _).slot _ _, (one_list _ _).slot _ _, trivial⟩
/-- the parts lie one behind the other -/
def Chain (start : Nat) : List Slot → Nat → Prop
  | [], stop => start = stop
  | s :: L, stop => s.off = start ∧ Chain (start + s.sz) L stop
theorem slotsOf_chain (m : Ms) : Chain 0 (slotsOf m) 49 := by
  unfold slotsOf
  repeat (first | exact rfl | refine ⟨rfl, ?_⟩)
theorem chain_cells {w : World} {N : Nat → Prop} {g : Nat} : ∀ {L : List Slot} {start stop : Nat}, Chain start L stop → Slots w N g 0 L → AllFine L → AllOne L → ∀ j, start ≤ j → j < stop → ∃ v, w.cell? ⟨g, j, none⟩ = some v ∧ v.oneCell' = true
  | [], start, stop, hc, _, _, _, j, h1, h2 => by obtain rfl : start = stop := hc; omega
  | s :: L, start, stop, hc, hs, hf, ho, j, h1, h2 => by
    obtain ⟨rfl, hc2⟩ := hc
    obtain ⟨⟨cs, hp, hcell⟩, hs2⟩ := hs
    have hsz := hf.1.size _ _ _ hp
    by_cases hj : j < s.off + s.sz
    · obtain ⟨v, hv⟩ : ∃ v, cs[j - s.off]? = some v := ⟨_, List.getElem?_eq_getElem (by omega)⟩
      refine ⟨v, ?_, ho.1 _ _ _ hp v (List.mem_of_getElem? hv)⟩
      have := hcell _ _ hv
      rwa [show 0 + s.off + (j - s.off) = j by omega] at this
    · exact chain_cells hc2 hs2 hf.2 ho.2 j (by omega) h2
/-- a message's cells, as a row -/
def cellsAt (w : World) (g : Nat) : List Value := (List.range 49).map fun j => (w.cell? ⟨g, j, none⟩).getD undef
theorem cellsAt_len (w : World) (g : Nat) : (cellsAt w g).length = 49 := by simp [cellsAt]
theorem cellsAt_at {w : World} {N : Nat → Prop} {g : Nat} {m : Ms} (h : Slots w N g 0 (slotsOf m)) (j : Nat) (hj : j < 49) : (cellsAt w g)[j]? = w.cell? ⟨g, j, none⟩ := by
  obtain ⟨v, hv, _⟩ := chain_cells (slotsOf_chain m) h (slotsOf_fine m) (slotsOf_one m) j (Nat.zero_le _) hj
  simp [cellsAt, hj, hv]
theorem cellsAt_range {w : World} {N : Nat → Prop} {g : Nat} {m : Ms} (h : Slots w N g 0 (slotsOf m)) : w.rangeAt g 0 (cellsAt w g) := fun j v hv => by
  have hj : j < 49 := by have := (List.getElem?_eq_some_iff.1 hv).1; rw [cellsAt_len] at this; exact this
  rw [Nat.zero_add, ← cellsAt_at h j hj]; exact hv
theorem cellsAt_one {w : World} {N : Nat → Prop} {g : Nat} {m : Ms} (h : Slots w N g 0 (slotsOf m)) : (cellsAt w g).toArray.all (·.oneCell') = true := by
  rw [← Array.all_toList]
  refine List.all_eq_true.2 fun v hv => ?_
  obtain ⟨j, hj⟩ := List.mem_iff_getElem?.1 hv
  have hj49 : j < 49 := by have := (List.getElem?_eq_some_iff.1 hj).1; simpa [cellsAt_len] using this
  obtain ⟨u, hu, ho⟩ := chain_cells (slotsOf_chain m) h (slotsOf_fine m) (slotsOf_one m) j (Nat.zero_le _) hj49
  have e : (cellsAt w g)[j]? = some v := by simpa using hj
  rw [cellsAt_at h j hj49, hu] at e
  cases e
  exact ho
end Go.Proofs.YtngcbpgafjnfaaaGreatDoor


namespace Go.Proofs.YtngcbpgafjnfaaaGreatDoor
open Go.RowKit
set_option linter.unusedVariables false

/-- the blocks that stay while a message is read: all but the coder's and the message's -/
def StayR (w0 : World) (gc gm : Nat) : Nat → Prop := fun b => b < w0.heap.size ∧ b ≠ gc ∧ b ≠ gm
/-- between two fields that are read -/
structure LoopR (w0 : World) (gc gm gs k : Nat) (l : List Nat) (q : Nat) (f : ByteArray) (lr : List Nat) (m : Ms) (w : World) : Prop where
  mid : MidM true (StayR w0 gc gm) (fun _ => False) gc ⟨gs, fun _ _ _ => False⟩ f lr gm m w0 w
  all : readAll (all_ k) (Ms.zero k) l = readAll ((all_ k).drop q) m lr
  zero : ∀ i, i < 22 → i ∉ (all_ k).take q → (fd i).get m = (fd i).get (Ms.zero 0)
  len : lr.length ≤ l.length
theorem wpList_to {P : Program} {ops : Array Oper} {Q : Exit → Act → World → Prop} {rest : List Oper} {a : Act} {w w' : World} (h : w = w') (hh : wpList P ops Q rest a w') : wpList P ops Q rest a w := by subst h; exact hh
theorem nought_zero (k : Int) : nought k 0 0 = Ms.zero k := rfl
theorem readcd_start (w4 : World) (g o n cap : Nat) (l : List Nat) (hr : Rd w4 (sh (some ⟨g, o, none⟩) cap 1) l) (hl : l.length = n - 1) (hc : n - 1 ≤ cap - 1) (hm : cap - 1 ≤ maxLen) (hg : g < w4.heap.size) :
    CdAt (w4.alloc (.cells #[.bool true, .slice (sh (some ⟨g, o, none⟩) cap 1) (n - 1) (cap - 1), .string ⟨#[]⟩] 139)) true w4.heap.size ⟨g, fun _ _ _ => False⟩ ⟨#[]⟩ (sh (some ⟨g, o, none⟩) cap 1) (n - 1) (cap - 1) l :=
  ⟨by go_simp, by go_simp, by go_simp, by go_simp, by go_simp, by simp, hl, hc, hm, (fun h => by cases h), (fun h => by cases h), fun _ => ⟨hr.below (below_alloc (Below.refl _ _) _), by show g ≠ w4.heap.size; omega, fun b hb => by have := blk_sh (some ⟨g, o, none⟩) cap 1 b hb; simpa [blk] using this⟩⟩
theorem loopr_start {w2 w5 w6 : World} {gc gm g k n cap : Nat} {ao : Option Addr} {l : List Nat} (hcd : CdAt w5 true gc ⟨g, fun _ _ _ => False⟩ ⟨#[]⟩ ao n cap l) (hb : Below w5.heap.size w5 w6) (hb2 : Below w2.heap.size w2 w6) (hsl : Slots w2 (fun _ => False) gm 0 (slotsOf (Ms.zero k)))
    (hgm : gm < w2.heap.size) (hg : g < w5.heap.size) (hgc : g ≠ gc) (hgg : g ≠ gm) (hne : gm ≠ gc) : LoopR w6 gc gm g k l 0 ⟨#[]⟩ l (Ms.zero k) w6 := by
  refine ⟨Mid.start ⟨_, _, _, hcd.below hb, fun _ => ⟨Nat.lt_of_lt_of_le hg hb.size, hgc, hgg⟩, fun b hb => ⟨hb.1, hb.2.1, fun h => by cases h⟩⟩ ?_, rfl, fun i hi _ => zero_get i hi k 0, Nat.le_refl _⟩
  exact slots_safe hsl (slotsOf_fine _) (safe_of_below hb2) hgm (fun _ h => h.elim) fun _ h => h.elim
theorem decBody_err {k i : Nat} {l : List Nat} (h1 : 1 ≤ k) (h2 : k ≤ 23) (h : readAll (all_ k) (Ms.zero k) l = .error i) : decBody (k :: l) = .error (44, nameOf i) := by
  show (if k < 1 ∨ 23 < k then _ else _) = _
  rw [if_neg (by omega), h]
theorem decBody_ok {k : Nat} {l r : List Nat} {m : Ms} (h1 : 1 ≤ k) (h2 : k ≤ 23) (h : readAll (all_ k) (Ms.zero k) l = .ok (m, r)) : decBody (k :: l) = if r = [] then .ok m else .error (44, "body") := by
  show (if k < 1 ∨ 23 < k then _ else _) = _
  rw [if_neg (by omega), h]
theorem LoopR.next {w0 w w8 : World} {gc gm gs k q i : Nat} {l lr r : List Nat} {f f' : ByteArray} {m : Ms} {a : (fd i).α} (h : LoopR w0 gc gm gs k l q f lr m w) (hi : (all_ k)[q]? = some i) (hd : (fd i).cod.dec lr = some (a, r)) (hlen : r.length ≤ lr.length)
    (hm : MidM true (StayR w0 gc gm) (fun _ => False) gc ⟨gs, fun _ _ _ => False⟩ f' r gm ((fd i).set m a) w0 w8) : LoopR w0 gc gm gs k l (q + 1) f' r ((fd i).set m a) w8 := by
  refine ⟨hm, ?_, fun j hj hn => ?_, Nat.le_trans hlen h.len⟩
  · rw [h.all, readAll_drop k q i hi, hd]
  · have hq : q < (all_ k).length := (List.getElem?_eq_some_iff.1 hi).1
    have ht : (all_ k).take (q + 1) = (all_ k).take q ++ [i] := by
      rw [List.take_add_one, hi]; rfl
    rw [ht] at hn
    simp only [List.mem_append, List.mem_singleton, not_or] at hn
    have hi22 : i < 22 := all_lt (List.mem_of_getElem? hi)
    rw [get_other j i hj hi22 hn.2]
    exact h.zero j hj hn.1
theorem name_of (i : Nat) (hi : i < 22) : (nameOf i).toUTF8 = nameB i := by
  rcases fd_cases hi with rfl | rfl | rfl | rfl | rfl | rfl | rfl | rfl | rfl | rfl | rfl | rfl | rfl | rfl | rfl | rfl | rfl | rfl | rfl | rfl | rfl | rfl <;> kernel_rfl

theorem msg_bad {w w6 wr w8 : World} {gc gm gs k q i : Nat} {l lr : List Nat} {f : ByteArray} {m : Ms} {e : Ending} (h1 : 1 ≤ k) (h2 : k ≤ 23) (hL : LoopR w6 gc gm gs k l q f lr m wr) (hi : (all_ k)[q]? = some i) (hd : (fd i).cod.dec lr = none)
    (hb : Below w.heap.size w w6) (hs : SafeK (StayR w6 gc gm) gm w6 w8) (hgm : w.heap.size < gm) (hgc : w.heap.size < gc) (hg : Gave true (nameB i) e w6 w8) : MsgEnd (k :: l) w e w8 := by
  have hi22 : i < 22 := all_lt (List.mem_of_getElem? hi)
  have hr : readAll (all_ k) (Ms.zero k) l = .error i := by rw [hL.all, readAll_drop k q i hi, hd]
  unfold MsgEnd
  rw [decBody_err h1 h2 hr]
  have h6 := hb.size
  refine ⟨hb.trans ((hs.toSafe.mono (Q := (· < w.heap.size)) fun b hb => ⟨by omega, by omega, by omega⟩).below), nameB i, (name_of i hi22).symm, ?_⟩
  obtain ⟨x, p1, p2, p3, p4, p5⟩ := hg
  exact ⟨x, by omega, p2, p3, p4, p5⟩
theorem msg_long {w w6 wz : World} {gc gm k : Nat} {l : List Nat} (hde : decBody (k :: l) = .error (44, "body")) (hb : Below w.heap.size w w6) (hs : SafeK (StayR w6 gc gm) gm w6 wz) (hgm : w.heap.size < gm) (hgc : w.heap.size < gc) :
    MsgEnd (k :: l) w (.panicked [{ v := .iface 112 (.pointer (some ⟨wz.heap.size, 0, none⟩)), recovered := false }]) (wz.alloc (.cells #[.int .i64 (if true then 44 else 42), .string ⟨#[98, 111, 100, 121]⟩] 121)) := by
  unfold MsgEnd
  rw [hde]
  have h6 := hb.size
  have h7 := hs.size
  refine ⟨below_alloc (hb.trans ((hs.toSafe.mono (Q := (· < w.heap.size)) fun b hb => ⟨by omega, by omega, by omega⟩).below)) _, _, bytes_name.1.symm, wz.heap.size, by omega, by simp, rfl, by go_simp, by go_simp⟩
theorem exec_load {P : Program} {o : Oper} {a : Act} {w : World} {v : Value} {p : Value} (t : TypeId) (x : Operand) (ho : o.op = .load t x) (hx : a.eval x = p)
    (h : (Instr.loadAt t p).run P w = .ok v w) : (execOp a.eval o).run P w = .ok (.value v) w := by
  unfold execOp
  simp only [ho, hx, Sem.run_bind, h, Result.andThen_ok, Sem.run_pure]
theorem msg_read {w w6 wz : World} {gc gm gs k : Nat} {l lr : List Nat} {f : ByteArray} {m : Ms} (hde : decBody (k :: l) = .ok m) (hb : Below w.heap.size w w6) (hm : MidM true (StayR w6 gc gm) (fun _ => False) gc ⟨gs, fun _ _ _ => False⟩ f lr gm m w6 wz) (hgm : w.heap.size < gm) (hgc : w.heap.size < gc) (hlt : w.heap.size < w6.heap.size) :
    MsgEnd (k :: l) w (.returned (.agg (cellsAt wz gm).toArray)) (wz.setRow w.heap.size (cellsAt wz gm).toArray) := by
  unfold MsgEnd
  rw [hde]
  have h6 := hb.size
  have hz : Below w.heap.size w wz := hb.trans ((hm.safe.toSafe.mono (Q := (· < w.heap.size)) fun b hb => ⟨by omega, by omega, by omega⟩).below)
  have hsz := hm.safe.size
  have hk := Keep.setRow wz w.heap.size (cellsAt wz gm).toArray
  have hks : wz.heap.size ≤ (wz.setRow w.heap.size (cellsAt wz gm).toArray).heap.size := hk.size
  have hb2 : Below w.heap.size w (wz.setRow w.heap.size (cellsAt wz gm).toArray) := hz.trans (hk.below (by omega) (by simp))
  refine ⟨_, Grow true (fun _ => False) w6 wz, rfl, by rw [List.size_toArray, cellsAt_len], hb2, fun q hq => ?_, ?_⟩
  · rcases hq with h | ⟨_, h1, h2⟩
    · exact h.elim
    · exact ⟨by omega, by omega⟩
  · have hs : Safe (Grow true (fun _ => False) w6 wz) wz ((wz.setRow w.heap.size (cellsAt wz gm).toArray).alloc (.cells (cellsAt wz gm).toArray 52)) := by
      refine Safe.trans (.of_keep hk fun b hb => ?_) (.of_keep (Keep.of_below (below_alloc (Below.refl _ _) _) []) fun b hb => ⟨?_, by simp⟩)
      · rcases hb with h | ⟨_, h1, h2⟩
        · exact h.elim
        · exact ⟨h2, fun h => by have := List.mem_singleton.1 h; omega⟩
      · rcases hb with h | ⟨_, h1, h2⟩
        · exact h.elim
        · omega
    refine slots_move hs hm.to (slotsOf_fine m) (slots_in m) fun j hj => ?_
    rw [cell_of_row _ _ _ _ _ (0, 0) (heap_alloc_new _ _), List.getElem?_toArray, cellsAt_at hm.to j hj]

set_option maxRecDepth 100000 in
set_option maxHeartbeats 8000000 in
theorem msgof_good (g o n cap k : Nat) (h1 : 1 ≤ k) (h2 : k ≤ 23) (l : List Nat) (hn : l.length + 1 = n) (hcap : n ≤ cap) (hmx : cap ≤ maxLen) (hbig : n ≤ 131072) (w : World) (hr : Rd w (some ⟨g, o, none⟩) (k :: l)) :
    Calls Tryz.prog 41 #[.slice (some ⟨g, o, none⟩) n cap] w (MsgEnd (k :: l) w) := by
  have hd := iskind_any (k : Int) (by omega) (by omega)
  have HD := Lib.hid (fun w => by have := hd w; rw [decide_eq_true (by omega)] at this; exact this)
  have HU := Lib.hid (usedby_any k h1 h2)
  have HO := Lib.hid (nought_one k)
  have HI := Lib.hid msg_size
  have HTI := Lib.hid table_info
  have HTO := Lib.hid table_one
  have HR := Lib.hid hr
  obtain ⟨_, _, e0, hg, hc⟩ := hr.at_ 0 (by simp)
  cases e0
  rw [Nat.add_zero] at hc
  have hc : w.cell? ⟨g, o, none⟩ = some (.int .u8 (k : Int)) := hc
  have HK1 := Lib.hid h1; have HK2 := Lib.hid h2; have HLN := Lib.hid hn; have HCAP := Lib.hid hcap; have HMX := Lib.hid hmx
  have hne0 : ((n : Int) == 0) = false := by simp; omega
  have hk256 : k < 256 := by omega
  have hn1 : 1 ≤ n := by omega
  clear hd hr h1 h2 hn hcap hmx
  go_enter Tryz.func41, Tryz.ntmps41
  go_upto_region 3 with fail
  have hs1 : (w.alloc (.cells (noughtCs 0 0 0) 52)).heap.size = w.heap.size + 1 := by simp
  have hb1 : Below w.heap.size w (w.alloc (.cells (noughtCs 0 0 0) 52)) := below_alloc (Below.refl _ _) _
  have hc1 := (hb1.cell (p := ⟨g, o, none⟩) hg).trans hc
  have hrR := heap_alloc_new w (.cells (noughtCs 0 0 0) 52)
  change Code.wp _ _ _ _ (w.alloc (.cells (noughtCs 0 0 0) 52))
  -- no 'generalize': the kernel would open the block's place
  obtain ⟨w1, hw1⟩ : ∃ w1, w.alloc (.cells (noughtCs 0 0 0) 52) = w1 := ⟨_, rfl⟩
  rw [hw1] at hs1 hb1 hc1 hrR ⊢
  have HS1 := Lib.hid hs1; have HB1 := Lib.hid hb1; have HRR := Lib.hid hrR
  clear hw1 hs1 hb1 hc hrR
  obtain ⟨w2, hw2⟩ : ∃ w2, w1.alloc (.cells (noughtCs k 0 0) 52) = w2 := ⟨_, rfl⟩
  have hcw : w2.cell? ⟨w1.heap.size, 0, none⟩ = some (.int .i64 (k : Int)) := by
    rw [← hw2, cell_of_row _ _ _ _ _ (0, 0) (heap_alloc_new w1 _)]; rfl
  have hs2 : w2.heap.size = w1.heap.size + 1 := by rw [← hw2]; simp
  have hb2 : Below w1.heap.size w1 w2 := by rw [← hw2]; exact below_alloc (Below.refl _ _) _
  have hsl2 : Slots w2 (fun _ => False) w1.heap.size 0 (slotsOf (Ms.zero k)) := by
    have hk2 := HK2.out; rw [← hw2, ← nought_zero]; exact nought_slots k 0 0 (by unfold I64; omega) (by unfold I64; omega) (by unfold I64; omega) w1 _
  have hfz2 : ∀ j, w2.frozen? ⟨w1.heap.size, j, none⟩ = false := fun j => by rw [← hw2]; exact frozen_of_row _ _ _ _ _ (heap_alloc_new w1 _)
  have HW2 := Lib.hid hw2; have HS2 := Lib.hid hs2; have HB2 := Lib.hid hb2; have HSL := Lib.hid hsl2; have HFZ := Lib.hid hfz2
  clear hw2 hs2 hb2 hsl2 hfz2
  obtain ⟨w3, hw3⟩ : ∃ w3, w2.alloc (.cells tableCells 170) = w3 := ⟨_, rfl⟩
  have hs3 : w3.heap.size = w2.heap.size + 1 := by rw [← hw3]; simp
  have hb3 : Below w2.heap.size w2 w3 := by rw [← hw3]; exact below_alloc (Below.refl _ _) _
  have HW3 := Lib.hid hw3; have HS3 := Lib.hid hs3; have HB3 := Lib.hid hb3
  clear hw3 hs3 hb3
  obtain ⟨w4, hw4⟩ : ∃ w4, w3.alloc (.cells tableCells 170) = w4 := ⟨_, rfl⟩
  have hs4 : w4.heap.size = w3.heap.size + 1 := by rw [← hw4]; simp
  have hb4 : Below w3.heap.size w3 w4 := by rw [← hw4]; exact below_alloc (Below.refl _ _) _
  have hrow4 : w4.heap[w3.heap.size]? = some (.cells tableCells 170 (0, 0)) := by rw [← hw4]; exact heap_alloc_new w3 _
  have HW4 := Lib.hid hw4; have HS4 := Lib.hid hs4; have HB4 := Lib.hid hb4; have HT4 := Lib.hid hrow4
  clear hw4 hs4 hb4 hrow4
  have hcut := run_cut2 w4 (some ⟨g, o, none⟩) n cap 1 (by have := HLN.out; omega)
  have hk4 : w4.cell? ⟨w1.heap.size, 0, none⟩ = some (.int .i64 (k : Int)) := by
    have a2 := HS2.out; have a3 := HS3.out
    exact (HB4.out.cell (p := ⟨w1.heap.size, 0, none⟩) (by show w1.heap.size < _; omega)).trans ((HB3.out.cell (p := ⟨w1.heap.size, 0, none⟩) (by show w1.heap.size < _; omega)).trans hcw)
  have hl4 : w1.heap.size < w4.heap.size := by have := HS2.out; have := HS3.out; have := HS4.out; omega
  have HCUT := Lib.hid hcut
  clear hcut
  go_wp2_with (first
    | (refine wpList_store_new rfl 52 (.tmp 3) (.tmp 16) rfl (noughtCs k 0 0) rfl rfl _ HI.out rfl HO.out ?_; refine wpList_to HW2.out ?_)
    | (go_at_call 66; refine (HD.out _).mono ?_; rintro e w' ⟨rfl, rfl⟩)
    | (go_at_call 68; refine (fields_any _).mono ?_; rintro e w' ⟨rfl, hw'⟩; obtain rfl : w3 = w' := (hw'.trans HW3.out).symm; clear hw')
    | (refine wpList_store_new rfl 170 (.tmp 4) (.tmp 22) rfl tableCells rfl rfl _ HTI.out rfl HTO.out ?_; refine wpList_to HW4.out ?_)
    | (refine wpList_value rfl _ (exec_slice (vx := .slice (some ⟨g, o, none⟩) n cap) (lv := some (.int .i64 (1 : Nat))) (hv := none) 54 (.tmp 23) (some (.const (.int .i64 1))) none rfl rfl rfl rfl HCUT.out) ?_)
    | (go_at_call 67; refine (HU.out _).mono ?_; rintro e w6 ⟨aou, cau, rfl, hu1, hu2, hur, hub, hun, hubel⟩))
  have HSTART : Hid (LoopR w6 w4.heap.size w1.heap.size g k l 0 ⟨#[]⟩ l (Ms.zero k) w6) := by
    have a1 := HS1.out; have a2 := HS2.out; have a3 := HS3.out; have a4 := HS4.out; have aL := HLN.out; have aC := HCAP.out; have aM := HMX.out
    have b4 := HB1.out.trans ((HB2.out.trans ((HB3.out.trans (HB4.out.mono (by omega))).mono (by omega))).mono (by omega))
    have r4 := (HR.out.below b4).sh cap 1 (by simp; omega)
    have hcd := readcd_start w4 g o n cap l r4 (by omega) (by omega) (by omega) (by omega)
    have hb26 : Below w2.heap.size w2 w6 := (HB3.out.trans (HB4.out.mono (by omega))).trans ((below_of_alloc hubel).mono (by omega))
    exact Lib.hid (loopr_start hcd hubel hb26 HSL.out (by omega) (by simp; omega) (by omega) (by omega) (by omega))
  have HBEL : Hid (Below w4.heap.size w4 w6) := Lib.hid (below_of_alloc hubel)
  have hub5 : ∀ b ∈ blk aou, w4.heap.size < b := fun b hb => by have := hub b hb; simp at this; omega
  have hub6 : w4.heap.size < w6.heap.size := by have := hubel.size; simp at this; omega
  have HUB := Lib.hid hub5; have HUR := Lib.hid hur
  clear hubel hub hur hub5 hun hu1 hu2 hk4 hcw hc1
  have hg4 : g < w.heap.size := hg
  have HT6 : Hid (w6.heap[w3.heap.size]? = some (.cells tableCells 170 (0, 0))) := Lib.hid ((HBEL.out.block _ (by have := HS4.out; omega)).trans HT4.out)
  have hsz6 := HBEL.out.size
  obtain ⟨gm, hgm⟩ : ∃ gm, w1.heap.size = gm := ⟨_, rfl⟩
  obtain ⟨gt, hgt⟩ : ∃ gt, w3.heap.size = gt := ⟨_, rfl⟩
  obtain ⟨gc, hgc⟩ : ∃ gc, w4.heap.size = gc := ⟨_, rfl⟩
  have HGM : Hid (gm < gt ∧ gt < gc ∧ gc < w6.heap.size ∧ w.heap.size < gm) := Lib.hid (by
    have a1 := HS1.out; have a2 := HS2.out; have a3 := HS3.out; have a4 := HS4.out
    have a6 := hub6
    omega)
  rw [hgm, hgc] at HSTART
  rw [hgt] at HT6
  rw [hgc] at HUB
  rw [hgm, hgt, hgc]
  have HBA : Hid (Below w.heap.size w w6) := Lib.hid (by
    have a1 := HS1.out; have a2 := HS2.out; have a3 := HS3.out; have a4 := HS4.out
    exact HB1.out.trans ((HB2.out.trans ((HB3.out.trans ((HB4.out.trans (HBEL.out.mono (by omega))).mono (by omega))).mono (by omega))).mono (by omega)))
  have HFZ6 : Hid (∀ j, w6.frozen? ⟨gm, j, none⟩ = false) := Lib.hid (fun j => by
    have a1 := HS1.out; have a2 := HS2.out; have a3 := HS3.out; have a4 := HS4.out
    rw [← hgm]
    have b26 : Below w2.heap.size w2 w6 := HB3.out.trans ((HB4.out.trans (HBEL.out.mono (by omega))).mono (by omega))
    exact (b26.frozen (p := ⟨w1.heap.size, j, none⟩) (by show w1.heap.size < _; omega)).trans (HFZ.out j))
  have HRR6 : Hid (w6.heap[w.heap.size]? = some (.cells (noughtCs 0 0 0) 52 (0, 0))) := Lib.hid (by
    have a1 := HS1.out; have a2 := HS2.out; have a3 := HS3.out; have a4 := HS4.out
    have b16 : Below w1.heap.size w1 w6 := HB2.out.trans ((HB3.out.trans ((HB4.out.trans (HBEL.out.mono (by omega))).mono (by omega))).mono (by omega))
    exact (b16.block _ (by omega)).trans HRR.out)
  clear hgm hgt hgc hub6 hsz6 hl4 HS1 HS2 HS3 HS4 HB1 HB2 HB3 HB4 HBEL HW2 HW3 HW4 HRR HSL HFZ HT4 HCUT HD HU HO HI HTI HTO
  have HAL := Lib.hid (all_len k HK2.out)
  obtain ⟨La, hLa⟩ : ∃ La, (all_ k).length = La := ⟨_, rfl⟩
  have hLa7 : La ≤ 7 := by rw [← hLa]; exact HAL.out
  rw [hLa]
  have HLA := Lib.hid hLa
  clear hLa HAL
  go_loopw [7, 30] (fun x i wr => ∃ (q : Nat) (f : ByteArray) (lr : List Nat) (m : Ms), q ≤ La ∧ i = .int .i64 (q : Int) ∧ LoopR w6 gc gm g k l q f lr m wr) (fun _ i _ => La - (intOf i).toNat)
  case atStart => exact ⟨0, _, _, _, by omega, rfl, HSTART.out⟩
  case round =>
    obtain ⟨q, f, lr, m, hq, rfl, hL⟩ := hrel
    have HL := Lib.hid hL
    obtain ⟨u1, u2, u3, u4⟩ := HGM.out
    by_cases hlt : q < La
    · obtain ⟨i, hi⟩ : ∃ i, (all_ k)[q]? = some i := ⟨_, List.getElem?_eq_getElem (by rw [HLA.out]; exact hlt)⟩
      have hi22 : i < 22 := all_lt (List.mem_of_getElem? hi)
      obtain ⟨gu, ou, rfl, hgu, hcu⟩ := HUR.out q i hi
      have hgu2 := HUB.out gu (by simp [blk])
      have hsafe := hL.mid.safe.toSafe
      have c0 := (hsafe.cell (a := ⟨gu, ou + q, none⟩) (show StayR w6 gc gm gu from ⟨hgu, by omega, by omega⟩)).trans hcu
      have hrow := (hsafe.block gt (show StayR w6 gc gm gt from ⟨by omega, by omega, by omega⟩)).trans HT6.out
      obtain ⟨t1, t2⟩ := table_name i hi22
      have c1 : wr.cell? ⟨gt, i * 2, none⟩ = some (.string (nameB i)) := by rw [cell_of_row _ _ _ _ _ (0, 0) hrow]; exact t1
      have c2 : wr.cell? ⟨gt, i * 2 + 1, none⟩ = some (.func (.func (codeFn i)) #[] #[]) := by rw [cell_of_row _ _ _ _ _ (0, 0) hrow]; exact t2
      obtain ⟨ao', n', cap', ha, hof⟩ := hL.mid.cd
      have d2 := ha.c2
      have e2 := ha.f2
      have hlc := ha.lt
      have HM2 := Lib.hid (hL.mid.name (fun h => h.2.1 rfl) (by omega) (fun _ h => h.elim) u3 (nameB i))
      have CALL := Lib.hid (field_any i hi22 HM2.out (fun _ => hL.zero i hi22 (all_nodup k q i hi)) (fun _ h => h.elim) (fun h => by cases h) (fun _ => ⟨fun h => h.2.2 rfl, HFZ6.out⟩) (by omega) (by omega) (by have := hL.len; have := HLN.out; omega))
      have hcf := run_code i hi22
      have HII := Lib.hid hi
      have HBY := Lib.hid (show Bytes lr from (ha.rd rfl).1.lt)
      clear hL ha hof hsafe hrow t1 t2 hcu hi
      go_wp2_with fail
      refine CALL.out.mono ?_
      rintro e w8 he
      unfold FieldEnd at he
      rw [step_r] at he
      cases hdec : (fd i).cod.dec lr with
      | none =>
        rw [hdec] at he
        obtain ⟨hs8, a, q1, q2, rfl, q3, q4⟩ := he
        have HEND := Lib.hid (msg_bad HK1.out HK2.out HL.out HII.out hdec HBA.out hs8 u4 (by omega) ⟨a, q1, q2, rfl, q3, q4⟩)
        clear hs8 q1 q2 q3 q4 c0 c1 c2 d2 e2 hcf
        exact ⟨rfl, HEND.out⟩
      | some p =>
        obtain ⟨a, r⟩ := p
        rw [hdec] at he
        obtain ⟨rfl, hm8⟩ := he
        have hlen : r.length ≤ lr.length := by
          have := congrArg List.length ((fd i).good.of _ _ _ HBY.out hdec).2
          rw [List.length_append] at this; omega
        have HNX := Lib.hid (HL.out.next HII.out hdec hlen hm8)
        clear hm8 c0 c1 c2 d2 e2 hcf hdec
        go_wp2_with fail
        go_roundw
        case rel => exact ⟨q + 1, nameB i, r, _, by omega, by go_num, HNX.out⟩
        case measure => simp [intOf]; omega
    · obtain rfl : q = La := by omega
      have hok : readAll (all_ k) (Ms.zero k) l = .ok (m, lr) := by
        rw [hL.all, List.drop_of_length_le (by rw [HLA.out]; exact Nat.le_refl _)]; rfl
      have HOK := Lib.hid (decBody_ok HK1.out HK2.out hok)
      obtain ⟨ao', n', cap', ha, hof⟩ := hL.mid.cd
      have d1 := ha.c1
      have d2 := ha.c2
      have e2 := ha.f2
      have hlc := ha.lt
      have hln := ha.len
      have hle' := ha.le
      have hmx' := ha.max
      have HM2 := Lib.hid (hL.mid.name (fun h => h.2.1 rfl) (by omega) (fun _ h => h.elim) u3 ⟨#[98, 111, 100, 121]⟩)
      have HZA := Lib.hid (ha.name ⟨#[98, 111, 100, 121]⟩ (fun _ => (ha.rd rfl).2.1))
      have HL2 := Lib.hid hL
      clear ha hof hL hok
      by_cases hlr : lr = []
      · subst hlr
        have hn0 : n' = 0 := by simpa using hln.symm
        subst hn0
        clear hln
        have HRG := Lib.hid (cellsAt_range HM2.out.to)
        have HSZ : Hid ((Tryz.prog.info? 52).map (·.size) = some (cellsAt (wr.setCell ⟨gc, 2, none⟩ (.string ⟨#[98, 111, 100, 121]⟩)) gm).length) := Lib.hid (by rw [cellsAt_len]; exact msg_size)
        have HSZ2 : Hid ((Tryz.prog.info? 52).map (·.size) = some (cellsAt (wr.setCell ⟨gc, 2, none⟩ (.string ⟨#[98, 111, 100, 121]⟩)) gm).toArray.size) := Lib.hid (by rw [List.size_toArray, cellsAt_len]; exact msg_size)
        have HHO : Hid ((noughtCs 0 0 0).size = (cellsAt (wr.setCell ⟨gc, 2, none⟩ (.string ⟨#[98, 111, 100, 121]⟩)) gm).toArray.size) := Lib.hid (Eq.trans (b := 49) rfl (by simp [cellsAt_len]))
        have HRZ : Hid ((wr.setCell ⟨gc, 2, none⟩ (.string ⟨#[98, 111, 100, 121]⟩)).heap[w.heap.size]? = some (.cells (noughtCs 0 0 0) 52 (0, 0))) := Lib.hid ((HM2.out.safe.toSafe.block w.heap.size ⟨by have := HBA.out.size; omega, by omega, by omega⟩).trans HRR6.out)
        have HONE := Lib.hid (cellsAt_one HM2.out.to)
        have HEND := Lib.hid (msg_read (HOK.out.trans (if_pos rfl)) HBA.out HM2.out u4 (by omega) (by omega))
        clear hlc hle' hmx'
        go_wp2_with (first
          | (go_at_call 69; refine (need_yes _ _).mono ?_; rintro e w' ⟨rfl, rfl⟩)
          | (refine wpList_value rfl _ (exec_load 52 (.tmp 3) rfl rfl (run_loadAt_mid _ gm 0 52 (cellsAt (wr.setCell ⟨gc, 2, none⟩ (.string ⟨#[98, 111, 100, 121]⟩)) gm) _ HRG.out Tryz.underlying52 rfl HSZ.out)) ?_)
          | (refine wpList_store_row rfl 52 (.tmp 2) (.tmp 51) rfl w.heap.size (cellsAt (wr.setCell ⟨gc, 2, none⟩ (.string ⟨#[98, 111, 100, 121]⟩)) gm).toArray rfl rfl 52 (noughtCs 0 0 0) HRZ.out HSZ2.out HHO.out HONE.out ?_))
        refine bodyPost_ret (results_cell_row rfl _ _ w.heap.size 52 (cellsAt (wr.setCell ⟨gc, 2, none⟩ (.string ⟨#[98, 111, 100, 121]⟩)) gm).toArray (0, 0) _ rfl (setRow_heap _ _ _ _ _ _ HRZ.out) Tryz.underlying52 rfl HSZ2.out) rfl ?_
        exact HEND.out
      · have hn0 : ((n' : Int) == 0) = false := by
          have : lr.length ≠ 0 := fun h => hlr (List.eq_nil_of_length_eq_zero h)
          simp; omega
        have hde : decBody (k :: l) = .error (44, "body") := by rw [HOK.out, if_neg hlr]
        have HDE := Lib.hid hde
        have NO := Lib.hid (need_no gc true ⟨#[98, 111, 100, 121]⟩ _ HZA.out.c0 HZA.out.c2)
        have HSAFE := Lib.hid HM2.out.safe
        clear hde hln hle' hmx'
        go_wp2_with (go_at_call 69; refine NO.out.mono ?_; rintro e w' ⟨rfl, rfl⟩)
        have hsz := HSAFE.out.size
        have h6 := HBA.out.size
        have HEND : Hid (MsgEnd (k :: l) w _ _) := Lib.hid (msg_long HDE.out HBA.out HSAFE.out u4 (by omega))
        refine ⟨rfl, ?_⟩
        first
          | exact HEND.out
          | simpa using HEND.out
end Go.Proofs.YtngcbpgafjnfaaaGreatDoor
