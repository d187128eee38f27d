/- A message that is zero but for its kind, from and to: its cells (gen_awake.py). The message of a body is read: what is needed for the walk. -/
import Derived.Test.YtngcbpgafjnfaaaGreatDoorLoB24
import Derived.Test.YtngcbpgafjnfaaaGreatDoorLoB16
import Derived.Deep.Cut
set_option linter.unusedSimpArgs false
set_option linter.unusedVariables false

namespace Go.Proofs.YtngcbpgafjnfaaaGreatDoor
open Go.RowKit
set_option linter.unusedVariables false

theorem z_int (s m : Nat) (w : World) (N : Nat → Prop) : (intK s m).is w N [.int .i64 0] 0 := ⟨rfl, by unfold I64; omega⟩
theorem z_nat (k : IntKind) (s m : Nat) (w : World) (N : Nat → Prop) : (natK k s m).is w N [.int k 0] 0 := ⟨rfl, by cases k <;> decide⟩
theorem z_flag (w : World) (N : Nat → Prop) : flagK.is w N [.bool false] false := rfl
theorem z_text (m : Nat) (w : World) (N : Nat → Prop) : (textK m).is w N [.string ByteArray.empty] ByteArray.empty := ⟨rfl, by decide⟩
theorem z_list {α : Type} (k : Kd α) (m : Nat) (w : World) (N : Nat → Prop) : (listK k m).is w N [.slice none 0 0] [] := ⟨none, 0, 0, rfl, rfl, Nat.le_refl _, Nat.zero_le _, by simp⟩
theorem z_mans (w : World) (N : Nat → Prop) : mansK.is w N [.int .i64 0, .int .i64 0, .int .i64 0] [0, 0, 0] := ⟨rfl, rfl, fun x hx => by simp at hx; subst hx; unfold I64; omega⟩
theorem z_incs (w : World) (N : Nat → Prop) : incsK.is w N [.int .u32 0, .int .u32 0, .int .u32 0, .int .u32 0] [0, 0, 0, 0] := ⟨rfl, rfl, fun x hx => by simp at hx; subst hx; decide⟩
/-- cells of a row -/
theorem cells_of_row {w : World} {g o : Nat} {cs : Array Value} {t : TypeId} {part : List Value} (hrow : w.heap[g]? = some (.cells cs t (0, 0))) (h : (cs.toList.drop o).take part.length = part) : Cells w g o part := fun j u hu => by
  rw [cell_of_row w g (o + j) cs t (0, 0) hrow]
  have hj := (List.getElem?_eq_some_iff.1 hu).1
  have h2 := congrArg (·[j]?) h
  simp only [List.getElem?_take, List.getElem?_drop] at h2
  rw [if_pos hj] at h2
  rw [← Array.getElem?_toList, h2]; exact hu
def noughtCs (k f t : Int) : Array Value := #[.int .i64 k, .int .i64 f, .int .i64 t, .int .u64 0, .int .i64 0, .int .i64 0, .int .u32 0, .int .u32 0, .int .u8 0, .bool false, .int .u32 0, .int .u8 0, .string ByteArray.empty, .string ByteArray.empty, .int .u64 0, .int .i64 0, .int .i64 0, .int .i64 0, .int .i64 0, .slice none 0 0, .int .u64 0, .int .u32 0, .int .u32 0, .int .i64 0, .int .i64 0, .int .i64 0, .int .u32 0, .int .i64 0, .int .u32 0, .int .u32 0, .int .u32 0, .slice none 0 0, .int .i64 0, .int .u32 0, .int .u32 0, .slice none 0 0, .slice none 0 0, .int .u32 0, .int .u32 0, .int .u32 0, .int .u32 0, .slice none 0 0, .int .i64 0, .int .i64 0, .slice none 0 0, .int .u64 0, .int .u64 0, .int .i64 0, .slice none 0 0]
def nought (k f t : Int) : Ms := { Ms.zero k with fr := f, to := t }
theorem nought_slots (k f t : Int) (hk : I64 k) (hf : I64 f) (ht : I64 t) (w : World) (N : Nat → Prop) : Slots (w.alloc (.cells (noughtCs k f t) 52)) N w.heap.size 0 (slotsOf (nought k f t)) := by
  have hrow := heap_alloc_new w (.cells (noughtCs k f t) 52)
  generalize w.alloc (.cells (noughtCs k f t) 52) = w1 at *
  exact ⟨⟨[.int .i64 k], ⟨rfl, hk⟩, cells_of_row hrow rfl⟩, ⟨[.int .i64 f], ⟨rfl, hf⟩, cells_of_row hrow rfl⟩, ⟨[.int .i64 t], ⟨rfl, ht⟩, cells_of_row hrow rfl⟩, ⟨[.int .u64 0, .int .i64 0, .int .i64 0, .int .u32 0], ⟨[.int .u64 0], [.int .i64 0], [.int .i64 0], [.int .u32 0], rfl, z_nat .u64 8 18446744073709551615 w1 N, z_int 1 63 w1 N, z_int 1 3 w1 N, z_nat .u32 4 4294967295 w1 N⟩, cells_of_row hrow rfl⟩, ⟨[.int .u32 0, .int .u8 0], ⟨[.int .u32 0], [.int .u8 0], rfl, z_nat .u32 4 4294967295 w1 N, z_nat .u8 1 255 w1 N⟩, cells_of_row hrow rfl⟩, ⟨[.bool false, .int .u32 0, .int .u8 0, .string ByteArray.empty], ⟨[.bool false], [.int .u32 0, .int .u8 0], [.string ByteArray.empty], rfl, z_flag w1 N, ⟨[.int .u32 0], [.int .u8 0], rfl, z_nat .u32 4 4294967295 w1 N, z_nat .u8 1 255 w1 N⟩, z_text 64 w1 N⟩, cells_of_row hrow rfl⟩, ⟨[.string ByteArray.empty], z_text 64 w1 N, cells_of_row hrow rfl⟩, ⟨[.int .u64 0, .int .i64 0, .int .i64 0, .int .i64 0, .int .i64 0, .slice none 0 0], ⟨[.int .u64 0], [.int .i64 0], [.int .i64 0, .int .i64 0, .int .i64 0], [.slice none 0 0], rfl, z_nat .u64 8 18446744073709551615 w1 N, z_int 4 2147483647 w1 N, z_mans w1 N, z_list itmK 8 w1 N⟩, cells_of_row hrow rfl⟩, ⟨[.int .u64 0], z_nat .u64 8 18446744073709551615 w1 N, cells_of_row hrow rfl⟩, ⟨[.int .u32 0], z_nat .u32 4 4294967295 w1 N, cells_of_row hrow rfl⟩, ⟨[.int .u32 0], z_nat .u32 4 4294967295 w1 N, cells_of_row hrow rfl⟩, ⟨[.int .i64 0], z_int 1 63 w1 N, cells_of_row hrow rfl⟩, ⟨[.int .i64 0], z_int 1 3 w1 N, cells_of_row hrow rfl⟩, ⟨[.int .i64 0], z_int 1 3 w1 N, cells_of_row hrow rfl⟩, ⟨[.int .u32 0], z_nat .u32 4 4294967295 w1 N, cells_of_row hrow rfl⟩, ⟨[.int .i64 0], z_int 1 2 w1 N, cells_of_row hrow rfl⟩, ⟨[.int .u32 0, .int .u32 0, .int .u32 0, .slice none 0 0], ⟨[.int .u32 0], [.int .u32 0], [.int .u32 0], [.slice none 0 0], rfl, z_nat .u32 4 4294967295 w1 N, z_nat .u32 4 4294967295 w1 N, z_nat .u32 4 4294967295 w1 N, z_list entK 8 w1 N⟩, cells_of_row hrow rfl⟩, ⟨[.int .i64 0, .int .u32 0, .int .u32 0, .slice none 0 0, .slice none 0 0, .int .u32 0, .int .u32 0, .int .u32 0, .int .u32 0, .slice none 0 0], ⟨[.int .i64 0], [.int .u32 0], [.int .u32 0], [.slice none 0 0], [.slice none 0 0], [.int .u32 0, .int .u32 0, .int .u32 0, .int .u32 0], [.slice none 0 0], rfl, z_int 1 2 w1 N, z_nat .u32 4 4294967295 w1 N, z_nat .u32 4 4294967295 w1 N, z_list entK 8 w1 N, z_list lckK 64 w1 N, z_incs w1 N, z_list vtdK 64 w1 N⟩, cells_of_row hrow rfl⟩, ⟨[.int .i64 0, .int .i64 0], ⟨[.int .i64 0], [.int .i64 0], rfl, z_int 1 63 w1 N, z_int 1 64 w1 N⟩, cells_of_row hrow rfl⟩, ⟨[.slice none 0 0], z_list cpyK 64 w1 N, cells_of_row hrow rfl⟩, ⟨[.int .u64 0, .int .u64 0], ⟨[.int .u64 0], [.int .u64 0], rfl, z_nat .u64 8 18446744073709551615 w1 N, z_nat .u64 8 18446744073709551615 w1 N⟩, cells_of_row hrow rfl⟩, ⟨[.int .i64 0], z_int 1 255 w1 N, cells_of_row hrow rfl⟩, ⟨[.slice none 0 0], z_list perK 12 w1 N, cells_of_row hrow rfl⟩, trivial⟩
end Go.Proofs.YtngcbpgafjnfaaaGreatDoor


namespace Go.Proofs.YtngcbpgafjnfaaaGreatDoor
open Go.RowKit
set_option linter.unusedVariables false

section
variable {P N : Nat → Prop} {gc g : Nat} {sb : Src} {f : ByteArray} {l : List Nat} {m : Ms} {w0 w : World}
theorem grow_name (md : Bool) (P : Nat → Prop) (w0 w : World) (a : Addr) (v : Value) : Grow md P w0 (w.setCell a v) = Grow md P w0 w := by
  funext b; unfold Grow; simp [World.setCell]
/-- the coder is told another name, midway -/
theorem MidM.name (M : MidM true P N gc sb f l g m w0 w) (hP : ¬ P gc) (hg : g ≠ gc) (hN : ∀ b, N b → P b) (hlt : gc < w0.heap.size) (f' : ByteArray) :
    MidM true P N gc sb f' l g m w0 (w.setCell ⟨gc, 2, none⟩ (.string f')) := by
  have hs : Safe (fun b => b ≠ gc) w (w.setCell ⟨gc, 2, none⟩ (.string f')) := ⟨rfl, rfl, rfl, by simp [World.setCell], fun b hb => Below.heap_setCell _ ⟨gc, 2, none⟩ _ _ hb⟩
  have hcell : ∀ j, (w.setCell ⟨gc, 2, none⟩ (.string f')).cell? ⟨g, j, none⟩ = w.cell? ⟨g, j, none⟩ := fun j => hs.cell (a := ⟨g, j, none⟩) hg
  refine ⟨?_, M.safe.trans (SafeK.of (hs.mono fun b hb => by rcases hb with h | h; exact fun e => hP (e ▸ h); exact h ▸ hg)), trivial, ?_, fun j hj => (hcell j).trans (M.out j hj), fun j => ?_⟩
  · rw [grow_name]; exact M.cd.name f'
  · rw [grow_name]
    exact slots_safe M.to (slotsOf_fine m) hs hg (fun b hb e => by
      subst e
      rcases hb with h | ⟨_, h1, _⟩
      · exact hP (hN _ h)
      · omega) fun b hb => hb
  · rw [World.frozen?_setCell]; exact M.fz j
end

/-- what is read of a body from the q-th field on -/
theorem readAll_drop (kd q i : Nat) (hi : (all_ kd)[q]? = some i) (m : Ms) (l : List Nat) :
    readAll ((all_ kd).drop q) m l = match (fd i).cod.dec l with
      | none => .error i
      | some (a, r) => readAll ((all_ kd).drop (q + 1)) ((fd i).set m a) r := by
  have hq : q < (all_ kd).length := (List.getElem?_eq_some_iff.1 hi).1
  have hd : (all_ kd).drop q = i :: (all_ kd).drop (q + 1) := by
    rw [List.drop_eq_getElem_cons hq]
    congr 1
    rw [List.getElem?_eq_getElem hq] at hi
    exact Option.some.inj hi
  rw [hd]; rfl
theorem all_nodup (kd q i : Nat) (hi : (all_ kd)[q]? = some i) : i ∉ (all_ kd).take q := by
  have hn : (all_ kd).Nodup := uses_nodup kd
  intro hm
  obtain ⟨p, hp, e⟩ := List.mem_iff_getElem.1 hm
  rw [List.getElem_take] at e
  have hp2 : p < q := by have := hp; rw [List.length_take] at this; omega
  have hq : q < (all_ kd).length := (List.getElem?_eq_some_iff.1 hi).1
  rw [List.getElem?_eq_getElem hq] at hi
  exact List.pairwise_iff_getElem.1 hn p q (by omega) hq hp2 (e.trans (Option.some.inj hi).symm)
/-- the table's cells -/
theorem table_name (k : Nat) (hk : k < 22) : tableCells[k * 2]? = some (.string (nameB k)) ∧ tableCells[k * 2 + 1]? = some (.func (.func (codeFn k)) #[] #[]) := by
  rcases fd_cases hk with rfl | rfl | rfl | rfl | rfl | rfl | rfl | rfl | rfl | rfl | rfl | rfl | rfl | rfl | rfl | rfl | rfl | rfl | rfl | rfl | rfl | rfl <;> exact ⟨by kernel_rfl, by kernel_rfl⟩
/-- a message's cells at another place -/
theorem slots_move {w w2 : World} {N : Nat → Prop} {g g2 : Nat} (hs : Safe N w w2) : ∀ {L : List Slot}, Slots w N g 0 L → AllFine L → (∀ s ∈ L, s.off + s.sz ≤ 49) → (∀ j, j < 49 → w2.cell? ⟨g2, j, none⟩ = w.cell? ⟨g, j, none⟩) → Slots w2 N g2 0 L
  | [], _, _, _, _ => trivial
  | s :: L, h, hf, hl, hc => by
    obtain ⟨⟨cs, h1, h2⟩, h3⟩ := h
    have hsz := hf.1.size _ _ _ h1
    have h49 := hl s (by simp)
    refine ⟨⟨cs, hf.1.safe _ _ _ _ _ h1 hs fun _ hb => hb, fun j u hu => ?_⟩, slots_move hs h3 hf.2 (fun t ht => hl t (by simp [ht])) hc⟩
    have hj := (List.getElem?_eq_some_iff.1 hu).1
    rw [hc _ (by omega)]; exact h2 j u hu
theorem slots_in (m : Ms) : ∀ s ∈ slotsOf m, s.off + s.sz ≤ 49 := by
  intro s hs
  have : ((slotsOf m).all fun s => Nat.ble (s.off + s.sz) 49) = true := rfl
  exact Nat.le_of_ble_eq_true (List.all_eq_true.1 this s hs)

/-- a message has been read off these bytes; or the fault -/
def MsgEnd (b : List Nat) (w : World) (e : Ending) (w' : World) : Prop :=
  match decBody b with
  | .ok m => ∃ (cs : Array Value) (N : Nat → Prop), e = .returned (.agg cs) ∧ cs.size = 49 ∧ Below w.heap.size w w' ∧ (∀ q, N q → w.heap.size ≤ q ∧ q < w'.heap.size) ∧ Slots (w'.alloc (.cells cs 52)) N w'.heap.size 0 (slotsOf m)
  | .error (n, s) => Below w.heap.size w w' ∧ ∃ f, f = s.toUTF8 ∧ GaveN n f e w w'

theorem bytes_name : "body".toUTF8 = ⟨#[98, 111, 100, 121]⟩ ∧ "kind".toUTF8 = ⟨#[107, 105, 110, 100]⟩ := ⟨by kernel_rfl, by kernel_rfl⟩

set_option maxRecDepth 100000 in
set_option maxHeartbeats 4000000 in
theorem msgof_none (bo : Option Addr) (cap : Nat) (w : World) : Calls Tryz.prog 41 #[.slice bo 0 cap] w (MsgEnd [] w) := by
  have HN := Lib.hid bytes_name.1
  go_enter Tryz.func41, Tryz.ntmps41
  go_wp2_with (go_at_call 35; refine (giveup_any _ _ _).mono ?_; rintro e w' ⟨rfl, rfl⟩)
  refine ⟨rfl, ?_⟩
  refine ⟨below_alloc (below_alloc (Below.refl _ _) _) _, _, HN.out.symm, w.heap.size + 1, by omega, by simp, by simp, by go_simp, by go_simp⟩

/-- the cells of a message that is zero but for its kind -/
theorem nought_one (k : Int) : (noughtCs k 0 0).all (·.oneCell') = true := by
  have h : ∀ v : Value, v ∈ (noughtCs k 0 0).toList → v.oneCell' = true := by
    intro v hv
    simp only [noughtCs, List.mem_cons, List.not_mem_nil, or_false] at hv
    rcases hv with rfl | hv
    · rfl
    · repeat (first | (rcases hv with rfl | hv; rfl) | (subst hv; rfl))
  rw [← Array.all_toList]
  exact List.all_eq_true.2 h
theorem msg_size : (Tryz.prog.info? 52).map (·.size) = some 49 := by kernel_rfl

set_option maxRecDepth 100000 in
set_option maxHeartbeats 4000000 in
theorem msgof_kind (g o n cap : Nat) (k : Nat) (hk : k < 1 ∨ 23 < k) (hk2 : k < 256) (hn : 1 ≤ n) (l : List Nat) (w : World) (hg : g < w.heap.size) (hc : w.cell? ⟨g, o, none⟩ = some (.int .u8 (k : Int))) :
    Calls Tryz.prog 41 #[.slice (some ⟨g, o, none⟩) n cap] w (MsgEnd (k :: l) w) := by
  have HE := Lib.hid (show decBody (k :: l) = .error (41, "kind") from if_pos hk)
  have hd := iskind_any (k : Int) (by omega) (by omega)
  have HD := Lib.hid (fun w => by have := hd w; rw [decide_eq_false (by omega)] at this; exact this)
  have HN := Lib.hid bytes_name.2
  have HO := Lib.hid (nought_one k)
  have HI := Lib.hid msg_size
  clear hd hk
  unfold MsgEnd
  rw [HE.out]
  go_enter Tryz.func41, Tryz.ntmps41
  go_upto_region 3 with fail
  have hs1 : (w.alloc (.cells (noughtCs 0 0 0) 52)).heap.size = w.heap.size + 1 := by simp
  have hb1 : Below w.heap.size w (w.alloc (.cells (noughtCs 0 0 0) 52)) := below_alloc (Below.refl _ _) _
  have hc1 := (hb1.cell (p := ⟨g, o, none⟩) hg).trans hc
  change Code.wp _ _ _ _ (w.alloc (.cells (noughtCs 0 0 0) 52))
  -- no 'generalize': the kernel would open the block's place
  obtain ⟨w1, hw1⟩ : ∃ w1, w.alloc (.cells (noughtCs 0 0 0) 52) = w1 := ⟨_, rfl⟩
  rw [hw1] at hs1 hb1 hc1 ⊢
  have HS1 := Lib.hid hs1; have HB1 := Lib.hid hb1
  clear hw1 hs1 hb1 hc
  have hcw : (w1.alloc (.cells (noughtCs k 0 0) 52)).cell? ⟨w1.heap.size, 0, none⟩ = some (.int .i64 (k : Int)) := by
    rw [cell_of_row _ _ _ _ _ (0, 0) (heap_alloc_new w1 _)]; rfl
  go_wp2_with (first | (refine wpList_store_new rfl 52 (.tmp 3) (.tmp 16) rfl (noughtCs k 0 0) rfl rfl _ HI.out rfl HO.out ?_) | (go_at_call 66; refine (HD.out _).mono ?_; rintro e w' ⟨rfl, rfl⟩) | (go_at_call 35; refine (giveup_any _ _ _).mono ?_; rintro e w' ⟨rfl, rfl⟩))
  refine ⟨rfl, ?_⟩
  have hs1 := HS1.out
  refine ⟨HB1.out.trans ((below_alloc (below_alloc (Below.refl _ _) _) _).mono (by omega)), _, HN.out.symm, w1.heap.size + 1, by omega, by simp, by simp, by go_simp, by go_simp⟩
end Go.Proofs.YtngcbpgafjnfaaaGreatDoor
