/- NetPlays: the document's net: a list of packets, each with bytes of its own. -/
import Derived.Test.YthanjfnpohhebaaUni
import Derived.Deep.CutRange
import Derived.Deep.AppendLies
namespace Go.Proofs.Ythanjfnpohhebaa
open Go.RowKit Go.Sort
set_option linter.unusedVariables false
set_option linter.unusedSimpArgs false

abbrev Pkt.list (p : Pkt) : List Value := [.int .u64 (p.id : Int), .int .i64 p.fr, .int .i64 p.to, p.sl]
theorem list_len (p : Pkt) : p.list.length = 4 := rfl
abbrev rowR (room last : Nat) (lo : Option Addr) (n lc : Nat) (T : Tr) : Array Value := #[.int .i64 (room : Int), .int .u64 (last : Int), .slice lo n lc, .int .i64 (T.sent : Int), .int .i64 (T.twice : Int), .int .i64 (T.spoilt : Int), .int .i64 (T.taken : Int), .int .i64 (T.lost : Int)]
theorem row_keep {S : List Nat} {w w' : World} {bx : Nat} {o : Obj} (h : w.heap[bx]? = some o) (k : Keep S w w') (hn : bx ∉ S) : w'.heap[bx]? = some o := (k.block bx (Array.getElem?_eq_some_iff.1 h).1 hn).trans h
structure RnW (w : World) (B nb : Nat) (lo : Option Addr) (lc : Nat) (D : List Pkt) (room last : Nat) (T : Tr) : Prop where
  row : w.heap[nb]? = some (.cells (rowR room last lo D.length lc T) 35 (0, 0))
  base : B ≤ nb
  own : w.ownsRow B 52 4 (.slice lo D.length lc) D.length (fl Pkt.list D)
  pk : PkW w B D
  n1 : nb ∉ blk lo
  n2 : nb ∉ bs D
  n3 : ∀ g ∈ blk lo, g ∉ bs D
  lens : ∀ p ∈ D, p.data.length ≤ 65546
  few : D.length ≤ 4096
/-- the blocks of it -/
abbrev rnB (nb : Nat) (lo : Option Addr) (D : List Pkt) : List Nat := nb :: (blk lo ++ bs D)
def Rn (w : World) (B nb : Nat) (Bs : List Nat) (D : List Pkt) (room last : Nat) (T : Tr) : Prop := ∃ lo lc, Bs = rnB nb lo D ∧ RnW w B nb lo lc D room last T
section
variable {w w' : World} {B nb lc room last : Nat} {lo : Option Addr} {D : List Pkt} {T : Tr} {Bs : List Nat}
theorem RnW.lt (h : RnW w B nb lo lc D room last T) : nb < w.heap.size := (Array.getElem?_eq_some_iff.1 h.row).1
theorem RnW.blocks (h : RnW w B nb lo lc D room last T) : ∀ g ∈ rnB nb lo D, B ≤ g ∧ g < w.heap.size := fun g hg => by
  rcases List.mem_cons.1 hg with rfl | hg
  · exact ⟨h.base, h.lt⟩
  · rcases List.mem_append.1 hg with hg | hg
    · exact owns_blk h.own g hg
    · exact h.pk.lt g hg
theorem RnW.keep {U : List Nat} (h : RnW w B nb lo lc D room last T) (k : Keep U w w') (hU : ∀ g ∈ rnB nb lo D, g ∉ U) : RnW w' B nb lo lc D room last T :=
  ⟨row_keep h.row k (hU nb (List.mem_cons_self ..)), h.base, owns_keep h.own k (blk_own _ _ _ fun g hg => hU g (List.mem_cons_of_mem _ (List.mem_append.2 (.inl hg)))), h.pk.keep k (fun g hg => hU g (List.mem_cons_of_mem _ (List.mem_append.2 (.inr hg)))), h.n1, h.n2, h.n3, h.lens, h.few⟩
theorem RnW.below (h : RnW w B nb lo lc D room last T) (b : Below w.heap.size w w') : RnW w' B nb lo lc D room last T := h.keep (Keep.of_below b []) (by simp)
theorem Rn.blocks (h : Rn w B nb Bs D room last T) : ∀ g ∈ Bs, B ≤ g ∧ g < w.heap.size := by
  obtain ⟨lo, lc, rfl, h⟩ := h
  exact h.blocks
theorem Rn.keep {U : List Nat} (h : Rn w B nb Bs D room last T) (k : Keep U w w') (hU : ∀ g ∈ Bs, g ∉ U) : Rn w' B nb Bs D room last T := by
  obtain ⟨lo, lc, rfl, h⟩ := h
  exact ⟨lo, lc, rfl, h.keep k hU⟩
theorem Rn.below (h : Rn w B nb Bs D room last T) (b : Below w.heap.size w w') : Rn w' B nb Bs D room last T := h.keep (Keep.of_below b []) (by simp)
theorem RnW.at_ (h : RnW w B nb lo lc D room last T) (i : Nat) : w.cell? ⟨nb, i, none⟩ = (rowR room last lo D.length lc T)[i]? := cell_of_row w nb i _ _ (0, 0) h.row
theorem owns_cellz {B : Nat} {e : TypeId} {z n : Nat} {ao : Option Addr} {cap : Nat} {xs : List Value} (ho : w.ownsRow B e z (.slice ao n cap) n xs) (j : Nat) (hj : j < n * z) : ∃ g v, ao = some ⟨g, 0, none⟩ ∧ g < w.heap.size ∧ B ≤ g ∧ xs[j]? = some v ∧ w.cell? ⟨g, j, none⟩ = some v ∧ w.frozen? ⟨g, j, none⟩ = false := by
  have hl := ho.1
  rcases ho.2 with ⟨h2, h3⟩ | ⟨g, cap', cur, h2, hb, hg, h3, h4, h5, h6⟩
  · subst h3; simp at hj
  · cases h2
    have hj2 : j < xs.length := by omega
    refine ⟨g, xs[j], rfl, (Array.getElem?_eq_some_iff.1 hg).1, hb, List.getElem?_eq_getElem hj2, ?_, frozen_of_row w g j cur _ hg⟩
    rw [cell_of_row w g j cur _ (0, 0) hg]
    have := congrArg (·[j]?) h6
    simp only [List.getElem?_take] at this
    rw [if_pos (by omega), Array.getElem?_toList] at this
    rw [this, List.getElem?_eq_getElem hj2]
/-- packet j of the list -/
theorem RnW.pkt (h : RnW w B nb lo lc D room last T) {j : Nat} {p : Pkt} (hj : D[j]? = some p) : ∃ g, lo = some ⟨g, 0, none⟩ ∧ g < w.heap.size ∧ ∀ q, q < 4 → w.cell? ⟨g, j * 4 + q, none⟩ = p.list[q]? := by
  have hl := (List.getElem?_eq_some_iff.1 hj).1
  obtain ⟨g, e1, _, _, _, e5⟩ := owns_none h.own (by omega)
  refine ⟨g, e1, e5, fun q hq => ?_⟩
  obtain ⟨g2, v, e6, _, _, e7, e8, _⟩ := owns_cellz h.own (j * 4 + q) (by omega)
  rw [e1] at e6
  simp only [Option.some.injEq, Addr.mk.injEq, and_true] at e6
  subst e6
  rw [e8, ← e7, fl_at list_len D j q hq, hj]
  rfl
end
/-- where a packet stands -/
def At (D : List Pkt) (id k : Nat) (p : Pkt) : Prop := D[k]? = some p ∧ p.id = id ∧ ∀ j q, j < k → D[j]? = some q → q.id ≠ id
def Nowhere (D : List Pkt) (id : Nat) : Prop := ∀ p ∈ D, p.id ≠ id
theorem at_or (D : List Pkt) (id : Nat) : (∃ k p, At D id k p) ∨ Nowhere D id := by
  induction D with
  | nil => exact .inr (by intro p hp; cases hp)
  | cons x D ih =>
    by_cases e : x.id = id
    · exact .inl ⟨0, x, rfl, e, fun j q hj => by omega⟩
    · rcases ih with ⟨k, p, h1, h2, h3⟩ | h
      · refine .inl ⟨k + 1, p, h1, h2, fun j q hj hq => ?_⟩
        cases j with
        | zero => simp at hq; rw [← hq]; exact e
        | succ j => exact h3 j q (by omega) (by simpa using hq)
      · refine .inr fun p hp => ?_
        rcases List.mem_cons.1 hp with rfl | hp
        · exact e
        · exact h p hp
set_option maxHeartbeats 2000000 in
theorem place_yes {w : World} {B nb lc room last id k : Nat} {lo : Option Addr} {D : List Pkt} {T : Tr} {p : Pkt} (h : RnW w B nb lo lc D room last T) (hat : At D id k p) :
    Calls Try.prog 25 #[.pointer (some ⟨nb, 0, none⟩), .int .u64 (id : Int)] w fun e w' => e = .returned (.int .i64 (k : Int)) ∧ w = w' := by
  have HAT := Lib.hid hat
  have H := Lib.hid h
  have y2 := h.at_ 2
  simp only [List.getElem?_toArray, List.getElem?_cons_zero, List.getElem?_cons_succ] at y2
  obtain ⟨m, hm⟩ : ∃ m, D.length = m := ⟨_, rfl⟩
  have hkm : k < m := by rw [← hm]; exact (List.getElem?_eq_some_iff.1 hat.1).1
  have hmb : m ≤ 4096 := by rw [← hm]; exact h.few
  have hmi : (m : Int) ≤ 4096 := by omega
  rw [hm] at y2
  have HM := Lib.hid hm
  clear h hat hm
  go_enter Try.func25, Try.ntmps25
  go_wp2_with fail
  go_loopw [5] (fun v5 wr => ∃ j : Nat, v5 = .int .i64 (j : Int) ∧ j ≤ k ∧ wr = w) (fun v5 _ => m - (intOf v5).toNat)
  case atStart => exact ⟨0, rfl, Nat.zero_le _, rfl⟩
  case round =>
    obtain ⟨j, rfl, hj, rfl⟩ := hrel
    obtain ⟨q, hq⟩ : ∃ q, D[j]? = some q := ⟨_, List.getElem?_eq_getElem (by rw [HM.out]; omega)⟩
    obtain ⟨g, rfl, _, hc⟩ := H.out.pkt hq
    have c0 := hc 0 (by omega)
    simp only [List.getElem?_cons_zero, Nat.add_zero] at c0
    have hji : (j : Int) < (m : Int) := by omega
    have hj0 : (0 : Int) ≤ (j : Int) := by omega
    by_cases e : j = k
    · subst e
      have hid : q.id = id := by have := HAT.out.1; rw [hq] at this; cases this; exact HAT.out.2.1
      rw [hid] at c0
      clear hc hq hid
      go_wp2_with fail
      go_ret
      exact ⟨rfl, rfl⟩
    · have hne := HAT.out.2.2 j q (by omega) hq
      have hnd : ¬ ((q.id : Int) = (id : Int)) := by omega
      have hjk : j < k := by omega
      clear hc hq hne e
      obtain ⟨qi, hqi⟩ : ∃ z : Int, (q.id : Int) = z := ⟨_, rfl⟩
      obtain ⟨ii, hii⟩ : ∃ z : Int, (id : Int) = z := ⟨_, rfl⟩
      rw [hqi] at c0
      rw [hqi, hii] at hnd
      rw [hii]
      clear hqi
      go_wp2_with fail
      go_roundw
      case rel => exact ⟨j + 1, by go_num, by omega, trivial⟩
      case measure => simp [intOf]; omega
set_option maxHeartbeats 2000000 in
theorem place_no {w : World} {B nb lc room last id : Nat} {lo : Option Addr} {D : List Pkt} {T : Tr} (h : RnW w B nb lo lc D room last T) (hat : Nowhere D id) :
    Calls Try.prog 25 #[.pointer (some ⟨nb, 0, none⟩), .int .u64 (id : Int)] w fun e w' => e = .returned (.int .i64 (-1)) ∧ w = w' := by
  have HAT := Lib.hid hat
  have H := Lib.hid h
  have y2 := h.at_ 2
  simp only [List.getElem?_toArray, List.getElem?_cons_zero, List.getElem?_cons_succ] at y2
  obtain ⟨m, hm⟩ : ∃ m, D.length = m := ⟨_, rfl⟩
  have hmb : m ≤ 4096 := by rw [← hm]; exact h.few
  have hmi : (m : Int) ≤ 4096 := by omega
  rw [hm] at y2
  have HM := Lib.hid hm
  clear h hat hm
  obtain ⟨ii, hii⟩ : ∃ z : Int, (id : Int) = z := ⟨_, rfl⟩
  rw [hii]
  have HII := Lib.hid hii
  clear hii
  go_enter Try.func25, Try.ntmps25
  go_wp2_with fail
  go_loopw [5] (fun v5 wr => ∃ j : Nat, v5 = .int .i64 (j : Int) ∧ j ≤ m ∧ wr = w) (fun v5 _ => m - (intOf v5).toNat)
  case atStart => exact ⟨0, rfl, Nat.zero_le _, rfl⟩
  case round =>
    obtain ⟨j, rfl, hj, rfl⟩ := hrel
    by_cases e : j < m
    · obtain ⟨q, hq⟩ : ∃ q, D[j]? = some q := ⟨_, List.getElem?_eq_getElem (by rw [HM.out]; omega)⟩
      obtain ⟨g, rfl, _, hc⟩ := H.out.pkt hq
      have c0 := hc 0 (by omega)
      simp only [List.getElem?_cons_zero, Nat.add_zero] at c0
      have hji : (j : Int) < (m : Int) := by omega
      have hj0 : (0 : Int) ≤ (j : Int) := by omega
      have hne := HAT.out q (List.mem_of_getElem? hq)
      have hnd : ¬ ((q.id : Int) = ii) := by rw [← HII.out]; omega
      clear hc hq hne
      obtain ⟨qi, hqi⟩ : ∃ z : Int, (q.id : Int) = z := ⟨_, rfl⟩
      rw [hqi] at c0 hnd
      clear hqi
      go_wp2_with fail
      go_roundw
      case rel => exact ⟨j + 1, by go_num, by omega, trivial⟩
      case measure => simp [intOf]; omega
    · obtain rfl : j = m := by omega
      go_wp2_with fail
      go_ret
      exact ⟨rfl, rfl⟩
end Go.Proofs.Ythanjfnpohhebaa
