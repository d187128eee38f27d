/- The inbox: what waits; New, Len, Put where there is no room, Take of none; bytes.Clone. -/
import Derived.Test.YtjhdlohcjodgjaaLawN
namespace Go.Proofs.Ytjhdlohcjodgjaa
open Go.RowKit
set_option linter.unusedVariables false

/-- a packet: its number, from, to, where its bytes lie, their room, the bytes -/
structure Pkt where
  id : Nat
  fr : Int
  to : Int
  ao : Option Addr
  cap : Nat
  data : List Nat
abbrev Pkt.sl (p : Pkt) : Value := .slice p.ao p.data.length p.cap
abbrev Pkt.list (p : Pkt) : List Value := [.int .u64 (p.id : Int), .int .i64 p.fr, .int .i64 p.to, p.sl]
abbrev pl (Q : List Pkt) : List Value := fl Pkt.list Q
theorem pl_len (Q : List Pkt) : (pl Q).length = Q.length * 4 := fl_len (c := Pkt.list) (z := 4) (fun _ => rfl) Q
theorem pl_at (Q : List Pkt) (j i : Nat) (h : i < 4) : (pl Q)[j * 4 + i]? = Q[j]?.bind fun t => t.list[i]? := fl_at (c := Pkt.list) (z := 4) (fun _ => rfl) Q j i h
/-- an inbox at hb: its room, and what waits -/
structure InbW (w : World) (B hb : Nat) (aW : Option Addr) (cW room : Nat) (Q : List Pkt) : Prop where
  row : w.heap[hb]? = some (.cells #[.int .i64 (room : Int), .slice aW Q.length cW] 83 (0, 0))
  own : w.ownsRow B 32 4 (.slice aW Q.length cW) Q.length (pl Q)
  base : B ≤ hb
  ne : hb ∉ blk aW
  ok : 1 ≤ room ∧ room ≤ 256
  few : Q.length ≤ room
  fine : ∀ p ∈ Q, Rd w p.ao p.data ∧ p.id < 18446744073709551616 ∧ ∀ g ∈ blk p.ao, B ≤ g ∧ g < w.heap.size ∧ g ≠ hb ∧ g ∉ blk aW
section
variable {w w' : World} {B hb cW room : Nat} {aW : Option Addr} {Q : List Pkt}
theorem InbW.hlt (h : InbW w B hb aW cW room Q) : hb < w.heap.size := (Array.getElem?_eq_some_iff.1 h.row).1
theorem InbW.at_ (h : InbW w B hb aW cW room Q) (i : Nat) : w.cell? ⟨hb, i, none⟩ = (#[.int .i64 (room : Int), .slice aW Q.length cW] : Array Value)[i]? := cell_of_row w hb i _ _ (0, 0) h.row
theorem InbW.fr (h : InbW w B hb aW cW room Q) (i : Nat) : w.frozen? ⟨hb, i, none⟩ = false := frozen_of_row w hb i _ _ h.row
theorem InbW.keep {U : List Nat} (h : InbW w B hb aW cW room Q) (k : Keep U w w') (h1 : hb ∉ U) (h2 : ∀ g ∈ blk aW, g ∉ U) (h3 : ∀ p ∈ Q, ∀ g ∈ blk p.ao, g ∉ U) : InbW w' B hb aW cW room Q := by
  refine ⟨(k.block hb h.hlt h1).trans h.row, owns_keep h.own k (blk_own _ _ _ h2), h.base, h.ne, h.ok, h.few, fun p hp => ?_⟩
  obtain ⟨a, b, c⟩ := h.fine p hp
  exact ⟨a.keep k (h3 p hp), b, fun g hg => by obtain ⟨c1, c2, c3, c4⟩ := c g hg; exact ⟨c1, Nat.lt_of_lt_of_le c2 k.size, c3, c4⟩⟩
theorem InbW.below (h : InbW w B hb aW cW room Q) (b : Below w.heap.size w w') : InbW w' B hb aW cW room Q := h.keep (Keep.of_below b []) (by simp) (by simp) (by simp)
theorem InbW.new (w : World) (B room : Nat) (hB : B ≤ w.heap.size) (hok : 1 ≤ room ∧ room ≤ 256) : InbW (w.alloc (.cells #[.int .i64 (room : Int), .slice none 0 0] 83)) B w.heap.size none 0 room [] :=
  ⟨heap_alloc_new w _, ⟨rfl, .inl ⟨rfl, rfl⟩⟩, hB, by simp [blk], hok, by simp, by simp⟩
theorem inew_no (r : Int) (h : roomB r = false) (w : World) : Calls Try.prog 9 #[.int .i64 r] w fun e w' => e = .returned (.tuple #[.pointer none, .int .i64 1]) ∧ w = w' := by
  have C1 := Lib.hid (isroom_any r)
  rw [h] at C1
  clear h
  go_enter Try.func9, Try.ntmps9
  go_wp2_with (go_at_call 28; refine (C1.out _).mono ?_; rintro e w1 ⟨rfl, rfl⟩)
  go_ret2
  exact ⟨rfl, rfl⟩
theorem inew_yes (room : Nat) (hok : 1 ≤ room ∧ room ≤ 256) (w : World) : Calls Try.prog 9 #[.int .i64 (room : Int)] w fun e w' =>
    ∃ hb, e = .returned (.tuple #[.pointer (some ⟨hb, 0, none⟩), .int .i64 0]) ∧ InbW w' w.heap.size hb none 0 room [] ∧ Below w.heap.size w w' := by
  have C1 := Lib.hid (isroom_any (room : Int))
  rw [show roomB (room : Int) = true by unfold roomB; simp; omega] at C1
  have HN := Lib.hid (InbW.new w w.heap.size room (Nat.le_refl _) hok)
  clear hok
  go_enter Try.func9, Try.ntmps9
  go_wp2_with (go_at_call 28; refine (C1.out _).mono ?_; rintro e w1 ⟨rfl, rfl⟩)
  go_ret2
  exact ⟨_, rfl, HN.out, below_alloc (Below.refl _ _) _⟩
theorem ilen_any (w : World) (h : InbW w B hb aW cW room Q) : Calls Try.prog 13 #[.pointer (some ⟨hb, 0, none⟩)] w fun e w' => e = .returned (.int .i64 (Q.length : Int)) ∧ w = w' := by
  have c1 := h.at_ 1
  simp only [List.getElem?_toArray, List.getElem?_cons_succ, List.getElem?_cons_zero] at c1
  have hlt := h.hlt
  clear h
  go_enter Try.func13, Try.ntmps13
  go_wp2_with fail
  go_ret
  exact ⟨rfl, rfl⟩
theorem itake_none (w : World) (h : InbW w B hb aW cW room []) : Calls Try.prog 11 #[.pointer (some ⟨hb, 0, none⟩)] w fun e w' => e = .returned (.tuple #[.agg #[.int .u64 0, .int .i64 0, .int .i64 0, .slice none 0 0], .bool false]) ∧ Below w.heap.size w w' := by
  have HL := Lib.hid (ilen_any _ (h.below (below_alloc (Below.refl _ _) (.cells #[.int .u64 0, .int .i64 0, .int .i64 0, .slice none 0 0] 32))))
  clear h
  go_enter Try.func11, Try.ntmps11
  go_wp2_with fail
  refine HL.out.mono ?_; rintro e w1 ⟨rfl, rfl⟩
  go_wp2_with fail
  refine bodyPost_ret (v := .tuple #[.agg #[.int .u64 0, .int .i64 0, .int .i64 0, .slice none 0 0], .bool false]) (results_cell_tmp Try.results11 rfl ?_ rfl) rfl ⟨rfl, ?_⟩
  · go_simp
  · exact below_alloc (Below.refl _ _) _
end
theorem beql_nil (w : World) (ao : Option Addr) (n c : Nat) : (binOp .eql 30 (.slice ao n c) (.slice none 0 0)).run Try.prog w = .ok (.bool ao.isNone) w :=
  Lib.run_eql_slice_nil w _ 5 ao n c 0 0 Try.underlying30
set_option maxHeartbeats 2000000 in
theorem clone_any (ao : Option Addr) (n cap : Nat) (l : List Nat) (hl : l.length = n) (hn : n ≤ 140737488355328) (w : World) (hr : Rd w ao l) :
    Calls Try.prog 29 #[.slice ao n cap] w fun e w' => ∃ ao' cap', e = .returned (.slice ao' n cap') ∧ Own w' w.heap.size ao' n cap' l ∧ Below w.heap.size w w' := by
  have HR := Lib.hid hr; have HL := Lib.hid hl
  clear hr hl
  have hnil := beql_nil w ao n cap
  cases ao with
  | none =>
    have hl0 : l = [] := by
      cases l with
      | nil => rfl
      | cons a t => obtain ⟨g, o, e, _⟩ := HR.out.at_ 0 (by simp); cases e
    subst hl0
    go_enter Try.func29, Try.ntmps29
    go_wp2_with fail
    go_ret
    obtain rfl : n = 0 := HL.out.symm
    exact ⟨none, 0, rfl, Own.nil _ _, Below.refl _ _⟩
  | some a =>
    go_enter Try.func29, Try.ntmps29
    go_wp2_with (at_builtin; refine wpList_app rfl (.tmp 5) (.tmp 6) rfl rfl (Own.none' w w.heap.size (Nat.le_refl _)) rfl (HR.out.below (below_alloc (Below.refl _ _) _)) HL.out (by simp) (by omega) ?_; intro ao2 cap2 w2 hown2 hk2 hn2)
    have hb2 := (Own.none' w w.heap.size (Nat.le_refl _)).step (below_alloc (Below.refl _ _) _) (by simp) hk2
    go_ret
    rw [Nat.zero_add, List.nil_append] at hown2
    exact ⟨ao2, cap2, rfl, hown2, hb2⟩
end Go.Proofs.Ytjhdlohcjodgjaa
