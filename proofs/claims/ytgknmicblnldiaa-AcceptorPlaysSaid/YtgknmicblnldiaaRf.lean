/- The document's table: its state; Find. -/
import Derived.Test.YtgknmicblnldiaaAny
import Derived.Deep.CutRange
namespace Go.Proofs.Ytgknmicblnldiaa
open Go.RowKit Go.Sort
set_option linter.unusedVariables false

theorem owns_at {w : World} {B : Nat} {e : TypeId} {z : Nat} {ao : Option Addr} {n cap : Nat} {xs : List Value} (ho : w.ownsRow B e z (.slice ao n cap) n xs) (i : Nat) (hi : i < n * z) : ∃ g v, ao = some ⟨g, 0, none⟩ ∧ g < w.heap.size ∧ B ≤ g ∧ xs[i]? = some v ∧ w.cell? ⟨g, i, none⟩ = some v ∧ w.frozen? ⟨g, i, none⟩ = false := by
  have hl := ho.1
  rcases ho.2 with ⟨h2, h3⟩ | ⟨g, cap', cur, h2, hb, hg, h3, h4, h5, h6⟩
  · subst h3; omega
  · cases h2
    have hi2 : i < xs.length := by omega
    refine ⟨g, xs[i], rfl, (Array.getElem?_eq_some_iff.1 hg).1, hb, List.getElem?_eq_getElem hi2, ?_, frozen_of_row w g i cur _ hg⟩
    rw [cell_of_row w g i cur _ (0, 0) hg]
    have := congrArg (·[i]?) h6
    simp only [List.getElem?_take] at this
    rw [if_pos (by omega), Array.getElem?_toList] at this
    rw [this, List.getElem?_eq_getElem hi2]
/-- an instance with what is kept of it -/
structure En where
  i : In
  r : Rw
abbrev c10 (e : En) : List Value := [.int .u64 e.i.tx, .int .i64 e.i.b, .int .i64 e.i.r, .int .u32 e.i.x, .int .u32 e.r.p.round, .int .u8 e.r.p.node, .bool e.r.a.is, .int .u32 e.r.a.b.round, .int .u8 e.r.a.b.node, .string e.r.a.v]
theorem c10_len (e : En) : (c10 e).length = 10 := rfl
def look (S : List En) (i : In) : Option Rw := (S.find? fun e => decide (e.i = i)).map (·.r)
/-- no instance twice -/
def One (S : List En) : Prop := S.Pairwise (fun p q => p.i ≠ q.i)
structure RfW (w : World) (B hb : Nat) (ao : Option Addr) (cap : Nat) (S : List En) (most : Nat) : Prop where
  row : w.heap[hb]? = some (.cells #[.int .i64 (most : Int), .slice ao S.length cap] 31 (0, 0))
  own : w.ownsRow B 61 10 (.slice ao S.length cap) S.length (fl c10 S)
  base : B ≤ hb
  apart : hb ∉ blk ao
  one : One S
  few : S.length ≤ most
  m2 : most ≤ 4096
/-- the table lies in the blocks Bs -/
def Rf (w : World) (B hb : Nat) (Bs : List Nat) (S : List En) (most : Nat) : Prop := ∃ ao cap, Bs = hb :: blk ao ∧ RfW w B hb ao cap S most
/-- what a call may do -/
structure Turned (Bs Bs' : List Nat) (w w' : World) : Prop where
  keep : Keep Bs w w'
  new : ∀ q ∈ Bs', q ∈ Bs ∨ w.heap.size ≤ q
theorem Turned.below {w w' : World} {Bs : List Nat} (h : Below w.heap.size w w') : Turned Bs Bs w w' := ⟨Keep.of_below h Bs, fun q hq => .inl hq⟩
theorem Turned.trans {a b c : World} {A B C : List Nat} (h : Turned A B a b) (k : Turned B C b c) (hA : ∀ q ∈ A, q < a.heap.size) : Turned A C a c := by
  refine ⟨h.keep.cut k.keep fun q hq => h.new q hq, fun q hq => ?_⟩
  rcases k.new q hq with h1 | h1
  · exact h.new q h1
  · have := h.keep.size; exact .inr (by omega)
section
variable {w w' : World} {B hb cap most : Nat} {ao : Option Addr} {S : List En} {Bs : List Nat}
theorem RfW.hlt (h : RfW w B hb ao cap S most) : hb < w.heap.size := (Array.getElem?_eq_some_iff.1 h.row).1
theorem RfW.at0 (h : RfW w B hb ao cap S most) : w.cell? ⟨hb, 0, none⟩ = some (.int .i64 (most : Int)) := cell_of_row w hb 0 _ _ (0, 0) h.row
theorem RfW.at1 (h : RfW w B hb ao cap S most) : w.cell? ⟨hb, 1, none⟩ = some (.slice ao S.length cap) := cell_of_row w hb 1 _ _ (0, 0) h.row
theorem RfW.fr (h : RfW w B hb ao cap S most) (i : Nat) : w.frozen? ⟨hb, i, none⟩ = false := frozen_of_row w hb i _ _ h.row
theorem RfW.blocks (h : RfW w B hb ao cap S most) : ∀ q ∈ hb :: blk ao, B ≤ q ∧ q < w.heap.size := by
  intro q hq
  rcases List.mem_cons.1 hq with rfl | hq
  · exact ⟨h.base, h.hlt⟩
  · exact owns_blk h.own q hq
theorem RfW.keep {U : List Nat} (h : RfW w B hb ao cap S most) (k : Keep U w w') (hU : ∀ q ∈ hb :: blk ao, q ∉ U) : RfW w' B hb ao cap S most :=
  ⟨(k.block hb h.hlt (hU hb (by simp))).trans h.row, owns_keep h.own k (blk_own _ _ _ fun g hg => hU g (by simp [hg])), h.base, h.apart, h.one, h.few, h.m2⟩
theorem RfW.below (h : RfW w B hb ao cap S most) (b : Below w.heap.size w w') : RfW w' B hb ao cap S most := h.keep (Keep.of_below b []) (by simp)
theorem Rf.blocks (h : Rf w B hb Bs S most) : ∀ q ∈ Bs, B ≤ q ∧ q < w.heap.size := by
  obtain ⟨ao, cap, rfl, h⟩ := h
  exact h.blocks
theorem Rf.keep {U : List Nat} (h : Rf w B hb Bs S most) (k : Keep U w w') (hU : ∀ q ∈ Bs, q ∉ U) : Rf w' B hb Bs S most := by
  obtain ⟨ao, cap, rfl, h⟩ := h
  exact ⟨ao, cap, rfl, h.keep k hU⟩
theorem Rf.below (h : Rf w B hb Bs S most) (b : Below w.heap.size w w') : Rf w' B hb Bs S most := h.keep (Keep.of_below b []) (by simp)
/-- entry j -/
theorem RfW.ent (h : RfW w B hb ao cap S most) {j : Nat} {e : En} (hj : S[j]? = some e) : ∃ g, ao = some ⟨g, 0, none⟩ ∧ g < w.heap.size ∧ B ≤ g ∧ ∀ i v, (c10 e)[i]? = some v → w.cell? ⟨g, j * 10 + i, none⟩ = some v ∧ w.frozen? ⟨g, j * 10 + i, none⟩ = false := by
  have hjl := (List.getElem?_eq_some_iff.1 hj).1
  have ho := h.own
  rcases ho.2 with ⟨h2, h3⟩ | ⟨g, cap', cur, h2, hb, hg, h3, h4, h5, h6⟩
  · omega
  · cases h2
    refine ⟨g, rfl, (Array.getElem?_eq_some_iff.1 hg).1, hb, fun i v hv => ⟨?_, frozen_of_row w g _ cur _ hg⟩⟩
    have hi : i < 10 := (List.getElem?_eq_some_iff.1 hv).1
    rw [cell_of_row w g _ cur _ (0, 0) hg]
    have := congrArg (·[j * 10 + i]?) h6
    simp only [List.getElem?_take] at this
    rw [if_pos (by omega), Array.getElem?_toList, fl_at c10_len S j i hi, hj] at this
    rw [this]
    exact hv
/-- where an instance stands -/
def Stands (S : List En) (i : In) (x : Int) : Prop := (x = -1 ∧ look S i = none) ∨ ∃ (j : Nat) (e : En), x = (j : Int) ∧ S[j]? = some e ∧ e.i = i ∧ look S i = some e.r
theorem One.look (h : One S) {j : Nat} {e : En} (hj : S[j]? = some e) : look S e.i = some e.r := by
  unfold Ytgknmicblnldiaa.look
  induction S generalizing j with
  | nil => simp at hj
  | cons x r ih =>
    obtain ⟨h1, h2⟩ := List.pairwise_cons.1 h
    cases j with
    | zero =>
      simp at hj
      subst hj
      simp
    | succ j =>
      simp at hj
      have hne := h1 e (List.mem_of_getElem? hj)
      rw [List.find?_cons_of_neg (by simpa using hne)]
      exact ih h2 hj
theorem look_none_of {i : In} (h : ∀ e ∈ S, e.i ≠ i) : look S i = none := by
  unfold look
  rw [List.find?_eq_none.2 (by intro x hx; simpa using h x hx)]
  rfl
theorem take_next {α : Type} {l : List α} {k : Nat} {x : α} (h : l[k]? = some x) : l.take (k + 1) = l.take k ++ [x] := by
  rw [List.take_add_one, h]; rfl
set_option maxRecDepth 100000 in
set_option maxHeartbeats 4000000 in
theorem rfind_any (i : In) (w : World) (h : RfW w B hb ao cap S most) : Calls Try.prog 20 #[.pointer (some ⟨hb, 0, none⟩), i.ag] w fun e w' => ∃ x, e = .returned (.int .i64 x) ∧ Stands S i x ∧ Below w.heap.size w w' := by
  obtain ⟨W, hW⟩ : ∃ W, W = w.alloc i.obj := ⟨_, rfl⟩
  have bW : Below w.heap.size w W := by rw [hW]; exact below_alloc (Below.refl _ _) _
  have ki : Row4 W w.heap.size i := by
    have := Row4.new w i
    rw [← hW] at this; exact this
  have H := Lib.hid (h.below bW)
  have HB := Lib.hid bW
  have KI := Lib.hid ki
  obtain ⟨m, hm⟩ : ∃ m, S.length = m := ⟨_, rfl⟩
  have HM := Lib.hid hm
  have hmi : (m : Int) ≤ 4096 := by have h1 := h.few; have h2 := h.m2; omega
  have hbi := Lib.hid (show w.heap.size < W.heap.size from ki.lt)
  clear h bW ki hm
  have EQ := fun (e : En) => eql_ii e.i i
  obtain ⟨tx, ib, ir, ix⟩ := i
  simp only [In.ag, In.obj] at hW EQ ⊢
  go_enter Try.func20, Try.ntmps20
  go_wp2_with fail
  rw [← hW]
  clear hW
  generalize hbi' : w.heap.size = bi at *
  have hwl := hbi.out
  go_loopw [5] (fun v5 wr => ∃ k : Nat, v5 = .int .i64 (k : Int) ∧ k ≤ m ∧ (∀ e ∈ S.take k, e.i ≠ ⟨tx, ib, ir, ix⟩) ∧ Below W.heap.size W wr) (fun v5 _ => m - (intOf v5).toNat)
  case atStart => exact ⟨0, rfl, by omega, by simp, Below.refl _ _⟩
  case round =>
    obtain ⟨k, rfl, hk, hno, hbl⟩ := hrel
    have HR := Lib.hid (H.out.below hbl)
    have c1 := HR.out.at1
    rw [HM.out] at c1
    have HBL := Lib.hid hbl
    have hsz : W.heap.size ≤ wr.heap.size := hbl.size
    by_cases hlt : k < m
    · obtain ⟨e, he⟩ : ∃ e, S[k]? = some e := ⟨_, List.getElem?_eq_getElem (by rw [HM.out]; exact hlt)⟩
      obtain ⟨g, rfl, hg, hgB, hcell⟩ := HR.out.ent he
      have d0 := (hcell 0 _ rfl).1
      have d1 := (hcell 1 _ rfl).1
      have d2 := (hcell 2 _ rfl).1
      have d3 := (hcell 3 _ rfl).1
      rw [Nat.add_zero] at d0
      obtain ⟨e0, e1, e2, e3⟩ := Row4.all (KI.out.below hbl)
      have HLK := Lib.hid (H.out.one.look he)
      have HNX := Lib.hid (take_next he)
      have HN := Lib.hid he
      have HNO := Lib.hid hno
      have hki : (0 : Int) ≤ (k : Int) := by omega
      have hki2 : (k : Int) < (m : Int) := by omega
      have E := EQ e
      have x0 := cell_regrown d0; have x1 := cell_regrown d1; have x2 := cell_regrown d2; have x3 := cell_regrown d3
      have x4 := cell_regrown e0; have x5 := cell_regrown e1; have x6 := cell_regrown e2; have x7 := cell_regrown e3
      have x8 := cell_regrown c1
      simp only at E x4 x5 x6 x7
      clear hcell he hno EQ d0 d1 d2 d3 e0 e1 e2 e3 hbl
      by_cases hq : e.i = ⟨tx, ib, ir, ix⟩
      · rw [decide_eq_true hq] at E
        have HQ := Lib.hid hq
        clear hq
        go_wp2_with fail
        refine wp_region_quiet_below (by kernel_rfl) (by kernel_rfl) ?_
        repeat (go_big_quiet_step (fail))
        refine wpQuiet_nil ?_
        intro _ hw'
        obtain ⟨⟨dq, osq⟩, hw''⟩ := hw'
        subst hw''
        have HB2 := Lib.hid (HBL.out.trans ((below_regrown wr dq osq).mono hsz))
        clear x0 x1 x2 x3 x4 x5 x6 x7 x8 c1 E
        generalize grow (redrawn wr dq) osq = w2 at *
        go_wp2_with fail
        go_ret
        refine ⟨_, rfl, .inr ⟨k, e, rfl, HN.out, HQ.out, ?_⟩, ?_⟩
        · have := HLK.out; rw [HQ.out] at this; exact this
        · rw [hbi']; exact HB.out.trans (HB2.out.mono (by omega))
      · rw [decide_eq_false hq] at E
        have HQ := Lib.hid hq
        clear hq
        go_wp2_with fail
        refine wp_region_quiet_below (by kernel_rfl) (by kernel_rfl) ?_
        repeat (go_big_quiet_step (fail))
        refine wpQuiet_nil ?_
        intro _ hw'
        obtain ⟨⟨dq, osq⟩, hw''⟩ := hw'
        subst hw''
        have HB2 := Lib.hid (HBL.out.trans ((below_regrown wr dq osq).mono hsz))
        clear x0 x1 x2 x3 x4 x5 x6 x7 x8 c1 E
        generalize grow (redrawn wr dq) osq = w2 at *
        go_wp2_with fail
        go_roundw
        case rel =>
          refine ⟨k + 1, by go_num, by omega, ?_, HB2.out⟩
          rw [HNX.out]
          intro x hx
          rcases List.mem_append.1 hx with hx | hx
          · exact HNO.out x hx
          · rw [List.mem_singleton] at hx
            rw [hx]; exact HQ.out
        case measure => simp [intOf]; omega
    · obtain rfl : k = m := by omega
      have hnone : look S ⟨tx, ib, ir, ix⟩ = none := by
        rw [← HM.out, List.take_length] at hno
        exact look_none_of hno
      have HNN := Lib.hid hnone
      clear hno hnone EQ hbl
      go_wp2_with fail
      go_ret
      refine ⟨_, rfl, .inl ⟨rfl, HNN.out⟩, ?_⟩
      rw [hbi']; exact HB.out.trans (HBL.out.mono (by omega))
end
end Go.Proofs.Ytgknmicblnldiaa
