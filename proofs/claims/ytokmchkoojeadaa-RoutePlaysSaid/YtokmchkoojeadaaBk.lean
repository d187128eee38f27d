/- slices.Backward of a slice of peers: what its closure hands over. -/
import Derived.RangeFuncNested
import Derived.RangeFuncBound
import Derived.RangeFuncCalls
import Derived.RangeFuncLeaves
import Derived.Shelf.Abstract
import Derived.Shelf.RegionOpen
import Derived.OwnWalkIn
import Derived.TacticsInMore
import Derived.LoopNIn
import Derived.LoopIn
import Derived.Test.YtokmchkoojeadaaNw
namespace Go.Proofs.Ytokmchkoojeadaa
open Go.RowKit Go.Shelf
attribute [local go_sem] Oper.semAt_some
set_option linter.unusedVariables false
set_option linter.unusedSimpArgs false
set_option maxRecDepth 100000
/-- what has come when r are left: index and peer, from the last one down -/
def seenB (f : Nat → Pe) (len r : Nat) : List (Nat × Pe) := (List.range (len - r)).map fun j => (len - 1 - j, f (len - 1 - j))
theorem seenB_all (f : Nat → Pe) (len : Nat) : seenB f len len = [] := by simp [seenB]
theorem seenB_more (f : Nat → Pe) (len m : Nat) (h : m < len) : seenB f len (m + 1) ++ [(m, f m)] = seenB f len m := by
  unfold seenB
  rw [show len - m = (len - (m + 1)) + 1 by omega, List.range_succ, List.map_append]
  have e : len - 1 - (len - (m + 1)) = m := by omega
  simp only [List.map_cons, List.map_nil, e]
theorem seenB_len (f : Nat → Pe) (len r : Nat) : (seenB f len r).length = len - r := by simp [seenB]
abbrev encB (x : Nat × Pe) : Array Value := #[.int .i64 (x.1 : Int), .agg #[.int .i64 x.2.n, .int .u64 x.2.h, .int .u64 x.2.l]]
set_option maxHeartbeats 4000000 in
theorem back1_in (F : Fence) (n : Nat) (h27 : F.fn 41) (hro : F.round = none) (hn : 1 ≤ n) (l bs n0 g len cap : Nat) (f : Nat → Pe) (hlen : (len : Int) ≤ 1000) (hb : g < n0) (hbs : bs < n0) (J Jx : List (Nat × Pe) → World → Prop)
    (hY : ∀ pre x W, J pre W → pre.length < len → YieldAt F (n - 1) Try.prog l (encB x) W fun e W' =>
      (e = .returned (.bool true) ∧ J (pre ++ [x]) W' ∧ Below n0 W W') ∨ (e = .returned (.bool false) ∧ Jx (pre ++ [x]) W'))
    (W : World) (hBs : W.cell? ⟨bs, 0, none⟩ = some (.slice (some ⟨g, 0, none⟩) len cap)) (hc : ∀ j, j < len → ∀ q, q < 3 → W.cell? ⟨g, j * 3 + q, none⟩ = (f j).list[q]?) (h0 : J [] W) :
    CallsIn F n Try.prog 41 #[.func (.yield l) #[] #[], .pointer (some ⟨bs, 0, none⟩)] W fun e W' => (∃ v, e = .returned v) ∧
      ((∃ xs, xs = seenB f len 0 ∧ J xs W') ∨ (∃ pre, (∃ k, k ≤ len ∧ pre = seenB f len k) ∧ Jx pre W')) := by
  refine callsIn_of_wp Try.func41 rfl h27 ?_ hro
  simp only [Try.ntmps41, List.size_toArray, List.length_cons, List.length_nil, Nat.reduceAdd, Nat.reduceSub, Array.replicate_succ, Array.replicate_zero, List.push_toArray, List.append_toArray, List.nil_append, List.cons_append]
  gi_wp2
  gi_loopw [3] (fun i wr => ∃ r : Nat, r ≤ len ∧ i = .int .i64 ((r : Int) - 1) ∧ J (seenB f len r) wr ∧ Below n0 W wr) (fun i _ => (intOf i + 1).toNat)
  case atStart => exact ⟨len, Nat.le_refl _, rfl, by rw [seenB_all]; exact h0, Below.refl _ _⟩
  case round =>
    obtain ⟨r, hr, rfl, hJs, hnx⟩ := hrel
    cases r with
    | zero =>
      gi_wp2
      go_end0
      exact ⟨⟨_, rfl⟩, .inl ⟨_, rfl, hJs⟩⟩
    | succ m =>
      rw [show (((m + 1 : Nat) : Int) - 1) = (m : Int) by omega]
      have hB := (hnx.cell (p := ⟨bs, 0, none⟩) hbs).trans hBs
      have a0 := (hnx.cell (p := ⟨g, m * 3 + 0, none⟩) hb).trans (hc m (by omega) 0 (by omega))
      have a1 := (hnx.cell (p := ⟨g, m * 3 + 1, none⟩) hb).trans (hc m (by omega) 1 (by omega))
      have a2 := (hnx.cell (p := ⟨g, m * 3 + 2, none⟩) hb).trans (hc m (by omega) 2 (by omega))
      simp only [List.getElem?_cons_succ, List.getElem?_cons_zero, Nat.add_zero] at a0 a1 a2
      obtain ⟨fn, tmps, assign, body, hy, hR⟩ := hY _ (m, f m) wr hJs (by rw [seenB_len]; omega)
      dsimp only [encB] at hy
      have hm0 : (0 : Int) ≤ (m : Int) := by omega
      have hml : (m : Int) < (len : Int) := by omega
      gi_wp2
      refine hR.mono ?_
      rintro e W3 (⟨rfl, hJ3, hk3⟩ | ⟨rfl, hJx3⟩)
      · gi_wp2
        go_roundw
        case rel => exact ⟨m, by omega, by go_num, by rw [← seenB_more f len m (by omega)]; exact hJ3, hnx.trans hk3⟩
        case measure => simp [intOf]
      · gi_wp2
        refine bodyPost_ret (results_none rfl _ _ _) rfl ?_
        exact ⟨⟨_, rfl⟩, .inr ⟨_, ⟨m, by omega, seenB_more f len m (by omega)⟩, hJx3⟩⟩
theorem back_stops (F : Fence) (n : Nat) (h27 : F.fn 41) (hro : F.round = none) (hn : 1 ≤ n) (bs n0 g len cap : Nat) (f : Nat → Pe) (hlen : (len : Int) ≤ 1000) (w : World) (hb : g < n0) (hbs : bs < n0) (hn0 : n0 ≤ w.heap.size)
    (hBs : w.cell? ⟨bs, 0, none⟩ = some (.slice (some ⟨g, 0, none⟩) len cap)) (hc : ∀ j, j < len → ∀ q, q < 3 → w.cell? ⟨g, j * 3 + q, none⟩ = (f j).list[q]?) :
    SeqStopsK F n Try.prog 41 #[.pointer (some ⟨bs, 0, none⟩)] encB (Below n0) (fun xs => xs = seenB f len 0) (fun pre => ∃ k, k ≤ len ∧ pre = seenB f len k) len w := fun l J Jx W hW _ _ hY h0 =>
  back1_in F n h27 hro hn l bs n0 g len cap f hlen hb hbs J Jx hY W ((hW.cell (p := ⟨bs, 0, none⟩) (by show bs < _; omega)).trans hBs) (fun j hj q hq => (hW.cell (p := ⟨g, j * 3 + q, none⟩) (by show g < _; omega)).trans (hc j hj q hq)) h0
set_option maxHeartbeats 400000 in
theorem back_any (a : Option Addr) (len cap : Nat) (w : World) :
    Calls Try.prog 34 #[.slice a len cap] w fun e w' => e = .returned (.func (.func 41) #[] #[.pointer (some ⟨w.heap.size, 0, none⟩)]) ∧ w' = w.alloc (.cells #[.slice a len cap] 39) := by
  go_enter Try.func34, Try.ntmps34
  go_wp2_with fail
  go_ret
  exact ⟨rfl, rfl⟩
/-- a function with a range over a function leaves -/
theorem bodyM_ret {P : Program} {F : Fence} {n : Nat} {fn : Func} {R : Ending → World → Prop} {a : Act} {w : World} {v : Value} (hr : (results fn a.tmps).run P w = .ok v w) (hd : a.defers = []) (hR : R (.returned v) w) : bodyPostM F n P fn R .ret a w := by
  show LeavesInM F n P fn a.tmps R a.defers .returning w
  rw [hd]
  exact ⟨v, hr, hR⟩
end Go.Proofs.Ytokmchkoojeadaa
