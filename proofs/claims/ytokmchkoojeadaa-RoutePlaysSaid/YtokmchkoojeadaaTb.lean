/- Tables: a table's row; alone, owns. -/
import Derived.Test.YtokmchkoojeadaaCmp
import Derived.Deep.RegionHeld3
import Derived.Lib.QuietBelow
namespace Go.Proofs.Ytokmchkoojeadaa
open Go.RowKit Go.Sort
set_option linter.unusedVariables false
set_option linter.unusedSimpArgs false
set_option maxRecDepth 100000

theorem results_cell1 {P : Program} {fn : Func} {t : Tmp} {u : TypeId} {tmps : Array Value} {w : World} {ad : Addr} {v : Value} (h : fn.results = #[.cell t u]) (ht : tmps.getD t undef = .pointer (some ad))
    (hl : (loadVar u ad).run P w = .ok v w) : (results fn tmps).run P w = .ok v w := by
  have ht' : tmps[t]?.getD undef = .pointer (some ad) := by simpa using ht
  simp [results, h, ht', asAddr, hl]
theorem results_cell_tmp {P : Program} {fn : Func} {t s : Tmp} {u : TypeId} {tmps : Array Value} {w : World} {ad : Addr} {v x : Value} (h : fn.results = #[.cell t u, .tmp s]) (ht : tmps.getD t undef = .pointer (some ad))
    (hl : (loadVar u ad).run P w = .ok v w) (hx : tmps.getD s undef = x) : (results fn tmps).run P w = .ok (.tuple #[v, x]) w := by
  have ht' : tmps[t]?.getD undef = .pointer (some ad) := by simpa using ht
  have hx' : tmps[s]?.getD undef = x := by simpa using hx
  simp [results, h, ht', hl, asAddr, hx']
abbrev Still (n : Nat) (xs : Array Value) (r : Ending) : Prop := ∀ w, Calls Try.prog n xs w fun e w' => e = r ∧ w = w'
abbrev isN (a : Int) : Bool := decide (0 ≤ a) && decide (a ≤ 255)
set_option maxHeartbeats 400000 in
theorem isnode_any (a : Int) : Still 22 #[.int .i64 a] (.returned (.bool (isN a))) := by
  intro w
  unfold isN
  by_cases h : 0 ≤ a
  · rw [decide_eq_true h, Bool.true_and]
    go_enter Try.func22, Try.ntmps22
    go_wp2_with fail
    go_ret
    exact ⟨by simp, rfl⟩
  · rw [decide_eq_false h, Bool.false_and]
    go_enter Try.func22, Try.ntmps22
    go_wp2_with fail
    go_ret
    exact ⟨by simp, rfl⟩
/-- a peer: its number, its position -/
structure Pe where
  n : Int
  h : Int
  l : Int
deriving DecidableEq
abbrev Pe.list (x : Pe) : List Value := [.int .i64 x.n, .int .u64 x.h, .int .u64 x.l]
abbrev Pe.v (x : Pe) : Value := .agg #[.int .i64 x.n, .int .u64 x.h, .int .u64 x.l]
abbrev peer (n h l : Int) : Value := .agg #[.int .i64 n, .int .u64 h, .int .u64 l]
theorem pe_len (x : Pe) : x.list.length = 3 := rfl
theorem eql_peer (n h l n' h' l' : Int) (w : World) : (binOp .eql 26 (peer n h l) (peer n' h' l')).run Try.prog w = .ok (.bool (n == n' && (h == h' && l == l'))) w := by
  have hu := Try.underlying26
  have hv := Try.underlying24
  rw [run_eql_struct, run_equalIn_agg w 9999 _ _ _ (by kernel_rfl) (by kernel_rfl)]
  rw [show (Try.prog.fieldsOf 26) = _ from by unfold Program.fieldsOf; rw [hu]]
  go_simp
  by_cases h0 : n = n' <;> by_cases h1 : h = h' <;> by_cases h2 : l = l' <;> simp [h0, h1, h2]
/-- a table's row: itself, its pred, its succ, its fingers -/
abbrev rowT (s p c : Pe) (sv : Value) : Array Value := #[.int .i64 s.n, .int .u64 s.h, .int .u64 s.l, .int .i64 p.n, .int .u64 p.h, .int .u64 p.l, .int .i64 c.n, .int .u64 c.h, .int .u64 c.l, sv]
abbrev TbR (w : World) (b : Nat) (s p c : Pe) (sv : Value) : Prop := w.heap[b]? = some (.cells (rowT s p c sv) 94 (0, 0))
theorem TbR.keep {w w' : World} {b : Nat} {s p c : Pe} {sv : Value} {U : List Nat} (h : TbR w b s p c sv) (k : Keep U w w') (hn : b ∉ U) : TbR w' b s p c sv := (k.block b (Array.getElem?_eq_some_iff.1 h).1 hn).trans h
theorem TbR.below {w w' : World} {b : Nat} {s p c : Pe} {sv : Value} (h : TbR w b s p c sv) (k : Below w.heap.size w w') : TbR w' b s p c sv := (k.block b (Array.getElem?_eq_some_iff.1 h).1).trans h
theorem TbR.at_ {w : World} {b : Nat} {s p c : Pe} {sv : Value} (h : TbR w b s p c sv) (i : Nat) : w.cell? ⟨b, i, none⟩ = (rowT s p c sv)[i]? := cell_of_row w b i _ _ (0, 0) h
theorem TbR.fr {w : World} {b : Nat} {s p c : Pe} {sv : Value} (h : TbR w b s p c sv) (i : Nat) : w.frozen? ⟨b, i, none⟩ = false := frozen_of_row w b i _ _ h
theorem TbR.lt {w : World} {b : Nat} {s p c : Pe} {sv : Value} (h : TbR w b s p c sv) : b < w.heap.size := (Array.getElem?_eq_some_iff.1 h).1
/-- is a node alone that is s and whose succ is c -/
def aln (s c : Pe) : Bool := c.n == s.n && (c.h == s.h && c.l == s.l)
set_option maxHeartbeats 800000 in
theorem alone_any {b : Nat} {s p c : Pe} {sv : Value} (w : World) (h : TbR w b s p c sv) : Calls Try.prog 23 #[.pointer (some ⟨b, 0, none⟩)] w fun e w' => e = .returned (.bool (aln s c)) ∧ Below w.heap.size w w' := by
  have c0 := h.at_ 0; have c1 := h.at_ 1; have c2 := h.at_ 2; have c6 := h.at_ 6; have c7 := h.at_ 7; have c8 := h.at_ 8
  simp only [rowT, List.getElem?_toArray, List.getElem?_cons_succ, List.getElem?_cons_zero] at c0 c1 c2 c6 c7 c8
  have EP := Lib.hid (fun w => eql_peer c.n c.h c.l s.n s.h s.l w)
  unfold aln
  clear h
  go_enter Try.func23, Try.ntmps23
  go_upto_region 1 with (fail)
  have EQ := EP.out
  go_quiet (fail)
  go_wp2_with fail
  go_ret
  exact ⟨by simp, below_drewN (Below.refl _ _) _⟩
/-- is a position own to the node -/
def own (s p c : Pe) (h l : Int) : Bool := aln s c || ((h == s.h && l == s.l) || btw p.h p.l h l s.h s.l)
set_option maxHeartbeats 4000000 in
theorem owns_any {b : Nat} {s p c : Pe} {sv : Value} (hh hl : Int) (w : World) (h : TbR w b s p c sv) : Calls Try.prog 32 #[.pointer (some ⟨b, 0, none⟩), pos hh hl] w fun e w' => e = .returned (.bool (own s p c hh hl)) ∧ Below w.heap.size w w' := by
  have B1 := Lib.hid (below_alloc (Below.refl w.heap.size w) (.cells #[.int .u64 hh, .int .u64 hl] 24))
  have H1 := Lib.hid (h.below B1.out)
  have X0 := Lib.hid (heap_alloc_new w (.cells #[.int .u64 hh, .int .u64 hl] 24))
  have CA := Lib.hid (fun w1 (h : TbR w1 b s p c sv) d os => Calls.regrown_of (alone_any _ (h.below (below_regrown w1 d os))))
  have CB := Lib.hid (fun w1 d os => Calls.regrown_of (between_any p.h p.l hh hl s.h s.l (grow (redrawn w1 d) os)))
  have EP := Lib.hid (eql_pos hh hl s.h s.l)
  clear h
  unfold own
  generalize (hh == s.h && hl == s.l) = pq at *
  generalize aln s c = al at *
  generalize btw p.h p.l hh hl s.h s.l = bt at *
  cases al <;> cases pq
  all_goals
    go_enter Try.func32, Try.ntmps32
    go_upto_region 1 with (fail)
    have HBS := Lib.hid B1.out.size
    obtain ⟨x, hx⟩ : ∃ x, x = w.heap.size := ⟨_, rfl⟩
    rw [← hx] at X0 ⊢
    generalize hw1 : w.alloc (.cells #[.int .u64 hh, .int .u64 hl] 24) = w1 at *
    have x0 := cell_regrown (cell_of_row w1 x 0 _ _ (0, 0) X0.out); have x1 := cell_regrown (cell_of_row w1 x 1 _ _ (0, 0) X0.out)
    have c1 := H1.out.at_ 1; have c2 := H1.out.at_ 2; have c4 := H1.out.at_ 4; have c5 := H1.out.at_ 5
    simp only [rowT, List.getElem?_toArray, List.getElem?_cons_succ, List.getElem?_cons_zero] at c1 c2 c4 c5
    replace c1 := cell_regrown c1; replace c2 := cell_regrown c2; replace c4 := cell_regrown c4; replace c5 := cell_regrown c5
    have CA2 := Lib.hid (CA.out w1 H1.out)
    have CB2 := Lib.hid (CB.out w1)
    have HX := Lib.hid hx
    have EQ := EP.out
    clear X0 hw1 hx H1
    refine wp_region_quiet_below (by kernel_rfl) (by kernel_rfl) ?_
    repeat (go_big_quiet_step (first | exact CA2.out _ _ | exact CB2.out _ _))
    refine wpQuiet_nil ?_
    intro _ hw'
    obtain ⟨⟨dq, osq⟩, hw''⟩ := hw'
    subst hw''
    have lk := below_regrown w1 dq osq
    clear x0 x1 c1 c2 c4 c5 EQ
    generalize grow (redrawn w1 dq) osq = w2 at *
    go_wp2_with fail
    go_ret
    exact ⟨by simp, B1.out.trans (lk.mono HBS.out)⟩
end Go.Proofs.Ytokmchkoojeadaa
