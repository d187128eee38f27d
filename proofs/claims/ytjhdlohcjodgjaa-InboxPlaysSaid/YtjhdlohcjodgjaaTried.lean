/- NewCalls; tried. -/
import Derived.Test.YtjhdlohcjodgjaaSorted
import Derived.Deep.RegionHeld3
namespace Go.Proofs.Ytjhdlohcjodgjaa
open Go.RowKit
set_option linter.unusedVariables false

theorem results_cell1 {P : Program} {fn : Func} {t : Tmp} {u : TypeId} {tmps : Array Value} {w : World} {ad : Addr} {v : Value} (h : fn.results = #[.cell t u]) (ht : tmps.getD t undef = .pointer (some ad))
    (hl : (loadVar u ad).run P w = .ok v w) : (results fn tmps).run P w = .ok v w := by
  have ht' : tmps[t]?.getD undef = .pointer (some ad) := by simpa using ht
  simp [results, h, ht', hl, asAddr]
section
variable {B hn gm made : Nat} {S : List Cal} {C : Cfg}
theorem CalsW.new (w : World) (C : Cfg) (hC : C.ok) : CalsW ((w.alloc (.map #[] 0)).alloc (.cells (rowC C 0 w.heap.size) 88)) w.heap.size (w.heap.size + 1) w.heap.size [] C 0 := by
  have hm := MapV.made w
  have k := Keep.alloc (Keep.refl [] (w.alloc (.map #[] 0))) (.cells (rowC C 0 w.heap.size) 88)
  have hr := heap_alloc_new (w.alloc (.map #[] 0)) (.cells (rowC C 0 w.heap.size) 88)
  refine ⟨hm.keep k (by simp), ?_, by omega, by omega, by omega, by simp [Inc], by simp, by simp, hC, by simp, by omega⟩
  rw [show (w.alloc (.map #[] 0)).heap.size = w.heap.size + 1 by simp] at hr
  exact hr
def setB (r b m t : Int) : Bool := roomB r && fairB b m && decide (1 ≤ t ∧ t ≤ 16)
set_option maxHeartbeats 800000 in
theorem newcalls_no (r b m t : Int) (h : setB r b m t = false) (w : World) : Calls Try.prog 14 #[.int .i64 r, .int .i64 b, .int .i64 m, .int .i64 t] w fun e w' => e = .returned (.tuple #[.pointer none, .int .i64 1]) ∧ w = w' := by
  have C1 := Lib.hid (isroom_any r); have C2 := Lib.hid (iswait_any b m)
  unfold setB at h
  cases h1 : roomB r <;> rw [h1] at C1
  · clear h h1
    go_enter Try.func14, Try.ntmps14
    go_wp2_with (first | (go_at_call 28; refine (C1.out _).mono ?_; rintro e w1 ⟨rfl, rfl⟩) | (go_at_call 31; refine (C2.out _).mono ?_; rintro e w1 ⟨rfl, rfl⟩))
    all_goals
      go_ret2
      exact ⟨rfl, rfl⟩
  · cases h2 : fairB b m <;> rw [h2] at C2
    · clear h h1 h2
      go_enter Try.func14, Try.ntmps14
      go_wp2_with (first | (go_at_call 28; refine (C1.out _).mono ?_; rintro e w1 ⟨rfl, rfl⟩) | (go_at_call 31; refine (C2.out _).mono ?_; rintro e w1 ⟨rfl, rfl⟩))
      all_goals
        go_ret2
        exact ⟨rfl, rfl⟩
    · have h3 : t < 1 ∨ 16 < t := by rw [h1, h2] at h; simp at h; omega
      clear h h1 h2
      rcases h3 with h3 | h3
      all_goals
        go_enter Try.func14, Try.ntmps14
        go_wp2_with (first | (go_at_call 28; refine (C1.out _).mono ?_; rintro e w1 ⟨rfl, rfl⟩) | (go_at_call 31; refine (C2.out _).mono ?_; rintro e w1 ⟨rfl, rfl⟩))
        all_goals
          go_ret2
          exact ⟨rfl, rfl⟩
set_option maxHeartbeats 800000 in
theorem newcalls_yes (C : Cfg) (hC : C.ok) (w : World) : Calls Try.prog 14 #[.int .i64 (C.room : Int), .int .i64 (C.base : Int), .int .i64 (C.most : Int), .int .i64 (C.tries : Int)] w fun e w' =>
    ∃ hn gm, e = .returned (.tuple #[.pointer (some ⟨hn, 0, none⟩), .int .i64 0]) ∧ CalsW w' w.heap.size hn gm [] C 0 ∧ Below w.heap.size w w' := by
  have C1 := Lib.hid (isroom_any C.room); have C2 := Lib.hid (iswait_any C.base C.most)
  obtain ⟨c1, c2, c3, c4, c5, c6, c7⟩ := hC
  rw [show roomB (C.room : Int) = true by unfold roomB; simp; omega] at C1
  rw [show fairB (C.base : Int) (C.most : Int) = true by unfold fairB; simp; omega] at C2
  have HN := Lib.hid (CalsW.new w C ⟨c1, c2, c3, c4, c5, c6, c7⟩)
  obtain ⟨room, base, most, tries⟩ := C
  simp only at *
  have hmm := @run_makeMap Try.prog
  go_enter Try.func14, Try.ntmps14
  go_wp2_with (first | (go_at_call 28; refine (C1.out _).mono ?_; rintro e w1 ⟨rfl, rfl⟩) | (go_at_call 31; refine (C2.out _).mono ?_; rintro e w1 ⟨rfl, rfl⟩))
  go_ret2
  exact ⟨w.heap.size + 1, w.heap.size, rfl, HN.out, below_alloc (below_alloc (Below.refl _ _) _) _⟩

/-- a call behind one more try -/
def triedC (C : Cfg) (x : Cal) (now : Nat) : Cal := ⟨x.id, x.to, x.since, x.tries + 1, now + waitN C.base C.most x.tries⟩
set_option maxRecDepth 100000 in
set_option maxHeartbeats 2000000 in
theorem tried_any (w : World) (h : CalsW w B hn gm S C made) (x : Cal) (hx : x.tries ≤ 16) (now : Nat) (hnow : now ≤ 1099511627776) :
    Calls Try.prog 40 #[.pointer (some ⟨hn, 0, none⟩), agv x, .int .i64 (now : Int)] w fun e w' => e = .returned (agv (triedC C x now)) ∧ Below w.heap.size w w' := by
  have c1 := h.at_ 1; have c2 := h.at_ 2
  simp only [rowC, List.getElem?_toArray, List.getElem?_cons_succ, List.getElem?_cons_zero] at c1 c2
  have hlt := h.hlt
  have hok := h.ok
  have C1 := Lib.hid (wait_yes C.base C.most x.tries (by unfold fairB; simp; unfold Cfg.ok at hok; omega) (by omega))
  have hwl := waitN_le C.base C.most x.tries
  have hm : C.most ≤ 1073741824 := by unfold Cfg.ok at hok; omega
  unfold triedC
  generalize waitN C.base C.most x.tries = wt at *
  obtain ⟨i, t, s, tr, d⟩ := x
  simp only at hx C1 ⊢
  generalize C.base = bs at *
  generalize C.most = mo at *
  clear h hok
  go_enter Try.func40, Try.ntmps40
  go_wp2_with fail
  have hsz := Lib.hid (show w.heap.size ≠ hn by omega)
  have d1 : ((w.alloc (.cells #[.int .u64 (i : Int), .int .i64 t, .int .i64 (s : Int), .int .i64 (tr : Int), .int .i64 (d : Int)] 70)).alloc (.cells zcells 70)).cell? ⟨hn, 1, none⟩ = some (.int .i64 (bs : Int)) := by go_simp
  have d2 : ((w.alloc (.cells #[.int .u64 (i : Int), .int .i64 t, .int .i64 (s : Int), .int .i64 (tr : Int), .int .i64 (d : Int)] 70)).alloc (.cells zcells 70)).cell? ⟨hn, 2, none⟩ = some (.int .i64 (mo : Int)) := by go_simp
  have d3 : ((w.alloc (.cells #[.int .u64 (i : Int), .int .i64 t, .int .i64 (s : Int), .int .i64 (tr : Int), .int .i64 (d : Int)] 70)).alloc (.cells zcells 70)).cell? ⟨w.heap.size, 3, none⟩ = some (.int .i64 (tr : Int)) := by go_simp
  have hS := And.intro d1 (And.intro d2 d3)
  clear d1 d2 d3
  go_region_held3 (fun W => W.cell? ⟨hn, 1, none⟩ = some (.int .i64 (bs : Int)) ∧ W.cell? ⟨hn, 2, none⟩ = some (.int .i64 (mo : Int)) ∧ W.cell? ⟨w.heap.size, 3, none⟩ = some (.int .i64 (tr : Int)))
    (first | assumption | (refine ⟨?_, ?_, ?_⟩ <;> go_simp))
    (first
      | (go_at_call 22; refine (C1.out _).mono ?_; rintro e w1 ⟨rfl, rfl⟩))
  go_wp2_with fail
  refine bodyPost_ret (v := .agg #[.int .u64 (i : Int), .int .i64 t, .int .i64 (s : Int), .int .i64 ((tr + 1 : Nat) : Int), .int .i64 ((now + wt : Nat) : Int)]) (results_cell1 Try.results40 rfl ?_) rfl ⟨rfl, ?_⟩
  · go_simp
  · exact (below_alloc (below_alloc (Below.refl _ _) _) _).drew
end
end Go.Proofs.Ytjhdlohcjodgjaa
