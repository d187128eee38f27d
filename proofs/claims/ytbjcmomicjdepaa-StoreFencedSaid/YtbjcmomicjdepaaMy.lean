/- mayPrepare. -/
import Derived.Test.YtbjcmomicjdepaaMp
namespace Go.Proofs.Ytbjcmomicjdepaa
open Go.RowKit Go.Sort
set_option linter.unusedVariables false
set_option linter.unusedSimpArgs false
set_option linter.unusedSectionVars false
set_option maxRecDepth 100000
theorem regr {n : Nat} {xs : Array Value} {v : Value} {W : World} (h : ∀ w', Below W.heap.size W w' → Calls Try.prog n xs w' fun e w2 => e = .returned v ∧ Below w'.heap.size w' w2) (d : Nat) (os : Array Obj) :
    Calls Try.prog n xs (grow (redrawn W d) os) fun e w'' => e = .returned v ∧ ∃ p : Regrown, w'' = grow (redrawn W p.d) p.os := Calls.regrown_of (h _ (below_regrown W d os))
theorem any_zip {α β : Type} (p : α → Bool) : ∀ (l : List α) (m : List β), m.length = l.length → ((l.zip m).any fun x => p x.1) = l.any p
  | [], m, _ => by simp
  | a :: r, [], h => by simp at h
  | a :: r, b :: q, h => by
    simp only [List.zip_cons_cons, List.any_cons, any_zip p r q (by simpa using h)]
/-- may a replica vote prepared -/
def mayP (rep : Int) (c : Cp) (l : Lk) : Bool := !fencedP rep c l.it && (!decide (l.it.ver < c.ver) && (!decide (16 ≤ c.ls.length) && !(c.ls.any (oddP l))))
section
variable {B b : Nat} {rep : Int} {c : Cp} {s : Cs} {t : Sd} {l : Lk}
set_option maxHeartbeats 8000000 in
theorem may_any (w : World) (h : RowR w B b rep c s) : Calls Try.prog 45 #[.pointer (some ⟨b, 0, none⟩), l.ag t] w fun e w' => e = .returned (.bool (mayP rep c l)) ∧ Below w.heap.size w w' := by
  obtain ⟨W, hW⟩ : ∃ W, W = w.alloc (.cells (l.cells t) 38) := ⟨_, rfl⟩
  have bW : Below w.heap.size w W := by rw [hW]; exact below_alloc (Below.refl _ _) _
  have k1 : LkB W w.heap.size l t := by rw [hW]; exact LkB.new w l t
  have h2 := h.below bW
  have C := Lib.hid (fun (w' : World) (k : Below W.heap.size W w') => fenced_any (t := t) w' (h2.below k) l.it)
  have D := Lib.hid (fun (w' : World) (k : Below W.heap.size W w') => contains78_any (l := l) (s := t) w' s.l.ao c.ls.length s.l.cap w.heap.size (h2.below k).locks h2.zlen (by have := h2.few; omega) (k1.below k))
  rw [any_zip _ _ _ h.ll] at D
  have y2 := h2.at_ 2 _ rfl
  have y4 := h2.at_ 4 _ rfl
  have hfew := h2.few
  have HM := Lib.hid (show mayP rep c l = (!fencedP rep c l.it && (!decide (l.it.ver < c.ver) && (!decide (16 ≤ c.ls.length) && !(c.ls.any (oddP l))))) from rfl)
  obtain ⟨res, hres⟩ : ∃ res, mayP rep c l = res := ⟨_, rfl⟩
  rw [hres] at HM ⊢
  generalize fencedP rep c l.it = fe at *
  generalize c.ls.any (oddP l) = an at *
  generalize c.ls.length = n at *
  generalize c.ver = cv at *
  generalize s.l.ao = lao at *
  generalize s.l.cap = lcap at *
  have x4 := k1.c 4 _ rfl; have x5 := k1.c 5 _ rfl; have x6 := k1.c 6 _ rfl; have x7 := k1.c 7 _ rfl; have x8 := k1.c 8 _ rfl; have x9 := k1.c 9 _ rfl; have x10 := k1.c 10 _ rfl; have x11 := k1.c 11 _ rfl
  have BW := Lib.hid bW
  have hni : (n : Int) ≤ 1099511627775 := by omega
  clear h h2 k1 bW hres hfew
  obtain ⟨tx, m0, m1, m2, ⟨bk, ver, wt, es, i0, i1, i2, i3⟩⟩ := l
  obtain ⟨ao, cap⟩ := t
  simp only [Lk.ag, It.ag, Lk.cells] at hW x4 x5 x6 x7 x8 x9 x10 x11 C HM ⊢
  go_enter Try.func45, Try.ntmps45
  go_upto_region 1 with (fail)
  rw [← hW]
  clear hW
  generalize hbi : w.heap.size = bi at x4 x5 x6 x7 x8 x9 x10 x11 D ⊢
  replace y2 := cell_regrown y2; replace y4 := cell_regrown y4
  replace x4 := cell_regrown x4; replace x5 := cell_regrown x5; replace x6 := cell_regrown x6; replace x7 := cell_regrown x7; replace x8 := cell_regrown x8; replace x9 := cell_regrown x9; replace x10 := cell_regrown x10; replace x11 := cell_regrown x11
  cases fe with
  | true =>
    refine wp_region_quiet_below (by kernel_rfl) (by kernel_rfl) ?_
    repeat (go_big_quiet_step (exact regr C.out _ _))
    refine wpQuiet_nil ?_
    intro _ hw'
    obtain ⟨⟨dq, osq⟩, hw''⟩ := hw'
    subst hw''
    have lk := Lib.hid (below_regrown W dq osq)
    clear y2 y4 x4 x5 x6 x7 x8 x9 x10 x11
    go_wp2_with fail
    go_ret
    exact ⟨ret_bool (by rw [HM.out]; rfl), by first | exact below_next BW.out lk.out | (rw [← hbi]; exact below_next BW.out lk.out)⟩
  | false =>
    by_cases hv : ver < cv
    · have hv2 := Lib.hid (show decide (ver < cv) = true from by simpa using hv)
      refine wp_region_quiet_below (by kernel_rfl) (by kernel_rfl) ?_
      repeat (go_big_quiet_step (exact regr C.out _ _))
      refine wpQuiet_nil ?_
      intro _ hw'
      obtain ⟨⟨dq, osq⟩, hw''⟩ := hw'
      subst hw''
      have lk := Lib.hid (below_regrown W dq osq)
      clear y2 y4 x4 x5 x6 x7 x8 x9 x10 x11
      go_wp2_with fail
      go_ret
      exact ⟨ret_bool (by rw [HM.out]; rw [hv2.out]; rfl), by first | exact below_next BW.out lk.out | (rw [← hbi]; exact below_next BW.out lk.out)⟩
    · have hv2 := Lib.hid (show decide (ver < cv) = false from by simpa using hv)
      by_cases hn : 16 ≤ n
      · have hn2 := Lib.hid (show decide (16 ≤ n) = true from by simpa using hn)
        have hn3 : (16 : Int) ≤ (n : Int) := by omega
        refine wp_region_quiet_below (by kernel_rfl) (by kernel_rfl) ?_
        repeat (go_big_quiet_step (exact regr C.out _ _))
        refine wpQuiet_nil ?_
        intro _ hw'
        obtain ⟨⟨dq, osq⟩, hw''⟩ := hw'
        subst hw''
        have lk := Lib.hid (below_regrown W dq osq)
        clear y2 y4 x4 x5 x6 x7 x8 x9 x10 x11
        go_wp2_with fail
        go_ret
        exact ⟨ret_bool (by rw [HM.out]; rw [hv2.out, hn2.out]; rfl), by first | exact below_next BW.out lk.out | (rw [← hbi]; exact below_next BW.out lk.out)⟩
      · have hn2 := Lib.hid (show decide (16 ≤ n) = false from by simpa using hn)
        have hn3 : ¬ (16 : Int) ≤ (n : Int) := by omega
        refine wp_region_quiet_below (by kernel_rfl) (by kernel_rfl) ?_
        repeat (go_big_quiet_step (exact regr C.out _ _))
        refine wpQuiet_nil ?_
        intro _ hw'
        obtain ⟨⟨dq, osq⟩, hw''⟩ := hw'
        subst hw''
        have lk := Lib.hid (below_regrown W dq osq)
        have z4 := y4 dq osq
        clear y2 y4 x4 x5 x6 x7 x8 x9 x10 x11
        have DD := Lib.hid (D.out _ lk.out)
        generalize grow (redrawn W dq) osq = w2 at *
        clear D C
        go_wp2_with fail
        refine DD.out.mono ?_; rintro e w3 ⟨rfl, b3⟩
        have B3 := Lib.hid (below_next (below_next BW.out lk.out) b3)
        clear b3
        go_wp2_with fail
        go_ret
        exact ⟨ret_bool (by rw [HM.out, hv2.out, hn2.out]; simp), by first | exact B3.out | (rw [← hbi]; exact B3.out)⟩
end
end Go.Proofs.Ytbjcmomicjdepaa
