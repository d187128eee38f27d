/- A store with one replica: find, findFull, findFor, State; isLock. -/
import Derived.Test.YtbjcmomicjdepaaPu
namespace Go.Proofs.Ytbjcmomicjdepaa
open Go.RowKit Go.Sort
set_option linter.unusedVariables false
set_option linter.unusedSimpArgs false
set_option linter.unusedSectionVars false
set_option maxRecDepth 100000

/-- one name alone -/
abbrev onlyF (nm : Nm) (b : Nat) : Nm → Option (Option Nat) := fun k => if k = nm then some (some b) else none
/-- block sb is a store with one replica -/
structure StR (w : World) (B sb gm b : Nat) (nm : Nm) (c : Cp) (s : Cs) : Prop where
  st : w.heap[sb]? = some (.cells #[.map (some gm)] 86 (0, 0))
  map : Rws w gm 1 (onlyF nm b)
  row : RowR w B b nm.r c s
  ne : sb ≠ gm
  sm : ∀ g ∈ s.mut b ++ s.dat, g ≠ sb ∧ g ≠ gm
  sB : B ≤ sb
  gB : B ≤ gm
  ok : 0 ≤ nm.b ∧ nm.b < 64 ∧ 0 ≤ nm.r ∧ nm.r < 4
theorem nm_ok {nm : Nm} (h : 0 ≤ nm.b ∧ nm.b < 64 ∧ 0 ≤ nm.r ∧ nm.r < 4) : nm.Ok := by
  constructor <;> (simp [Lit.wf, IntKind.min, IntKind.max, IntKind.signed, IntKind.bits]; omega)
theorem okE_fit {b : Int} {e : En} (h : okE b e = true) : e.k.size ≤ 32 ∧ e.v.size ≤ 64 := by
  unfold okE mk mv at h
  simp only [Bool.and_eq_true, decide_eq_true_eq] at h
  omega
theorem areB_fit {b : Int} {es : List En} (h : areB b es = true) : es.length ≤ 8 ∧ Fit es := by
  unfold areB at h
  simp only [Bool.and_eq_true, decide_eq_true_eq, List.all_eq_true] at h
  refine ⟨h.1, by omega, fun e he => ?_⟩
  obtain ⟨j, hj⟩ := List.getElem?_of_mem he
  have h2 := h.2 j (List.mem_range.2 (List.getElem?_eq_some_iff.1 hj).1)
  unfold stE at h2
  rw [hj] at h2
  simp only [Bool.and_eq_true] at h2
  have := okE_fit h2.1
  omega
theorem right_fit {i : It} (h : rightB i = true) : i.es.length ≤ 8 ∧ Fit i.es ∧ i.ver < 2147483647 := by
  unfold rightB at h
  simp only [Bool.and_eq_true, decide_eq_true_eq] at h
  obtain ⟨-, hv, -, h4⟩ := h
  split at h4
  · exact ⟨(areB_fit h4).1, (areB_fit h4).2, hv⟩
  · have : i.es = [] := by simpa using h4
    rw [this]
    exact ⟨by simp, Fit.nil, hv⟩
theorem fit_lock {l : Lk} (h : lockB l = true) : Fit l.it.es := by
  unfold lockB at h
  simp only [Bool.and_eq_true] at h
  exact (right_fit h.2).2.1
section
variable {w w' : World} {B sb gm b : Nat} {nm : Nm} {c c' : Cp} {s s' : Cs} {t : Sd} {l : Lk}
theorem StR.slt (h : StR w B sb gm b nm c s) : sb < w.heap.size := (Array.getElem?_eq_some_iff.1 h.st).1
theorem StR.keep {U : List Nat} (h : StR w B sb gm b nm c s) (k : Keep U w w') (hn : ∀ g ∈ sb :: gm :: (s.mut b ++ s.dat), g ∉ U) : StR w' B sb gm b nm c s :=
  ⟨row_keep h.st k (hn sb (by simp)), h.map.keep k (hn gm (by simp)), h.row.keep k (fun g hg => hn g (by simp only [List.mem_cons]; exact .inr (.inr hg))), h.ne, h.sm, h.sB, h.gB, h.ok⟩
theorem StR.below (h : StR w B sb gm b nm c s) (k : Below w.heap.size w w') : StR w' B sb gm b nm c s := h.keep (Keep.of_below k []) (by simp)
/-- a row that was turned -/
theorem StR.turn (h : StR w B sb gm b nm c s) (hr : RowR w' B b nm.r c' s') (k : Trn b s s' w w') : StR w' B sb gm b nm c' s' where
  st := row_keep h.st k.keep fun hm => (h.sm sb (List.mem_append.2 (.inl hm))).1 rfl
  map := h.map.keep k.keep fun hm => (h.sm gm (List.mem_append.2 (.inl hm))).2 rfl
  row := hr
  ne := h.ne
  sm := fun g hg => by
    have h1 := h.slt
    have h2 := h.map.lt
    rw [List.mem_append] at hg
    rcases hg with hg | hg
    · rcases k.m g hg with q | q
      · exact h.sm g (List.mem_append.2 (.inl q))
      · omega
    · rcases k.d g hg with q | q
      · exact h.sm g (List.mem_append.2 (.inr q))
      · omega
  sB := h.sB
  gB := h.gB
  ok := h.ok
theorem StR.at0 (h : StR w B sb gm b nm c s) : w.cell? ⟨sb, 0, none⟩ = some (.map (some gm)) := cell_of_row w sb 0 _ _ (0, 0) h.st
theorem StR.look (h : StR w B sb gm b nm c s) : (Instr.lookup 84 (.map (some gm)) (.agg #[.int .i64 nm.b, .int .i64 nm.r]) true).run Try.prog w = .ok (.tuple #[.pointer (some ⟨b, 0, none⟩), .bool true]) w := by
  have := h.map.look kNm nm (nm_ok h.ok)
  simp only [onlyF, if_true] at this
  exact this
set_option maxHeartbeats 1000000 in
theorem find_yes (w : World) (h : StR w B sb gm b nm c s) : Calls Try.prog 47 #[.pointer (some ⟨sb, 0, none⟩), .int .i64 nm.b, .int .i64 nm.r] w fun e w' => e = .returned (.tuple #[.pointer (some ⟨b, 0, none⟩), .int .i64 0]) ∧ w = w' := by
  have hl := h.look
  have a0 := h.at0
  clear h
  go_enter Try.func47, Try.ntmps47
  go_wp2_with fail
  go_ret2
  exact ⟨rfl, rfl⟩
set_option maxHeartbeats 1000000 in
theorem find_nil (x y : Int) (w : World) : Calls Try.prog 47 #[.pointer none, .int .i64 x, .int .i64 y] w fun e w' => e = .returned (.tuple #[.pointer none, .int .i64 1]) ∧ w = w' := by
  go_enter Try.func47, Try.ntmps47
  go_wp2_with fail
  go_ret2
  exact ⟨rfl, rfl⟩
set_option maxHeartbeats 1000000 in
theorem full_yes (w : World) (h : StR w B sb gm b nm c s) (hs : c.state = 2) : Calls Try.prog 49 #[.pointer (some ⟨sb, 0, none⟩), .int .i64 nm.b, .int .i64 nm.r] w fun e w' => e = .returned (.tuple #[.pointer (some ⟨b, 0, none⟩), .int .i64 0]) ∧ w = w' := by
  have C := Lib.hid (find_yes w h)
  have a0 := h.row.at_ 0 _ rfl
  rw [hs] at a0
  clear h hs
  go_enter Try.func49, Try.ntmps49
  go_wp2_with fail
  refine C.out.mono ?_; rintro e w1 ⟨rfl, rfl⟩
  go_wp2_with fail
  go_ret2
  exact ⟨rfl, rfl⟩
set_option maxHeartbeats 1000000 in
theorem full_nil (x y : Int) (w : World) : Calls Try.prog 49 #[.pointer none, .int .i64 x, .int .i64 y] w fun e w' => e = .returned (.tuple #[.pointer none, .int .i64 1]) ∧ w = w' := by
  have C := Lib.hid (find_nil x y w)
  go_enter Try.func49, Try.ntmps49
  go_wp2_with fail
  refine C.out.mono ?_; rintro e w1 ⟨rfl, rfl⟩
  go_wp2_with fail
  go_ret2
  exact ⟨rfl, rfl⟩
set_option maxHeartbeats 2000000 in
theorem islock_any (w : World) (h : EsR w t l.it.es) : Calls Try.prog 72 #[l.ag t] w fun e w' => e = .returned (.bool (lockB l)) ∧ Below w.heap.size w w' := by
  obtain ⟨W, hW⟩ : ∃ W, W = w.alloc (.cells (l.cells t) 38) := ⟨_, rfl⟩
  have bW : Below w.heap.size w W := by rw [hW]; exact below_alloc (Below.refl _ _) _
  have k1 : LkB W w.heap.size l t := by rw [hW]; exact LkB.new w l t
  have C := Lib.hid (right_any W l.it (h.below bW))
  have hb : lockB l = (decide (l.tx ≠ 0) && rightB l.it) := rfl
  rw [hb]
  generalize rightB l.it = rb at *
  have BW := Lib.hid bW
  have x0 := k1.c 0 _ rfl; have x4 := k1.c 4 _ rfl; have x5 := k1.c 5 _ rfl; have x6 := k1.c 6 _ rfl; have x7 := k1.c 7 _ rfl; have x8 := k1.c 8 _ rfl; have x9 := k1.c 9 _ rfl; have x10 := k1.c 10 _ rfl; have x11 := k1.c 11 _ rfl
  clear h hb bW k1
  obtain ⟨tx, m0, m1, m2, ⟨bk, ver, wt, es, i0, i1, i2, i3⟩⟩ := l
  simp only [Lk.ag, It.ag, Lk.cells] at hW x0 x4 x5 x6 x7 x8 x9 x10 x11 C ⊢
  by_cases ht : tx = 0
  · have ht2 : (tx != 0) = false := by simp [ht]
    have HT := Lib.hid (show decide (tx ≠ 0) = false from by simpa using ht)
    clear ht
    go_enter Try.func72, Try.ntmps72
    go_upto_region 1 with (fail)
    rw [← hW]
    clear hW
    generalize hbi : w.heap.size = bi at x0 x4 x5 x6 x7 x8 x9 x10 x11 ⊢
    go_wp2_with fail
    go_ret
    exact ⟨ret_bool (by rw [HT.out]; rfl), by first | exact BW.out | (rw [← hbi]; exact BW.out)⟩
  · have ht2 : (tx != 0) = true := by simpa using ht
    have HT := Lib.hid (show decide (tx ≠ 0) = true from by simpa using ht)
    clear ht
    go_enter Try.func72, Try.ntmps72
    go_upto_region 1 with (fail)
    rw [← hW]
    clear hW
    generalize hbi : w.heap.size = bi at x0 x4 x5 x6 x7 x8 x9 x10 x11 ⊢
    go_wp2_with fail
    refine C.out.mono ?_; rintro e w1 ⟨rfl, b1⟩
    have B1 := Lib.hid (below_next BW.out b1)
    clear b1
    go_wp2_with fail
    go_ret
    exact ⟨ret_bool (by rw [HT.out]; simp), by first | exact B1.out | (rw [← hbi]; exact B1.out)⟩
set_option maxHeartbeats 2000000 in
theorem for_nil (x : Int) (l : Lk) (t : Sd) (w : World) : Calls Try.prog 39 #[.pointer none, .int .i64 x, l.ag t] w fun e w' => e = .returned (.tuple #[.pointer none, .int .i64 1]) ∧ Below w.heap.size w w' := by
  obtain ⟨tx, m0, m1, m2, ⟨bk, ver, wt, es, i0, i1, i2, i3⟩⟩ := l
  simp only [Lk.ag]
  go_enter Try.func39, Try.ntmps39
  go_wp2_with fail
  go_ret2
  exact ⟨rfl, below_alloc (Below.refl _ _) _⟩
set_option maxHeartbeats 2000000 in
theorem for_any (w : World) (h : StR w B sb gm b nm c s) (hs : c.state = 2) (he : EsR w t l.it.es) (hb : l.it.bucket = nm.b) : Calls Try.prog 39 #[.pointer (some ⟨sb, 0, none⟩), .int .i64 nm.r, l.ag t] w fun e w' =>
    e = .returned (.tuple #[.pointer (if lockB l then some ⟨b, 0, none⟩ else none), .int .i64 (if lockB l then 0 else 155)]) ∧ Below w.heap.size w w' := by
  obtain ⟨W, hW⟩ : ∃ W, W = w.alloc (.cells (l.cells t) 38) := ⟨_, rfl⟩
  have bW : Below w.heap.size w W := by rw [hW]; exact below_alloc (Below.refl _ _) _
  have k1 : LkB W w.heap.size l t := by rw [hW]; exact LkB.new w l t
  have C := Lib.hid (islock_any (l := l) W (he.below bW))
  have D := Lib.hid (fun (w' : World) (k : Below W.heap.size W w') => full_yes w' ((h.below bW).below k) hs)
  have BW := Lib.hid bW
  have K1 := Lib.hid k1
  rw [← hb] at D
  generalize lockB l = lb at *
  have RG := Lib.hid k1.range
  clear h hs he hb bW k1
  obtain ⟨tx, m0, m1, m2, ⟨bk, ver, wt, es, i0, i1, i2, i3⟩⟩ := l
  simp only [Lk.ag, Lk.cells] at hW C D ⊢
  go_enter Try.func39, Try.ntmps39
  go_upto_region 1 with (fail)
  rw [← hW]
  clear hW
  generalize hbi : w.heap.size = bi at K1 RG ⊢
  go_wp2_with (refine wpList_load_mid rfl 38 (.tmp 5) rfl bi 0 rfl (Lk.list ⟨tx, m0, m1, m2, ⟨bk, ver, wt, es, i0, i1, i2, i3⟩⟩ t) _ RG.out Try.underlying38 rfl (lk_size _ _) ?_)
  refine C.out.mono ?_; rintro e w1 ⟨rfl, b1⟩
  have x4 := (K1.out.below b1).c 4 _ rfl
  have D1 := Lib.hid (D.out w1 b1)
  have B1 := Lib.hid (below_next BW.out b1)
  clear b1
  cases lb with
  | false =>
    go_wp2_with fail
    go_ret2
    exact ⟨rfl, by first | exact B1.out | (rw [← hbi]; exact B1.out)⟩
  | true =>
    go_wp2_with fail
    refine D1.out.mono ?_; rintro e w2 ⟨rfl, rfl⟩
    go_wp2_with fail
    go_ret2
    exact ⟨rfl, by first | exact B1.out | (rw [← hbi]; exact B1.out)⟩
end
end Go.Proofs.Ytbjcmomicjdepaa
