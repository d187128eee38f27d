/- The live question. -/
import Derived.Test.YtbjcmomicjdepaaRd
namespace Go.Proofs.Ytbjcmomicjdepaa
open Go.RowKit Go.Sort
set_option linter.unusedVariables false
set_option linter.unusedSimpArgs false
set_option linter.unusedSectionVars false
set_option maxRecDepth 100000
abbrev nm0 : Nm := ⟨0, 0⟩
theorem nm0_ok : 0 ≤ nm0.b ∧ nm0.b < 64 ∧ 0 ≤ nm0.r ∧ nm0.r < 4 := by decide
abbrev k7 : Lk := ask 7 0 true 1 1 1 0
abbrev k8 : Lk := ask 8 0 false 1 1 1 0
abbrev k9 : Lk := ask 9 1 true 2 1 1 1
abbrev cA : Cp := {newC 2 1 with ls := [k7], vs := [⟨7, 1⟩]}
abbrev cB : Cp := {newC 2 1 with ls := [k7], vs := [⟨7, 1⟩, ⟨8, 2⟩]}
abbrev cC : Cp := {newC 2 1 with ver := 1, vs := [⟨7, 1⟩, ⟨8, 2⟩]}
theorem vA : voteR 0 (newC 2 1) k7 = (1, 0, cA) := by kernel_rfl
theorem vB : voteR 0 cA k8 = (2, 0, cB) := by kernel_rfl
theorem vC : decideR cB k7 true = (0, cC) := by kernel_rfl
theorem vD : voteR 0 cC k9 = (0, 153, cC) := by kernel_rfl
section
variable {w w' : World} {B sb gm b : Nat} {c : Cp} {s : Cs}
/-- a store with the replica 0 of the bucket 0, opened full -/
theorem opened (w : World) (h : NewR w sb) : Calls Try.prog 17 #[.pointer (some ⟨sb, 0, none⟩), .int .i64 0, .int .i64 0, .int .u32 1, .bool true] w fun e w' =>
    e = .returned (.int .i64 0) ∧ ∃ gm b, StR w' sb sb gm b nm0 (newC 2 1) newS ∧ Keep [sb] w w' := open_new (nm := nm0) w h nm0_ok 1 (by decide) true
theorem vote0 (w : World) (h : StR w B sb gm b nm0 c s) (hs : c.state = 2) {l : Lk} {t : Sd} (he : EsR w t l.it.es) (hb : l.it.bucket = 0) {v e : Int} {c1 : Cp} (hv : voteR 0 c l = (v, e, c1)) :
    Calls Try.prog 19 #[.pointer (some ⟨sb, 0, none⟩), .int .i64 0, l.ag t] w (VtEnd w B sb gm b nm0 s v e c1) := by
  have := vote_any w h hs he hb
  rw [show nm0.r = 0 from rfl, hv] at this
  exact this
theorem decide0 (w : World) (h : StR w B sb gm b nm0 c s) (hs : c.state = 2) {l : Lk} {t : Sd} (he : EsR w t l.it.es) (hb : l.it.bucket = 0) (h0 : 0 ≤ l.it.ver) (cm : Bool) {e : Int} {c1 : Cp} (hv : decideR c l cm = (e, c1)) :
    Calls Try.prog 18 #[.pointer (some ⟨sb, 0, none⟩), .int .i64 0, l.ag t, .bool cm] w (DcEnd w B sb gm b nm0 s e c1) := by
  have := decide_any w h hs he hb h0 cm
  rw [hv] at this
  exact this
theorem StR.blw (h : StR w B sb gm b nm0 c s) {s1 : Cs} (k : Trn b s s1 w w') : Below B w w' :=
  k.keep.below (Nat.le_trans h.sB (Nat.le_of_lt h.slt)) fun g hg => h.row.bs g (List.mem_append.2 (.inl hg))
theorem StR.rebase {B' : Nat} {nm : Nm} (h : StR w B sb gm b nm c s) (hb : B' ≤ B) : StR w B' sb gm b nm c s :=
  ⟨h.st, h.map, ⟨h.row.row, h.row.ll, h.row.d, h.row.fd, owns_base h.row.l hb, h.row.le, owns_base h.row.v hb, h.row.nd, h.row.ap, fun g hg => Nat.le_trans hb (h.row.bs g hg), h.row.lt, h.row.few, h.row.fev⟩, h.ne, h.sm, Nat.le_trans hb h.sB, Nat.le_trans hb h.gB, h.ok⟩
set_option maxHeartbeats 8000000 in
theorem alive_any : Ret 13 #[] (.returned (.bool true)) := by
  intro w
  have N := Lib.hid (new_any w)
  have L7 := Lib.hid (lock_any 7 0 true 1 1 1 0)
  have L8 := Lib.hid (lock_any 8 0 false 1 1 1 0)
  have L9 := Lib.hid (lock_any 9 1 true 2 1 1 1)
  simp only [Lk.ag, ask] at L7 L8 L9
  go_enter Try.func13, Try.ntmps13
  go_wp2_with fail
  refine N.out.mono ?_; rintro e w1 ⟨sb, rfl, n1, hsb, b1⟩
  have HSB := Lib.hid hsb
  have B1 := Lib.hid b1
  have O := Lib.hid (opened w1 n1)
  clear hsb b1 n1 N
  go_wp2_with fail
  refine O.out.mono ?_; rintro e w2 ⟨rfl, gm, b, h2, k2⟩
  have H2 := Lib.hid (h2.rebase HSB.out)
  have B2 := Lib.hid (B1.out.trans (k2.below B1.out.size (by have := HSB.out; simpa using this)))
  clear h2 k2 O B1
  go_wp2_with fail
  refine (L7.out _).mono ?_; rintro e w3 ⟨rfl, b3⟩
  have V := Lib.hid (vote0 w3 (H2.out.below b3) rfl (l := k7) (EsR.nil _) rfl vA)
  have B3 := Lib.hid (below_next B2.out b3)
  have b3' := b3
  simp only [Lk.ag, ask] at V
  clear b3 B2
  go_wp2_with fail
  refine V.out.mono ?_; rintro e w4 ⟨rfl, s4, h4, t4⟩
  have H4 := Lib.hid h4
  have B4 := Lib.hid (B3.out.trans ((H2.out.below b3').blw t4))
  clear h4 t4 V H2 B3
  go_wp2_with fail
  refine (L8.out _).mono ?_; rintro e w5 ⟨rfl, b5⟩
  have V := Lib.hid (vote0 w5 (H4.out.below b5) rfl (l := k8) (EsR.nil _) rfl vB)
  have B5 := Lib.hid (below_next B4.out b5)
  have b5' := b5
  simp only [Lk.ag, ask] at V
  clear b5 B4
  go_wp2_with fail
  refine V.out.mono ?_; rintro e w6 ⟨rfl, s6, h6, t6⟩
  have H6 := Lib.hid h6
  have B6 := Lib.hid (B5.out.trans ((H4.out.below b5').blw t6))
  clear h6 t6 V H4 B5 b5'
  go_wp2_with fail
  refine (L7.out _).mono ?_; rintro e w7 ⟨rfl, b7⟩
  have V := Lib.hid (decide0 w7 (H6.out.below b7) rfl (l := k7) (EsR.nil _) rfl (by decide) true vC)
  have B7 := Lib.hid (below_next B6.out b7)
  have b7' := b7
  simp only [Lk.ag, ask] at V
  clear b7 B6
  go_wp2_with fail
  refine V.out.mono ?_; rintro e w8 ⟨rfl, s8, h8, t8⟩
  have H8 := Lib.hid h8
  have B8 := Lib.hid (B7.out.trans ((H6.out.below b7').blw t8))
  clear h8 t8 V H6 B7 b7'
  have R := Lib.hid (read_any w8 H8.out rfl)
  go_wp2_with fail
  refine R.out.mono ?_; rintro e w9 ⟨t, rfl, o9, b9⟩
  have H9 := Lib.hid (H8.out.below b9)
  have B9 := Lib.hid (below_next B8.out b9)
  clear o9 b9 R H8 B8
  have b10 := below_alloc (Below.refl w9.heap.size w9) (.cells ⟨anL 1 1 0 t⟩ 64)
  have k10 : AnB (w9.alloc (.cells ⟨anL 1 1 0 t⟩ 64)) w9.heap.size 1 1 0 t := heap_alloc_new w9 _
  have H10 := Lib.hid (H9.out.below b10)
  have B10 := Lib.hid (below_next B9.out b10)
  have K10 := Lib.hid k10
  have HAB := Lib.hid (show w9.heap.size ∉ s8.mut b from fun hm => by have := H9.out.row.mlt _ hm; omega)
  clear b10 k10 H9 B9
  go_upto_region 9 with (fail)
  simp only [anL] at H10 B10 K10
  try simp only [List.length_nil]
  generalize w9.alloc (.cells ⟨[.int .u32 0, .int .u32 1, .int .u32 1, .slice t.ao 0 t.cap]⟩ 64) = w10 at *
  generalize w9.heap.size = ab at *
  go_wp2_with fail
  refine (L9.out _).mono ?_; rintro e w11 ⟨rfl, b11⟩
  have V := Lib.hid (vote0 w11 (H10.out.below b11) rfl (l := k9) (EsR.nil _) rfl vD)
  have B11 := Lib.hid (below_next B10.out b11)
  have K11 := Lib.hid (row_keep K10.out (Keep.of_below b11 []) (by simp))
  have hbl := (Array.getElem?_eq_some_iff.1 K10.out).1
  have b11' := b11
  simp only [Lk.ag, ask] at V
  clear b11 B10
  go_wp2_with fail
  refine V.out.mono ?_; rintro e w12 ⟨rfl, s12, h12, t12⟩
  have B12 := Lib.hid (B11.out.trans ((H10.out.below b11').blw t12))
  have k12 := row_keep K11.out t12.keep HAB.out
  have y2 := cell_of_row w12 ab 2 _ _ (0, 0) k12
  simp only [List.getElem?_toArray, List.getElem?_cons_zero, List.getElem?_cons_succ] at y2
  clear h12 t12 k12 K11 V hbl b11' H10 B11
  go_wp2_with fail
  go_ret
  exact ⟨rfl, B12.out⟩
end
end Go.Proofs.Ytbjcmomicjdepaa
