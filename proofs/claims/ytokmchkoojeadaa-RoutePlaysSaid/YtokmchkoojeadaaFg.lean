/- Fingers of a table; Walk. -/
import Derived.Test.YtokmchkoojeadaaAw
import Derived.Lib.SliceRun
namespace Go.Proofs.Ytokmchkoojeadaa
open Go.RowKit Go.Sort
set_option linter.unusedVariables false
set_option linter.unusedSimpArgs false
set_option maxRecDepth 100000
section
variable {B b cap : Nat} {ao : Option Addr} {s p c : Pe} {F : List Pe}
set_option maxHeartbeats 4000000 in
theorem clone_any (w : World) (hown : w.ownsRow B 26 3 (.slice ao F.length cap) F.length (fl Pe.list F)) (hne : ao = none ∧ F = [] ∨ F ≠ []) (hl : F.length ≤ 1000) :
    Calls Try.prog 30 #[.slice ao F.length cap] w fun e w' =>
      ∃ ao' cap', e = .returned (.slice ao' F.length cap') ∧ w'.ownsRow w.heap.size 26 3 (.slice ao' F.length cap') F.length (fl Pe.list F) ∧ Below w.heap.size w w' := by
  rcases hne with ⟨rfl, rfl⟩ | hne
  · obtain rfl : cap = 0 := by
      rcases hown.2 with ⟨h2, _⟩ | ⟨g, cap', cur, h2, _⟩
      · cases h2; rfl
      · cases h2
    clear hown hl
    show Calls _ _ #[.slice none 0 0] w _
    have hq := Lib.run_eql_slice_nil (P := Try.prog) w 39 26 none 0 0 0 0 Try.underlying39
    go_enter Try.func30, Try.ntmps30
    go_wp2_with fail
    go_ret
    exact ⟨none, 0, rfl, World.ownsRow_nil _ _ _ _, Below.refl _ _⟩
  · have h0 : 0 < F.length := List.length_pos_iff.2 hne
    obtain ⟨g, rfl, _, hcap, hgB, hgl⟩ := owns_none hown h0
    obtain ⟨i0, hi0, hz0, hz1, hz2⟩ := info_parts peer_info
    have HI := Lib.hid hi0; have HZ0 := Lib.hid hz0; have HZ1 := Lib.hid hz1; have HZ2 := Lib.hid hz2
    have b1 := below_alloc (Below.refl w.heap.size w) (.cells #[] 26)
    have r1 := heap_alloc_new w (.cells #[] 26)
    have o1 : (w.alloc (.cells #[] 26)).ownsRow w.heap.size 26 3 (.slice (some ⟨w.heap.size, 0, none⟩) 0 0) 0 [] := ⟨rfl, .inr ⟨w.heap.size, 0, #[], rfl, Nat.le_refl _, r1, Nat.le_refl _, by decide, rfl, rfl⟩⟩
    have O1 := Lib.hid o1
    have NEWS := Lib.hid (show ∀ (j : Nat) (u : Value), (fl Pe.list F)[j]? = some u → (w.alloc (.cells #[] 26)).cell? ((⟨g, 0, none⟩ : Addr).add j) = some u from fun j u hu => by
      have hj : j < F.length * 3 := by have := (List.getElem?_eq_some_iff.1 hu).1; rwa [fl_len pe_len] at this
      have hadd : (⟨g, 0, none⟩ : Addr).add j = ⟨g, j, none⟩ := by unfold Addr.add; split <;> simp_all
      rw [hadd, b1.cell (p := ⟨g, j, none⟩) hgl]
      obtain ⟨x, hx⟩ : ∃ x, F[j / 3]? = some x := ⟨_, List.getElem?_eq_getElem (by omega)⟩
      have h2 := owns_px hown hx (q := j % 3) (by omega)
      rw [show j / 3 * 3 + j % 3 = j by omega] at h2
      rw [h2, ← hu]
      have h3 := fl_at pe_len F (j / 3) (j % 3) (by omega)
      rw [show j / 3 * 3 + j % 3 = j by omega, hx] at h3
      exact h3.symm)
    have ONE := Lib.hid (show ∀ u ∈ fl Pe.list F, u.oneCell' = true from fun u hu => by
      obtain ⟨x, _, hx⟩ := List.mem_flatMap.1 hu
      exact pe_one x u hx)
    have HLEN := Lib.hid (show (fl Pe.list F).length = F.length * 3 from fl_len pe_len F)
    generalize fl Pe.list F = xs at *
    generalize F.length = m at *
    have HL := Lib.hid hl; have H0 := Lib.hid h0
    have hmi : (0 : Int) < (m : Int) := by omega
    clear hi0 hz0 hz1 hz2 b1 r1 o1 hown hne hcap hgB hgl hl h0
    have hq := Lib.run_eql_slice_nil (P := Try.prog) w 39 26 (some ⟨g, 0, none⟩) m cap 0 0 Try.underlying39
    go_enter Try.func30, Try.ntmps30
    go_wp2_with (at_builtin; refine wpList_append_lies _ rfl (.tmp 5) (.tmp 6) 39 rfl w.heap.size 26 i0 _ 3 24 Try.underlying39 HI.out HZ0.out HZ1.out HZ2.out rfl (by decide) (.slice (some ⟨w.heap.size, 0, none⟩) 0 0) 0 [] rfl O1.out ⟨g, 0, none⟩ m cap xs rfl HLEN.out NEWS.out ONE.out H0.out (by have := HL.out; unfold maxLen; omega) (by have := HL.out; omega) (by simp) _ rfl ?_; intro ga ca w2 own2 gr2 at2 lt2)
    have k2 : Keep (blk (some (⟨w.heap.size, 0, none⟩ : Addr))) (w.alloc (.cells #[] 26)) w2 := keep_grown gr2
    go_ret
    rw [Nat.zero_add, List.nil_append] at own2
    refine ⟨some ⟨ga, 0, none⟩, ca, rfl, own2, ?_⟩
    have b1 := below_alloc (Below.refl w.heap.size w) (.cells #[] 26)
    exact b1.trans (k2.below b1.size (by simp [blk]))
theorem fingers_any (w : World) (h : TbW w B b ao cap s p c F) (hne : ao = none ∧ F = [] ∨ F ≠ []) (hl : F.length ≤ 1000) :
    Calls Try.prog 11 #[.pointer (some ⟨b, 0, none⟩)] w fun e w' =>
      ∃ ao' cap', e = .returned (.slice ao' F.length cap') ∧ w'.ownsRow w.heap.size 26 3 (.slice ao' F.length cap') F.length (fl Pe.list F) ∧ Below w.heap.size w w' := by
  have C := Lib.hid (clone_any w h.own hne hl)
  have t9 := h.row.at_ 9
  simp only [rowT, List.getElem?_toArray, List.getElem?_cons_succ, List.getElem?_cons_zero] at t9
  generalize fl Pe.list F = xs at *
  generalize F.length = m at *
  clear h hne
  go_enter Try.func11, Try.ntmps11
  go_wp2_with fail
  refine C.out.mono ?_; rintro e w2 ⟨ao', cap', rfl, o2, b2⟩
  go_wp2_with fail
  go_ret
  exact ⟨ao', cap', rfl, o2, b2⟩
/-- what Walk says -/
def walkR (s p c : Pe) (th tl : Int) : Pe × Bool := if own s p c th tl then (s, true) else (c, false)
set_option maxHeartbeats 4000000 in
theorem walk_any (th tl : Int) (w : World) (h : TbW w B b ao cap s p c F) : Calls Try.prog 18 #[.pointer (some ⟨b, 0, none⟩), pos th tl] w fun e w' => e = .returned (.tuple #[(walkR s p c th tl).1.v, .bool (walkR s p c th tl).2]) ∧ Below w.heap.size w w' := by
  have B0 := below_alloc (Below.refl w.heap.size w) (.cells #[.int .u64 th, .int .u64 tl] 24)
  have B1 := below_alloc (Below.refl _ (w.alloc (.cells #[.int .u64 th, .int .u64 tl] 24))) (.cells #[.int .i64 0, .int .u64 0, .int .u64 0] 26)
  have R0 := row_keep (heap_alloc_new w (.cells #[.int .u64 th, .int .u64 tl] 24)) (Keep.of_below B1 []) (by simp)
  have R1 := heap_alloc_new (w.alloc (.cells #[.int .u64 th, .int .u64 tl] 24)) (.cells #[.int .i64 0, .int .u64 0, .int .u64 0] 26)
  rw [World.size_alloc] at R1
  have BB := Lib.hid (below_next B0 B1)
  have H1 := Lib.hid (h.below BB.out)
  have Q0 := Lib.hid R0; have Q1 := Lib.hid R1
  clear B0 B1 R0 R1 h
  obtain ⟨ob, hob⟩ : ∃ x, own s p c th tl = x := ⟨_, rfl⟩
  unfold walkR
  have OW := Lib.hid (fun w1 sv (h : TbR w1 b s p c sv) => owns_any th tl w1 h)
  rw [hob] at OW ⊢
  clear hob
  cases ob
  all_goals
    go_enter Try.func18, Try.ntmps18
    go_upto_region 1 with (fail)
    generalize (w.alloc (.cells #[.int .u64 th, .int .u64 tl] 24)).alloc (.cells #[.int .i64 0, .int .u64 0, .int .u64 0] 26) = w1 at *
    obtain ⟨x1, hx1⟩ : ∃ x, x = w.heap.size + 1 := ⟨_, rfl⟩
    rw [← hx1] at Q1 ⊢
    obtain ⟨x0, hx0⟩ : ∃ x, x = w.heap.size := ⟨_, rfl⟩
    rw [← hx0] at Q0 ⊢
    have XX := Lib.hid (show w.heap.size ≤ x1 from by omega)
    clear hx0 hx1
    have a0 := cell_of_row w1 x0 0 _ _ (0, 0) Q0.out; have a1 := cell_of_row w1 x0 1 _ _ (0, 0) Q0.out
    simp only [List.getElem?_toArray, List.getElem?_cons_succ, List.getElem?_cons_zero] at a0 a1
    go_wp2_with fail
    refine (OW.out w1 _ H1.out.row).mono ?_; rintro e w2 ⟨rfl, b2⟩
    have H2 := Lib.hid (H1.out.below b2)
    have Q2 := Lib.hid (row_keep Q1.out (Keep.of_below b2 []) (by simp))
    have B2 := Lib.hid (below_next BB.out b2)
    clear b2 a0 a1
    have t0 := H2.out.row.at_ 0; have t1 := H2.out.row.at_ 1; have t2 := H2.out.row.at_ 2; have t6 := H2.out.row.at_ 6; have t7 := H2.out.row.at_ 7; have t8 := H2.out.row.at_ 8
    have c0 := cell_of_row w2 x1 0 _ _ (0, 0) Q2.out; have c1 := cell_of_row w2 x1 1 _ _ (0, 0) Q2.out; have c2 := cell_of_row w2 x1 2 _ _ (0, 0) Q2.out
    have f0 := frozen_of_row w2 x1 0 _ _ Q2.out; have f1 := frozen_of_row w2 x1 1 _ _ Q2.out; have f2 := frozen_of_row w2 x1 2 _ _ Q2.out
    simp only [rowT, List.getElem?_toArray, List.getElem?_cons_succ, List.getElem?_cons_zero] at t0 t1 t2 t6 t7 t8 c0 c1 c2
    go_wp2_with fail
    first
      | (have r3 := row3_set Q2.out (.int .i64 s.n) (.int .u64 s.h) (.int .u64 s.l)
         have k3 := row3_keep w2 x1 (.int .i64 s.n) (.int .u64 s.h) (.int .u64 s.l)
         refine bodyPost_ret (v := .tuple #[s.v, .bool true]) (results_cell_tmp Try.results18 rfl ?_ rfl) rfl ⟨rfl, B2.out.trans (k3.below B2.out.size (by have := XX.out; simpa using this))⟩
         exact run_loadVar_row _ x1 26 26 _ (0, 0) _ r3 Try.underlying26 rfl (by kernel_rfl))
      | (have r3 := row3_set Q2.out (.int .i64 c.n) (.int .u64 c.h) (.int .u64 c.l)
         have k3 := row3_keep w2 x1 (.int .i64 c.n) (.int .u64 c.h) (.int .u64 c.l)
         refine bodyPost_ret (v := .tuple #[c.v, .bool false]) (results_cell_tmp Try.results18 rfl ?_ rfl) rfl ⟨rfl, B2.out.trans (k3.below B2.out.size (by have := XX.out; simpa using this))⟩
         exact run_loadVar_row _ x1 26 26 _ (0, 0) _ r3 Try.underlying26 rfl (by kernel_rfl))
end
end Go.Proofs.Ytokmchkoojeadaa
