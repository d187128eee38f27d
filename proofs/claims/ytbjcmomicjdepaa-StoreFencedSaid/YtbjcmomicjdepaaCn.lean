/- slices.Clone at entries, locks and votes. -/
import Derived.Test.YtbjcmomicjdepaaRt
import Derived.Maps.AppendAt
namespace Go.Proofs.Ytbjcmomicjdepaa
open Go.RowKit Go.Sort
set_option linter.unusedVariables false
set_option linter.unusedSimpArgs false
set_option maxRecDepth 100000

set_option maxHeartbeats 4000000 in
theorem cloneE_any (w : World) (ao : Option Addr) (cap : Nat) (l : List En) (hr : Rds w 2 ao (l.map En.list)) (hn : ao = none → l = [] ∧ cap = 0) (hl : l.length ≤ 1099511627776) :
    Calls Try.prog 73 #[.slice ao l.length cap] w fun e w' =>
      ∃ ao' cap', e = .returned (.slice ao' l.length cap') ∧ w'.ownsRow w.heap.size 106 2 (.slice ao' l.length cap') l.length (fl En.list l) ∧ Below w.heap.size w w' := by
  cases ao with
  | none =>
    obtain ⟨rfl, rfl⟩ := hn rfl
    clear hr hn hl
    show Calls _ _ #[.slice none 0 0] w _
    have hq := Lib.run_eql_slice_nil (P := Try.prog) w 23 106 none 0 0 0 0 Try.underlying23
    go_enter Try.func73, Try.ntmps73
    go_wp2_with fail
    go_ret
    exact ⟨none, 0, rfl, World.ownsRow_nil _ _ _ _, Below.refl _ _⟩
  | some ad =>
    clear hn
    obtain ⟨i0, hi0, hz0, hz1, hz2⟩ := info_parts en_info
    have HI := Lib.hid hi0; have HZ0 := Lib.hid hz0; have HZ1 := Lib.hid hz1; have HZ2 := Lib.hid hz2
    have b1 := below_alloc (Below.refl w.heap.size w) (.cells #[] 106)
    have r1 := heap_alloc_new w (.cells #[] 106)
    have o1 : (w.alloc (.cells #[] 106)).ownsRow w.heap.size 106 2 (.slice (some ⟨w.heap.size, 0, none⟩) 0 0) 0 [] := ⟨rfl, .inr ⟨w.heap.size, 0, #[], rfl, Nat.le_refl _, r1, Nat.le_refl _, by decide, rfl, rfl⟩⟩
    have O1 := Lib.hid o1
    have NEWS := Lib.hid (show ∀ (j : Nat) (u : Value), (fl En.list l)[j]? = some u → (w.alloc (.cells #[] 106)).cell? (ad.add j) = some u from fun j u hu => by
      have hne : l ≠ [] := by rintro rfl; simp [fl] at hu
      obtain ⟨x, r, rfl⟩ := List.exists_cons_of_ne_nil hne
      obtain ⟨g, o, e, _, _⟩ := hr 0 _ rfl
      cases e
      exact hr.news en_len (by omega) b1 j u hu)
    have ONE := Lib.hid (fl_one_cell en_one l)
    have HLEN := Lib.hid (show (fl En.list l).length = l.length * 2 from fl_len en_len l)
    have HL := Lib.hid hl
    have hmi : (l.length : Int) ≤ 1099511627776 := by omega
    generalize fl En.list l = xs at *
    generalize l.length = m at *
    clear hi0 hz0 hz1 hz2 b1 r1 o1 hr hl
    have hq := Lib.run_eql_slice_nil (P := Try.prog) w 23 106 (some ad) m cap 0 0 Try.underlying23
    go_enter Try.func73, Try.ntmps73
    go_wp2_with (at_builtin; refine wpList_append_own_at _ rfl (.tmp 5) (.tmp 6) 23 rfl w.heap.size 106 i0 _ 2 32 Try.underlying23 HI.out HZ0.out HZ1.out HZ2.out rfl (by decide) (.slice (some ⟨w.heap.size, 0, none⟩) 0 0) 0 [] rfl O1.out ad m cap xs rfl HLEN.out NEWS.out ONE.out (by have := HL.out; unfold maxLen; omega) (by have := HL.out; omega) (by simp) ?_; intro v2 w2 own2 gr2 nil2 at2)
    have k2 : Keep (blk (some (⟨w.heap.size, 0, none⟩ : Addr))) (w.alloc (.cells #[] 106)) w2 := keep_grown gr2
    rw [Nat.zero_add, List.nil_append] at own2
    obtain ⟨ao2, cap2, rfl, _, _⟩ := owns_shape own2
    clear nil2 at2 gr2
    go_ret
    refine ⟨ao2, cap2, rfl, own2, ?_⟩
    have b1 := below_alloc (Below.refl w.heap.size w) (.cells #[] 106)
    exact b1.trans (k2.below b1.size (by simp [blk]))
set_option maxHeartbeats 4000000 in
theorem cloneL_any (w : World) (ao : Option Addr) (cap : Nat) (l : List (Lk × Sd)) (hr : Rds w 12 ao (l.map lkc)) (hn : ao = none → l = [] ∧ cap = 0) (hl : l.length ≤ 1099511627776) :
    Calls Try.prog 80 #[.slice ao l.length cap] w fun e w' =>
      ∃ ao' cap', e = .returned (.slice ao' l.length cap') ∧ w'.ownsRow w.heap.size 38 12 (.slice ao' l.length cap') l.length (fl lkc l) ∧ Below w.heap.size w w' := by
  cases ao with
  | none =>
    obtain ⟨rfl, rfl⟩ := hn rfl
    clear hr hn hl
    show Calls _ _ #[.slice none 0 0] w _
    have hq := Lib.run_eql_slice_nil (P := Try.prog) w 40 38 none 0 0 0 0 Try.underlying40
    go_enter Try.func80, Try.ntmps80
    go_wp2_with fail
    go_ret
    exact ⟨none, 0, rfl, World.ownsRow_nil _ _ _ _, Below.refl _ _⟩
  | some ad =>
    clear hn
    obtain ⟨i0, hi0, hz0, hz1, hz2⟩ := info_parts lk_info
    have HI := Lib.hid hi0; have HZ0 := Lib.hid hz0; have HZ1 := Lib.hid hz1; have HZ2 := Lib.hid hz2
    have b1 := below_alloc (Below.refl w.heap.size w) (.cells #[] 38)
    have r1 := heap_alloc_new w (.cells #[] 38)
    have o1 : (w.alloc (.cells #[] 38)).ownsRow w.heap.size 38 12 (.slice (some ⟨w.heap.size, 0, none⟩) 0 0) 0 [] := ⟨rfl, .inr ⟨w.heap.size, 0, #[], rfl, Nat.le_refl _, r1, Nat.le_refl _, by decide, rfl, rfl⟩⟩
    have O1 := Lib.hid o1
    have NEWS := Lib.hid (show ∀ (j : Nat) (u : Value), (fl lkc l)[j]? = some u → (w.alloc (.cells #[] 38)).cell? (ad.add j) = some u from fun j u hu => by
      have hne : l ≠ [] := by rintro rfl; simp [fl] at hu
      obtain ⟨x, r, rfl⟩ := List.exists_cons_of_ne_nil hne
      obtain ⟨g, o, e, _, _⟩ := hr 0 _ rfl
      cases e
      exact hr.news lkc_len (by omega) b1 j u hu)
    have ONE := Lib.hid (fl_one_cell lk_one l)
    have HLEN := Lib.hid (show (fl lkc l).length = l.length * 12 from fl_len lkc_len l)
    have HL := Lib.hid hl
    have hmi : (l.length : Int) ≤ 1099511627776 := by omega
    generalize fl lkc l = xs at *
    generalize l.length = m at *
    clear hi0 hz0 hz1 hz2 b1 r1 o1 hr hl
    have hq := Lib.run_eql_slice_nil (P := Try.prog) w 40 38 (some ad) m cap 0 0 Try.underlying40
    go_enter Try.func80, Try.ntmps80
    go_wp2_with (at_builtin; refine wpList_append_own_at _ rfl (.tmp 5) (.tmp 6) 40 rfl w.heap.size 38 i0 _ 12 88 Try.underlying40 HI.out HZ0.out HZ1.out HZ2.out rfl (by decide) (.slice (some ⟨w.heap.size, 0, none⟩) 0 0) 0 [] rfl O1.out ad m cap xs rfl HLEN.out NEWS.out ONE.out (by have := HL.out; unfold maxLen; omega) (by have := HL.out; omega) (by simp) ?_; intro v2 w2 own2 gr2 nil2 at2)
    have k2 : Keep (blk (some (⟨w.heap.size, 0, none⟩ : Addr))) (w.alloc (.cells #[] 38)) w2 := keep_grown gr2
    rw [Nat.zero_add, List.nil_append] at own2
    obtain ⟨ao2, cap2, rfl, _, _⟩ := owns_shape own2
    clear nil2 at2 gr2
    go_ret
    refine ⟨ao2, cap2, rfl, own2, ?_⟩
    have b1 := below_alloc (Below.refl w.heap.size w) (.cells #[] 38)
    exact b1.trans (k2.below b1.size (by simp [blk]))
set_option maxHeartbeats 4000000 in
theorem cloneV_any (w : World) (ao : Option Addr) (cap : Nat) (l : List Vd) (hr : Rds w 2 ao (l.map Vd.list)) (hn : ao = none → l = [] ∧ cap = 0) (hl : l.length ≤ 1099511627776) :
    Calls Try.prog 81 #[.slice ao l.length cap] w fun e w' =>
      ∃ ao' cap', e = .returned (.slice ao' l.length cap') ∧ w'.ownsRow w.heap.size 51 2 (.slice ao' l.length cap') l.length (fl Vd.list l) ∧ Below w.heap.size w w' := by
  cases ao with
  | none =>
    obtain ⟨rfl, rfl⟩ := hn rfl
    clear hr hn hl
    show Calls _ _ #[.slice none 0 0] w _
    have hq := Lib.run_eql_slice_nil (P := Try.prog) w 34 51 none 0 0 0 0 Try.underlying34
    go_enter Try.func81, Try.ntmps81
    go_wp2_with fail
    go_ret
    exact ⟨none, 0, rfl, World.ownsRow_nil _ _ _ _, Below.refl _ _⟩
  | some ad =>
    clear hn
    obtain ⟨i0, hi0, hz0, hz1, hz2⟩ := info_parts vd_info
    have HI := Lib.hid hi0; have HZ0 := Lib.hid hz0; have HZ1 := Lib.hid hz1; have HZ2 := Lib.hid hz2
    have b1 := below_alloc (Below.refl w.heap.size w) (.cells #[] 51)
    have r1 := heap_alloc_new w (.cells #[] 51)
    have o1 : (w.alloc (.cells #[] 51)).ownsRow w.heap.size 51 2 (.slice (some ⟨w.heap.size, 0, none⟩) 0 0) 0 [] := ⟨rfl, .inr ⟨w.heap.size, 0, #[], rfl, Nat.le_refl _, r1, Nat.le_refl _, by decide, rfl, rfl⟩⟩
    have O1 := Lib.hid o1
    have NEWS := Lib.hid (show ∀ (j : Nat) (u : Value), (fl Vd.list l)[j]? = some u → (w.alloc (.cells #[] 51)).cell? (ad.add j) = some u from fun j u hu => by
      have hne : l ≠ [] := by rintro rfl; simp [fl] at hu
      obtain ⟨x, r, rfl⟩ := List.exists_cons_of_ne_nil hne
      obtain ⟨g, o, e, _, _⟩ := hr 0 _ rfl
      cases e
      exact hr.news vd_len (by omega) b1 j u hu)
    have ONE := Lib.hid (fl_one_cell vd_one l)
    have HLEN := Lib.hid (show (fl Vd.list l).length = l.length * 2 from fl_len vd_len l)
    have HL := Lib.hid hl
    have hmi : (l.length : Int) ≤ 1099511627776 := by omega
    generalize fl Vd.list l = xs at *
    generalize l.length = m at *
    clear hi0 hz0 hz1 hz2 b1 r1 o1 hr hl
    have hq := Lib.run_eql_slice_nil (P := Try.prog) w 34 51 (some ad) m cap 0 0 Try.underlying34
    go_enter Try.func81, Try.ntmps81
    go_wp2_with (at_builtin; refine wpList_append_own_at _ rfl (.tmp 5) (.tmp 6) 34 rfl w.heap.size 51 i0 _ 2 16 Try.underlying34 HI.out HZ0.out HZ1.out HZ2.out rfl (by decide) (.slice (some ⟨w.heap.size, 0, none⟩) 0 0) 0 [] rfl O1.out ad m cap xs rfl HLEN.out NEWS.out ONE.out (by have := HL.out; unfold maxLen; omega) (by have := HL.out; omega) (by simp) ?_; intro v2 w2 own2 gr2 nil2 at2)
    have k2 : Keep (blk (some (⟨w.heap.size, 0, none⟩ : Addr))) (w.alloc (.cells #[] 51)) w2 := keep_grown gr2
    rw [Nat.zero_add, List.nil_append] at own2
    obtain ⟨ao2, cap2, rfl, _, _⟩ := owns_shape own2
    clear nil2 at2 gr2
    go_ret
    refine ⟨ao2, cap2, rfl, own2, ?_⟩
    have b1 := below_alloc (Below.refl w.heap.size w) (.cells #[] 51)
    exact b1.trans (k2.below b1.size (by simp [blk]))
end Go.Proofs.Ytbjcmomicjdepaa
