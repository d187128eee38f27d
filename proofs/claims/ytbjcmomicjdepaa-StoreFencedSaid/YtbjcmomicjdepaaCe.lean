/- cloneEntries. -/
import Derived.Test.YtbjcmomicjdepaaMr
namespace Go.Proofs.Ytbjcmomicjdepaa
open Go.RowKit Go.Sort
set_option linter.unusedVariables false
set_option linter.unusedSimpArgs false
set_option maxRecDepth 100000

theorem cl_any (s : ByteArray) (h : s.size ≤ 281474976710656) : Ret 74 #[.string s] (.returned (.string s)) := fun w => clone_any s w h
set_option maxHeartbeats 4000000 in
theorem clent_any (w : World) (ao : Option Addr) (cap : Nat) (es : List En) (hr : Rds w 2 ao (es.map En.list)) (hn : ao = none → es = [] ∧ cap = 0) (f : Fit es) :
    Calls Try.prog 40 #[.slice ao es.length cap] w fun e w' =>
      ∃ ao' cap', e = .returned (.slice ao' es.length cap') ∧ w'.ownsRow w.heap.size 106 2 (.slice ao' es.length cap') es.length (fl En.list es) ∧ Below w.heap.size w w' := by
  have C := Lib.hid (cloneE_any w ao cap es hr hn f.len)
  obtain ⟨n, hn2⟩ : ∃ n, es.length = n := ⟨_, rfl⟩
  have hni : (n : Int) ≤ 1099511627776 := by have := f.len; omega
  have HN := Lib.hid hn2; have F := Lib.hid f
  rw [hn2] at C ⊢
  clear hr hn f hn2
  go_enter Try.func40, Try.ntmps40
  go_wp2_with fail
  refine C.out.mono ?_; rintro e w1 ⟨ao1, cap1, rfl, own1, b1⟩
  have O1 := Lib.hid own1; have B1 := Lib.hid b1
  clear own1 b1 C
  go_wp2_with fail
  go_loopw [9] (fun v9 wr => ∃ k : Nat, v9 = .int .i64 (k : Int) ∧ k ≤ n ∧ Hid (wr.ownsRow w.heap.size 106 2 (.slice ao1 n cap1) n (fl En.list es)) ∧ Hid (Below w.heap.size w wr)) (fun v9 _ => n - (intOf v9).toNat)
  case atStart => exact ⟨0, rfl, Nat.zero_le _, O1, B1⟩
  case round =>
    obtain ⟨k, rfl, hk, OR, BR⟩ := hrel
    clear O1 B1
    by_cases hkn : k < n
    · obtain ⟨e, he⟩ : ∃ e, es[k]? = some e := ⟨_, List.getElem?_eq_getElem (by rw [HN.out]; exact hkn)⟩
      have HE := Lib.hid he
      obtain ⟨g, rfl, hgB, hgl, hcap, hc, _, hfr⟩ := own_elem en_len OR.out HN.out he
      have hsz := F.out.sz e (List.mem_of_getElem? he)
      have C1 := Lib.hid (cl_any e.k hsz.1)
      have C2 := Lib.hid (cl_any e.v hsz.2)
      have a0 := hc 0 _ rfl
      have a1 := hc 1 _ rfl
      rw [Nat.add_zero] at a0
      have hki : (k : Int) < (n : Int) := by omega
      have hk0 : (0 : Int) ≤ (k : Int) := by omega
      have HGB := Lib.hid hgB
      clear hc hfr he hsz hcap hgB
      obtain ⟨ek, ev⟩ := e
      simp only at C1 C2 a0 a1
      go_upto_region 5 with (fail)
      have b2 := below_alloc (Below.refl wr.heap.size wr) (.cells #[.string ek, .string ev] 106)
      have q0 : (wr.alloc (.cells #[.string ek, .string ev] 106)).cell? ⟨wr.heap.size, 0, none⟩ = some (.string ek) := by go_simp
      have q1 : (wr.alloc (.cells #[.string ek, .string ev] 106)).cell? ⟨wr.heap.size, 1, none⟩ = some (.string ev) := by go_simp
      have O2 := Lib.hid (own_below OR.out b2)
      have B2 := Lib.hid (below_next BR.out b2)
      clear b2 a0 a1
      generalize wr.alloc (.cells #[.string ek, .string ev] 106) = w2 at *
      generalize wr.heap.size = bx at *
      have x0 := cell_regrown q0; have x1 := cell_regrown q1
      clear q0 q1
      refine region_tail 10 (by kernel_rfl) (by kernel_rfl) ?_
      simp only [List.take_succ_cons, List.take_zero, List.drop_succ_cons, List.drop_zero]
      repeat (go_big_quiet_step (first | exact C1.out.re _ _ _ | exact C2.out.re _ _ _))
      refine wpQuiet_nil ?_
      intro _ hw'
      obtain ⟨⟨dq, osq⟩, hw''⟩ := hw'
      subst hw''
      have lk := below_regrown w2 dq osq
      have o3 := own_below O2.out lk
      have B3 := Lib.hid (below_next B2.out lk)
      clear x0 x1 lk O2 B2
      generalize grow (redrawn w2 dq) osq = w3 at *
      obtain ⟨g', e', _, hgl3, _, hc, _, hfr⟩ := own_elem en_len o3 HN.out HE.out
      cases e'
      have a0 := hc 0 _ rfl
      have a1 := hc 1 _ rfl
      rw [Nat.add_zero] at a0
      have f0 := hfr (k * 2); have f1 := hfr (k * 2 + 1)
      have O4 := Lib.hid (own_setCells_same en_len o3 HN.out HE.out)
      have K4 := Lib.hid (keep_setCells g (En.list ⟨ek, ev⟩) (k * 2) w3)
      simp only [World.setCells, En.list] at O4 K4
      clear hc hfr o3
      go_wp2_with fail
      go_roundw
      case rel =>
        refine ⟨k + 1, by go_num, by omega, O4, Lib.hid ?_⟩
        exact B3.out.trans (K4.out.below B3.out.size (by simpa using HGB.out))
      case measure => simp [intOf]; omega
    · obtain rfl : n = k := by omega
      go_wp2_with fail
      go_ret
      exact ⟨ao1, cap1, rfl, OR.out, BR.out⟩
theorem ce_any (w : World) (s : Sd) (es : List En) (h : EsR w s es) (f : Fit es) :
    Calls Try.prog 40 #[.slice s.ao es.length s.cap] w fun e w' => ∃ t : Sd, e = .returned (.slice t.ao es.length t.cap) ∧ EsO w' w.heap.size t es ∧ Below w.heap.size w w' :=
  (clent_any w s.ao s.cap es h.rd h.nn f).mono fun e w' ⟨ao', cap', h1, h2, h3⟩ => ⟨⟨ao', cap'⟩, h1, h2, h3⟩
end Go.Proofs.Ytbjcmomicjdepaa
