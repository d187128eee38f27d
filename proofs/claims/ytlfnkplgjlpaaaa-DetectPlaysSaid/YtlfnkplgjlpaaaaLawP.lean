/- DetectPlays: the walk. -/
import Derived.Test.YtlfnkplgjlpaaaaStp
import Derived.Test.YtlfnkplgjlpaaaaWts
import Derived.Deep.CutRange
namespace Go.Proofs.Ytlfnkplgjlpaaaa
open Go.RowKit Go.Sort
set_option linter.unusedVariables false

section
variable {w : World}
abbrev robj (g : Nat) : Obj := .cells #[.int .i64 (g : Int), .slice none 0 0] 32
abbrev tobj (hn hb : Nat) : Obj := .cells #[.pointer (some ⟨hn, 0, none⟩), .pointer (some ⟨hb, 0, none⟩), .int .i64 0] 34
theorem Tx.start {w0 : World} {hn g : Nat} (hg : 1 ≤ g ∧ g ≤ 4096) (hd : Det w w0.heap.size hn [hn] [] g) (b : Below w0.heap.size w0 w) :
    Tx w0 ((w.alloc (robj g)).alloc (tobj hn w.heap.size)) w0.heap.size (w.heap.size + 1) hn w.heap.size [] [] g 0 [] := by
  have b1 := below_alloc (Below.refl w.heap.size w) (robj g)
  have r1 := heap_alloc_new w (robj g)
  have hs : (w.alloc (robj g)).heap.size = w.heap.size + 1 := by simp
  have b2 := below_alloc (Below.refl (w.alloc (robj g)).heap.size (w.alloc (robj g))) (tobj hn w.heap.size)
  have r2 := heap_alloc_new (w.alloc (robj g)) (tobj hn w.heap.size)
  rw [hs] at r2
  have hlt := hd.blocks hn (by simp)
  have hsz := b.size
  refine ⟨[hn], [w.heap.size], (hd.below b1).below b2, ⟨none, 0, rfl, (b2.block _ (by omega)).trans r1, World.ownsRow_nil _ _ _ _, hsz, by simp [blk], List.Pairwise.nil, by simp, by simp, hg⟩, ?_, r2, ?_, by simp, by omega, ?_, by omega, by simp⟩
  · intro q hq hm
    simp only [List.mem_singleton] at hq hm
    omega
  · simp only [List.mem_singleton]; omega
  · exact b.trans ((b1.mono hsz).trans (b2.mono (by omega)))
end
set_option maxRecDepth 100000 in
set_option maxHeartbeats 16000000 in
theorem detectPlays_law (guess : Int) (wg : (Lit.int .i64 guess).wf = true) (ao : Option Addr) (n cap : Nat) (hc : n ≤ cap) (hm : cap ≤ maxLen) (W : World) (hr : OpsRd W ao n) :
    Calls Try.prog 3 #[.int .i64 guess, .slice ao n cap] W (LawOk W) := by
  have HR := Lib.hid hr
  clear hr
  have hni : (n : Int) ≤ 9223372036854775807 := by unfold maxLen at hm; omega
  go_enter Try.func3, Try.ntmps3
  go_wp2_with fail
  refine (awake_any W).mono ?_; rintro e w0 ⟨rfl, b0⟩
  have HB0 := Lib.hid b0; clear b0
  by_cases hg : 1 ≤ guess ∧ guess ≤ 4096
  · obtain ⟨g, rfl⟩ : ∃ g : Nat, guess = g := ⟨guess.toNat, by omega⟩
    have hg2 : 1 ≤ g ∧ g ≤ 4096 := by omega
    have e1 : decide (1 ≤ (g : Int)) = true := by simp; omega
    have e2 : decide ((g : Int) ≤ 4096) = true := by simp; omega
    go_wp2_with fail
    refine (new_yes g hg2 w0).mono ?_; rintro e w1 ⟨hn, rfl, h1, b1⟩
    have HT := Lib.hid (Tx.start hg2 h1 b1)
    have hs1 : (w1.alloc (robj g)).heap.size = w1.heap.size + 1 := by simp
    clear h1 b1 hg hg2
    go_upto_region 9 with (fail)
    generalize hwa : (w1.alloc (robj g)).alloc (tobj hn w1.heap.size) = wa at *
    clear hwa hs1
    generalize w1.heap.size + 1 = tb at *
    generalize w1.heap.size = hb at *
    go_wp2_with fail
    go_loopw [10, 11, 12] (fun v10 v11 v12 wr => ∃ (k : Nat) (S : List Nd) (now : Nat), v10 = .int .i64 (k : Int) ∧ k ≤ n ∧ k ≤ 500 ∧ Tx w0 wr w0.heap.size tb hn hb S S g now []) (fun v10 _ _ _ => n - (intOf v10).toNat)
    case atStart => exact ⟨0, [], 0, rfl, by omega, by omega, HT.out⟩
    case round =>
      clear HT
      obtain ⟨k, S, now, rfl, hk, hk5, hx⟩ := hrel
      have HX := Lib.hid hx
      have HB := Lib.hid (show Below W.heap.size W wr from by obtain ⟨_, _, h⟩ := hx; exact below_next HB0.out h.bel)
      clear hx
      by_cases hlt : k < n ∧ k < 500
      · obtain ⟨hlt, hlt5⟩ := hlt
        obtain ⟨gg, oo, kind, num, x, raw, rfl, wn, wx, hgl, q0, q1, q2, q3⟩ := (HR.out.below HB.out) k hlt
        have hki : (0 : Int) ≤ (k : Int) := by omega
        have hki2 : (k : Int) < (n : Int) := by omega
        have hki3 : (k : Int) < 500 := by omega
        have SA := Lib.hid (step_any kind num x raw wn wx wr HX.out)
        clear wn wx
        go_wp2_with fail
        refine SA.out.mono ?_; rintro e w3 ⟨S2, now2, rfl, h3⟩
        have T3 := Lib.hid h3
        clear h3 SA q0 q1 q2 q3 HX HB
        go_wp2_with fail
        refine (waits_any w3 T3.out).mono ?_; rintro e w4 ⟨rfl, b4⟩
        have T4 := Lib.hid (T3.out.below b4)
        clear b4 T3
        go_wp2_with fail
        go_roundw
        case rel => exact ⟨k + 1, S2, now2, by go_num, by omega, by omega, T4.out⟩
        case measure => simp [intOf]; omega
      · rcases Nat.lt_or_ge k n with hkn | hkn
        · have hk30 : k = 500 := by omega
          subst hk30
          have hki2 : (500 : Int) < (n : Int) := by omega
          rw [show ((500 : Nat) : Int) = 500 from rfl]
          clear hk hk5 hlt hkn
          go_wp2_with fail
          go_ret
          exact ⟨rfl, HB.out⟩
        · obtain rfl : k = n := by omega
          clear hk hk5 hlt hkn
          go_wp2_with fail
          go_ret
          exact ⟨rfl, HB.out⟩
  · have HN := Lib.hid (new_no guess hg w0)
    as_aux_lemma =>
      by_cases h1 : 1 ≤ guess
      · have e1 : decide (1 ≤ guess) = true := by simpa using h1
        have e2 : decide (guess ≤ 4096) = false := by simp; omega
        go_wp2_with fail
        refine HN.out.mono ?_; rintro e w1 ⟨rfl, rfl⟩
        go_wp2_with fail
        go_ret
        exact ⟨rfl, HB0.out⟩
      · have e1 : decide (1 ≤ guess) = false := by simpa using h1
        go_wp2_with fail
        refine HN.out.mono ?_; rintro e w1 ⟨rfl, rfl⟩
        go_wp2_with fail
        go_ret
        exact ⟨rfl, HB0.out⟩
end Go.Proofs.Ytlfnkplgjlpaaaa
