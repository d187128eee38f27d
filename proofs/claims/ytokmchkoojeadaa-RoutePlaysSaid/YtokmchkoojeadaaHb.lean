/- Both tables side by side: Handle of both. -/
import Derived.Test.YtokmchkoojeadaaRh
import Derived.Test.YtokmchkoojeadaaRl
import Derived.Test.YtokmchkoojeadaaRn
import Derived.Test.YtokmchkoojeadaaLx
import Derived.Test.YtokmchkoojeadaaFg
namespace Go.Proofs.Ytokmchkoojeadaa
open Go.RowKit Go.Sort
set_option linter.unusedVariables false
set_option linter.unusedSimpArgs false
set_option maxRecDepth 100000
/-- both tables: the program's, the document's -/
def Two (w : World) (B b d : Nat) (s p c : Pe) (F : List Pe) : Prop := ∃ ao cap ad cad, TbW w B b ao cap s (nbP s p c) (nbC s c) F ∧ DbW w B d ad cad s p c F ∧ (∀ q ∈ tbB b ao, q ∉ tbB d ad) ∧ (ao = none ∧ F = [] ∨ F ≠ []) ∧ F.length ≤ 4 ∧ (F = [] → (c.n == s.n) = true)
theorem Two.below {w w' : World} {B b d : Nat} {s p c : Pe} {F : List Pe} (h : Two w B b d s p c F) (k : Below w.heap.size w w') : Two w' B b d s p c F := by
  obtain ⟨ao, cap, ad, cad, h1, h2, h3⟩ := h
  exact ⟨ao, cap, ad, cad, h1.below k, h2.below k, h3⟩
theorem Two.own {w : World} {B b d : Nat} {s p c : Pe} {F : List Pe} (h : Two w B b d s p c F) (th tl : Int) : own s (nbP s p c) (nbC s c) th tl = true ∨ F ≠ [] := by
  obtain ⟨ao, cap, ad, cad, _, _, _, _, _, h6⟩ := h
  by_cases e : F = []
  · refine .inl ?_
    rw [own_doc]
    unfold dOwn
    rw [h6 e]
    rfl
  · exact .inr e
theorem Two.len {w : World} {B b d : Nat} {s p c : Pe} {F : List Pe} (h : Two w B b d s p c F) : F.length ≤ 4 := by
  obtain ⟨ao, cap, ad, cad, _, _, _, _, h5, _⟩ := h
  exact h5
/-- what either Handle ends in -/
def HEnd (k f t id ph pl hops er : Int) (M : List Pe) (w : World) (e : Ending) (w' : World) : Prop := ∃ q m qc, e = .returned (.tuple #[.agg (msgZ k f t id ph pl hops (.slice q m qc)), .int .i64 er]) ∧ PsRd w' q M ∧ M.length = m ∧ m ≤ 1 ∧ Below w.heap.size w w'
theorem HEnd.zero {er : Int} {w w' : World} {e : Ending} (h : e = .returned (.tuple #[.agg (msgC 0 0 0 (.slice none 0 0)), .int .i64 er]) ∧ Below w.heap.size w w') : HEnd 0 0 0 0 0 0 0 er [] w e w' := ⟨none, 0, 0, h.1, PsRd.nil _ _, rfl, by omega, h.2⟩
theorem HEnd.one {k f t id ph pl hops er : Int} {x : Pe} {w w' : World} {e : Ending} (h : ∃ g, e = .returned (.tuple #[.agg (msgZ k f t id ph pl hops (.slice (some ⟨g, 0, none⟩) 1 1)), .int .i64 er]) ∧ w'.heap[g]? = some (.cells #[.int .i64 x.n, .int .u64 x.h, .int .u64 x.l] 26 (0, 0)) ∧ w.heap.size ≤ g ∧ Below w.heap.size w w') : HEnd k f t id ph pl hops er [x] w e w' := by
  obtain ⟨g, h1, h2, _, h4⟩ := h
  refine ⟨some ⟨g, 0, none⟩, 1, 1, h1, fun j y hy => ?_, rfl, by omega, h4⟩
  obtain rfl : j = 0 := by have := (List.getElem?_eq_some_iff.1 hy).1; simp at this; exact this
  cases hy
  refine ⟨g, 0, rfl, (Array.getElem?_eq_some_iff.1 h2).1, fun q hq => ?_⟩
  rw [cell_of_row _ _ _ _ _ (0, 0) h2]
  match q, hq with
  | 0, _ => rfl
  | 1, _ => rfl
  | 2, _ => rfl
theorem stepR_ways (s p c : Pe) (F : List Pe) (th tl : Int) : (∃ x, stepR s p c F th tl = (x, true, 0)) ∨ (∃ x, stepR s p c F th tl = (x, false, 0)) ∨ stepR s p c F th tl = (p0, false, 131) := by
  unfold stepR
  split
  · exact .inl ⟨_, rfl⟩
  · split
    · exact .inl ⟨_, rfl⟩
    · split
      · exact .inr (.inl ⟨_, rfl⟩)
      · exact .inr (.inr rfl)
theorem handle_both {s p c : Pe} {F : List Pe} {cs : Array Value} {k f t id ph pl hops : Int} (hm : MsgIs cs k f t id ph pl hops) (hid : 0 ≤ id ∧ id < 18446744073709551616) (hL : F.length ≤ 1000) (hne : own s (nbP s p c) (nbC s c) ph pl = true ∨ F ≠ []) :
    ∃ (k' f' t' id' ph' pl' hops' er : Int) (M : List Pe), (∀ w B b ao cap, TbW w B b ao cap s (nbP s p c) (nbC s c) F → Calls Try.prog 15 #[.pointer (some ⟨b, 0, none⟩), .agg cs] w (HEnd k' f' t' id' ph' pl' hops' er M w)) ∧
      (∀ w B b ao cap, DbW w B b ao cap s p c F → Calls Try.prog 27 #[.pointer (some ⟨b, 0, none⟩), .agg cs] w (HEnd k' f' t' id' ph' pl' hops' er M w)) := by
  by_cases hbad : ((k != 21) || (t != s.n) || !isN f || !isN hops) = true
  · refine ⟨0, 0, 0, 0, 0, 0, 0, 133, [], fun w B b ao cap h => ?_, fun w B b ao cap h => (dhandle_f w h hm hbad).mono fun e w' he => HEnd.zero he⟩
    cases g0 : (k != 21) with
    | true => exact (handle_a w h hm g0).mono fun e w' he => HEnd.zero he
    | false =>
      cases g1 : (t != s.n) with
      | true => exact (handle_b w h hm g0 g1).mono fun e w' he => HEnd.zero he
      | false =>
        cases g2 : isN f with
        | false => exact (handle_c w h hm g0 g1 g2).mono fun e w' he => HEnd.zero he
        | true =>
          rw [g0, g1, g2] at hbad
          cases g3 : decide (hops < 0) with
          | true => exact (handle_d w h hm g0 g1 g2 g3).mono fun e w' he => HEnd.zero he
          | false =>
            cases g4 : decide (255 < hops) with
            | true => exact (handle_e w h hm g0 g1 g2 g3 g4).mono fun e w' he => HEnd.zero he
            | false =>
              exfalso
              have hnh : isN hops = true := by unfold isN; simp at g3 g4 ⊢; omega
              rw [hnh] at hbad
              cases hbad
  · have g0 : (k != 21) = false := by cases h : (k != 21) with | false => rfl | true => rw [h] at hbad; simp at hbad
    have g1 : (t != s.n) = false := by cases h : (t != s.n) with | false => rfl | true => rw [h] at hbad; simp at hbad
    have g2 : isN f = true := by cases h : isN f with | true => rfl | false => rw [h] at hbad; simp at hbad
    have hnh : isN hops = true := by cases h : isN hops with | true => rfl | false => rw [h] at hbad; simp at hbad
    have g3 : decide (hops < 0) = false := by unfold isN at hnh; simp at hnh ⊢; omega
    have g4 : decide (255 < hops) = false := by unfold isN at hnh; simp at hnh ⊢; omega
    rcases stepR_ways s (nbP s p c) (nbC s c) F ph pl with ⟨⟨qn, qh, ql⟩, hr⟩ | ⟨⟨qn, qh, ql⟩, hr⟩ | hr
    · exact ⟨22, s.n, id % 256, id, ph, pl, hops, 0, [⟨qn, qh, ql⟩], fun w B b ao cap h => (handle_o w h hm g0 g1 g2 g3 g4 hL hne hr hid).mono fun e w' he => HEnd.one (x := ⟨qn, qh, ql⟩) he, fun w B b ao cap h => (dhandle_o w h hm g0 g1 g2 g3 g4 hL hr hid).mono fun e w' he => HEnd.one (x := ⟨qn, qh, ql⟩) he⟩
    · by_cases hh : hops < 8
      · exact ⟨21, s.n, qn, id, ph, pl, hops + 1, 0, [], fun w B b ao cap h => (handle_l w h hm g0 g1 g2 g3 g4 hL hne hr hh).mono fun e w' he => ⟨none, 0, 0, he.1, PsRd.nil _ _, rfl, by omega, he.2⟩, fun w B b ao cap h => (dhandle_l w h hm g0 g1 g2 g3 g4 hL hr hh).mono fun e w' he => ⟨none, 0, 0, he.1, PsRd.nil _ _, rfl, by omega, he.2⟩⟩
      · exact ⟨0, 0, 0, 0, 0, 0, 0, 132, [], fun w B b ao cap h => (handle_h w h hm g0 g1 g2 g3 g4 hL hne hr (by omega)).mono fun e w' he => HEnd.zero he, fun w B b ao cap h => (dhandle_h w h hm g0 g1 g2 g3 g4 hL hr (by omega)).mono fun e w' he => HEnd.zero he⟩
    · exact ⟨0, 0, 0, 0, 0, 0, 0, 131, [], fun w B b ao cap h => (handle_n w h hm g0 g1 g2 g3 g4 hL hne hr (by decide)).mono fun e w' he => HEnd.zero he, fun w B b ao cap h => (dhandle_n w h hm g0 g1 g2 g3 g4 hL hr (by decide)).mono fun e w' he => HEnd.zero he⟩
end Go.Proofs.Ytokmchkoojeadaa
