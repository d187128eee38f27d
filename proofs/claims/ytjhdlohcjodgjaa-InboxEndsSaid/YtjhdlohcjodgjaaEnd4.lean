/- InboxEnds: Close, told apart; rows of calls. -/
import Derived.Test.YtjhdlohcjodgjaaEnd3
namespace Go.Proofs.Ytjhdlohcjodgjaa
open Go.RowKit
set_option linter.unusedVariables false

theorem eql_nilnil (w : World) : (binOp .eql 72 .nilIface .nilIface).run Try.prog w = .ok (.bool true) w := by
  have h : ∀ d : Nat, (Op.equalIn (d + 1) 72 .nilIface .nilIface).run Try.prog w = .ok true w := fun d => by simp [Op.equalIn, run_underlying Try.underlying72]
  simp only [binOp]
  simp [Op.equal, Op.maxDepth, h 9999]
section
variable {w w' : World} {B hn gm n cap : Nat} {ao : Option Addr} {T l : List Cal} {C : Cfg} {x : Cal}
theorem aclose_one (i : Nat) (hx : T[i]? = some x) (h0 : 0 < x.tries) (hi : i < 1000) (w : World) (h : CalsW w B hn gm (live T) C T.length) (hI : IdsO 0 T) : Calls Try.prog 25 #[.pointer (some ⟨hn, 0, none⟩), .int .u64 ((i : Int) + 1)] w fun e w' =>
    e = .returned (.tuple #[agv x, .nilIface]) ∧ CalsW w' B hn gm (live (closeT T (i + 1))) C (closeT T (i + 1)).length ∧ Keep [hn, gm] w w' := by
  have hxi := hI _ _ hx
  have hcx : closeX T (i + 1) = some x := by unfold closeX; rw [if_pos (by omega)]; exact hx
  have hmem : x ∈ live T := live_mem.2 ⟨List.mem_of_getElem? hx, h0⟩
  have hl := h.inc.look hmem
  rw [show x.id = i + 1 by omega] at hl
  have key := close_yes (i + 1) (by omega) w h hl
  rw [show (((i + 1 : Nat)) : Int) = (i : Int) + 1 from rfl] at key
  refine key.mono fun e w' ⟨h1, h2, h3⟩ => ⟨h1, ?_, h3.mono (by simp)⟩
  rw [closeT_len]
  simp only [closeT, hcx, if_pos h0]
  rw [show i + 1 - 1 = i by omega, live_ended T 0 _ x hI hx, show x.id = i + 1 by omega]
  exact h2
theorem aclose_two (i : Nat) (hx : T[i]? = some x) (h0 : x.tries = 0) (hi : i < 1000) (w : World) (h : CalsW w B hn gm (live T) C T.length) (hI : IdsO 0 T) : Calls Try.prog 25 #[.pointer (some ⟨hn, 0, none⟩), .int .u64 ((i : Int) + 1)] w fun e w' =>
    ∃ pb, e = .returned (.tuple #[zpk, errV pb]) ∧ CalsW w' B hn gm (live (closeT T (i + 1))) C (closeT T (i + 1)).length ∧ Keep [hn, gm] w w' := by
  have hcx : closeX T (i + 1) = some x := by unfold closeX; rw [if_pos (by omega)]; exact hx
  have hl := look_live_none hI (id := i + 1) (fun y hy => by rw [hcx] at hy; injection hy with hy; subst hy; omega)
  have hlt := (List.getElem?_eq_some_iff.1 hx).1
  have key := close_gone (i + 1) (by omega) w h hl (by omega) (by omega)
  rw [show (((i + 1 : Nat)) : Int) = (i : Int) + 1 from rfl] at key
  refine key.mono fun e w' ⟨pb, h1, h2, h3, h4⟩ => ⟨pb, h1, ?_, Keep.of_below h4 _⟩
  rw [closeT_len]
  simp only [closeT, hcx, if_neg (show ¬ 0 < x.tries by omega)]
  exact h.below h4
theorem owns_five (h : w.ownsRow B 70 5 (.slice ao n cap) n (lc l)) {j : Nat} (hj : j < n) (hx : l[j]? = some x) :
    ∃ g, ao = some ⟨g, 0, none⟩ ∧ B ≤ g ∧ n ≤ cap ∧ w.cell? ⟨g, j * 5, none⟩ = some (.int .u64 (x.id : Int)) ∧ w.cell? ⟨g, j * 5 + 3, none⟩ = some (.int .i64 (x.tries : Int)) := by
  obtain ⟨g, rfl, _, hc, hb, _⟩ := owns_none h (by omega)
  have c0 := h.cells (g := g) rfl (j * 5 + 0) _ (by rw [lc_at l j 0 (by omega), hx]; rfl)
  have c3 := h.cells (g := g) rfl (j * 5 + 3) _ (by rw [lc_at l j 3 (by omega), hx]; rfl)
  rw [Addr.add_lit, Nat.zero_add] at c0 c3
  exact ⟨g, rfl, hb, hc, c0, c3⟩
end
end Go.Proofs.Ytjhdlohcjodgjaa
