/- Both calls: Close and Due on either side. -/
import Derived.Test.YtjhdlohcjodgjaaTwin
import Derived.Test.YtjhdlohcjodgjaaRefF
namespace Go.Proofs.Ytjhdlohcjodgjaa
open Go.RowKit
set_option linter.unusedVariables false

/-- what Close comes to -/
def closeX (T : List Cal) (id : Nat) : Option Cal := if 1 ≤ id then T[id - 1]? else none
def closeT (T : List Cal) (id : Nat) : List Cal := match closeX T id with
  | some x => if 0 < x.tries then T.set (id - 1) x.ended else T
  | none => T
def closeV (T : List Cal) (id : Nat) : Value := match closeX T id with
  | some x => if 0 < x.tries then agv x else zpk
  | none => zpk
def closeE (T : List Cal) (id : Nat) : Nat := match closeX T id with
  | some x => if 0 < x.tries then 0 else 83
  | none => 82
theorem closeT_len (T : List Cal) (id : Nat) : (closeT T id).length = T.length := by
  unfold closeT; split
  · split <;> simp
  · rfl
section
variable {w : World} {B hn gm rb cap : Nat} {ao : Option Addr} {T : List Cal} {C : Cfg}
theorem RefW.idsO (h : RefW w B rb ao cap T C) : IdsO 0 T := fun i x hx => by have := h.ids i x hx; omega
theorem IdsO.place {T : List Cal} (h : IdsO 0 T) {x : Cal} (hx : x ∈ T) : T[x.id - 1]? = some x ∧ 1 ≤ x.id := by
  obtain ⟨i, hi, e⟩ := List.getElem_of_mem hx
  have h2 := List.getElem?_eq_getElem hi
  rw [e] at h2
  have h3 := h i x h2
  exact ⟨by rw [show x.id - 1 = i by omega]; exact h2, by omega⟩
theorem look_live_none {T : List Cal} (h : IdsO 0 T) {id : Nat} (hn : ∀ x, closeX T id = some x → x.tries = 0) : look (live T) id = none := by
  cases hl : look (live T) id with
  | none => rfl
  | some y =>
    obtain ⟨h1, h2⟩ := look_some hl
    obtain ⟨h3, h4⟩ := live_mem.1 h1
    obtain ⟨h5, h6⟩ := h.place h3
    have := hn y (by unfold closeX; rw [if_pos (by omega), ← h2]; exact h5)
    omega
theorem aclose_any (id : Nat) (hid : id < 18446744073709551616) (w : World) (h : CalsW w B hn gm (live T) C T.length) (hI : IdsO 0 T) : Calls Try.prog 25 #[.pointer (some ⟨hn, 0, none⟩), .int .u64 (id : Int)] w fun e w' =>
    ∃ ev, e = .returned (.tuple #[closeV T id, ev]) ∧ ((ev = .nilIface ∧ closeE T id = 0) ∨ ∃ pb, ev = errV pb ∧ ErrAt w' pb (closeE T id : Int)) ∧ CalsW w' B hn gm (live (closeT T id)) C (closeT T id).length ∧ Keep [hn, gm] w w' := by
  rw [closeT_len]
  cases hx : closeX T id with
  | none =>
    have hl := look_live_none hI (id := id) (fun x hx' => by rw [hx] at hx'; cases hx')
    have hr : id < 1 ∨ T.length < id := by
      unfold closeX at hx
      by_cases h1 : 1 ≤ id
      · rw [if_pos h1] at hx
        have := List.getElem?_eq_none_iff.1 hx; omega
      · omega
    simp only [closeV, closeE, closeT, hx]
    exact (close_none id hid w h hl hr).mono fun e w' ⟨pb, h1, h2, h3, h4⟩ => ⟨_, h1, .inr ⟨pb, rfl, h2⟩, h.below h4, Keep.of_below h4 _⟩
  | some x =>
    have h1 : 1 ≤ id := by unfold closeX at hx; by_cases h1 : 1 ≤ id; exact h1; rw [if_neg h1] at hx; cases hx
    have hx' : T[id - 1]? = some x := by unfold closeX at hx; rw [if_pos h1] at hx; exact hx
    have hxi := hI _ _ hx'
    by_cases h0 : 0 < x.tries
    · have hmem : x ∈ live T := live_mem.2 ⟨List.mem_of_getElem? hx', h0⟩
      have hl := h.inc.look hmem
      rw [show x.id = id by omega] at hl
      simp only [closeV, closeE, closeT, hx, if_pos h0]
      refine (close_yes id hid w h hl).mono fun e w' ⟨h1, h2, h3⟩ => ⟨_, h1, .inl ⟨rfl, trivial⟩, ?_, h3.mono (by simp)⟩
      rw [live_ended T 0 _ x hI hx', show x.id = id by omega]
      exact h2
    · have hl := look_live_none hI (id := id) (fun y hy => by rw [hx] at hy; injection hy with hy; subst hy; omega)
      simp only [closeV, closeE, closeT, hx, if_neg h0]
      have hlt := (List.getElem?_eq_some_iff.1 hx').1
      exact (close_gone id hid w h hl h1 (by omega)).mono fun e w' ⟨pb, h1, h2, h3, h4⟩ => ⟨_, h1, .inr ⟨pb, rfl, h2⟩, h.below h4, Keep.of_below h4 _⟩
theorem rclose_any (id : Nat) (hid : id < 18446744073709551616) (w : World) (h : RefW w B rb ao cap T C) (hT : T.length ≤ 1000) : Calls Try.prog 33 #[.pointer (some ⟨rb, 0, none⟩), .int .u64 (id : Int)] w fun e w' =>
    e = .returned (.tuple #[closeV T id, .int .i64 (closeE T id : Int)]) ∧ RefW w' B rb ao cap (closeT T id) C ∧ Keep (rb :: blk ao) w w' := by
  cases hx : closeX T id with
  | none =>
    have hr : id < 1 ∨ T.length < id := by
      unfold closeX at hx
      by_cases h1 : 1 ≤ id
      · rw [if_pos h1] at hx
        have := List.getElem?_eq_none_iff.1 hx; omega
      · omega
    simp only [closeV, closeE, closeT, hx]
    exact (rclose_bad id hid w h hT hr).mono fun e w' ⟨h1, h2⟩ => ⟨h1, h.below h2, Keep.of_below h2 _⟩
  | some x =>
    have h1 : 1 ≤ id := by unfold closeX at hx; by_cases h1 : 1 ≤ id; exact h1; rw [if_neg h1] at hx; cases hx
    have hx' : T[id - 1]? = some x := by unfold closeX at hx; rw [if_pos h1] at hx; exact hx
    have e1 : (id : Int) = ((id - 1 : Nat) : Int) + 1 := by omega
    rw [e1]
    by_cases h0 : 0 < x.tries
    · simp only [closeV, closeE, closeT, hx, if_pos h0]
      exact (rclose_yes (id - 1) w h hT hx' h0).mono fun e w' ⟨h1, h2, h3⟩ => ⟨h1, h2, h3.mono (fun q hq => .inl (List.mem_cons_of_mem _ hq))⟩
    · simp only [closeV, closeE, closeT, hx, if_neg h0]
      exact (rclose_gone (id - 1) w h hT hx' (by omega)).mono fun e w' ⟨h1, h2⟩ => ⟨h1, h.below h2, Keep.of_below h2 _⟩
end
end Go.Proofs.Ytjhdlohcjodgjaa
