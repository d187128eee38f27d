/- NetKeeps: the net and what was sent, both in the heap; each call. -/
import Derived.Test.YthanjfnpohhebaaKeep
import Derived.Test.YthanjfnpohhebaaSent
namespace Go.Proofs.Ythanjfnpohhebaa
open Go.RowKit Go.Sort
set_option linter.unusedVariables false

structure Kp (w : World) (B hn : Nat) (Bs E : List Nat) (ao : Option Addr) (cap : Nat) (S : List Pkt) (L : List (Option (List Nat))) (room made : Nat) (T : Tr) : Prop where
  net : Net w B hn Bs S room made T
  snt : Snt w B E ao cap L
  ks : KS S L T made
  apart : ∀ g ∈ E, g ∉ Bs
section
variable {w w' : World} {B hn cap room made id : Nat} {Bs Bs' E : List Nat} {ao : Option Addr} {S S' : List Pkt} {L : List (Option (List Nat))} {T T' : Tr}
theorem Net.inc (h : Net w B hn Bs S room made T) : Inc S := by obtain ⟨_, _, h⟩ := h; exact h.inc
theorem Kp.turned (h : Kp w B hn Bs E ao cap S L room made T) (hd : Net w' B hn Bs' S' room made T') (t : Turned Bs Bs' w w') (k : KS S' L T' made) : Kp w' B hn Bs' E ao cap S' L room made T' :=
  ⟨hd, h.snt.keep t.keep h.apart, k, fun g hg hm => by
    rcases t.new g hm with h1 | h1
    · exact h.apart g hg h1
    · have := (h.snt.base g hg).2; omega⟩
theorem Kp.below (h : Kp w B hn Bs E ao cap S L room made T) (b : Below w.heap.size w w') : Kp w' B hn Bs E ao cap S L room made T :=
  h.turned (h.net.below b) ⟨Keep.of_below b _, fun q hq => .inl hq⟩ h.ks
theorem gone_turned (k : Keep Bs' w w') (hs : ∀ q ∈ Bs', q ∈ Bs) : Turned Bs Bs' w w' :=
  ⟨⟨k.os, k.tape, k.output, k.size, fun q hq hn => k.block q hq fun hm => hn (hs q hm)⟩, fun q hq => .inl (hs q hq)⟩
theorem kp_lose (hid : id < 18446744073709551616) (w : World) (h : Kp w B hn Bs E ao cap S L room made T) (hT : T.lost < 4611686018427387904) :
    Calls Try.prog 16 #[.pointer (some ⟨hn, 0, none⟩), .int .u64 (id : Int)] w fun e w' => ∃ x Bs' S' T', e = .returned (.int .i64 x) ∧ Kp w' B hn Bs' E ao cap S' L room made T' ∧ Turned Bs Bs' w w' ∧ T'.spoilt ≤ T.spoilt + 1 := by
  cases hl : look S id with
  | some p => exact (lose_yes w id hid h.net hl hT).mono fun e w' ⟨h1, Bs', h2, h3, h4, _⟩ => ⟨_, Bs', _, _, h1, h.turned h2 (gone_turned h3 h4) (h.ks.lose h.net.inc hl), gone_turned h3 h4, Nat.le_succ _⟩
  | none =>
    have hf := find_any id hid w h.net
    unfold findE at hf
    rw [hl] at hf
    exact (lose_no w _ id ⟨0, 0, 0, none, 0, []⟩ 72 (by decide) hf).mono fun e w' ⟨h1, b⟩ => ⟨_, Bs, S, T, h1, h.below b, ⟨Keep.of_below b _, fun q hq => .inl hq⟩, Nat.le_succ _⟩
theorem kp_take (hid : id < 18446744073709551616) (w : World) (h : Kp w B hn Bs E ao cap S L room made T) (hT : T.taken < 4611686018427387904) :
    Calls Try.prog 15 #[.pointer (some ⟨hn, 0, none⟩), .int .u64 (id : Int)] w fun e w' => ∃ x p Bs' S' T', e = .returned (.tuple #[agv p, .int .i64 x]) ∧ Kp w' B hn Bs' E ao cap S' L room made T' ∧ Turned Bs Bs' w w' ∧ T'.spoilt ≤ T.spoilt + 1 ∧ (x = 0 → look S id = some p ∧ Rd w' p.ao p.data) := by
  cases hl : look S id with
  | some p =>
    have hrd : Rd w p.ao p.data := by
      obtain ⟨_, _, h0⟩ := h.net
      exact (h0.pk.own p (look_some hl).1).rd
    exact (take_yes w id hid h.net hl hT).mono fun e w' ⟨h1, Bs', h2, h3, h4, h5⟩ => ⟨_, p, Bs', _, _, h1, h.turned h2 (gone_turned h3 h4) (h.ks.take h.net.inc hl), gone_turned h3 h4, Nat.le_succ _, fun _ => ⟨rfl, hrd.keep h3 h5⟩⟩
  | none =>
    have hf := find_any id hid _ (h.net.below (below_alloc (Below.refl w.heap.size w) zobj))
    unfold findE at hf
    rw [hl] at hf
    exact (take_no w _ id ⟨0, 0, 0, none, 0, []⟩ 72 (by decide) hf).mono fun e w' ⟨h1, b⟩ => ⟨_, ⟨0, 0, 0, none, 0, []⟩, Bs, S, T, h1, h.below b, ⟨Keep.of_below b _, fun q hq => .inl hq⟩, Nat.le_succ _, fun e => by simp at e⟩
theorem kp_forget (node : Int) (w : World) (h : Kp w B hn Bs E ao cap S L room made T) (hm : made < 18446744073709551616) (hT : T.lost < 2305843009213693952) :
    Calls Try.prog 19 #[.pointer (some ⟨hn, 0, none⟩), .int .i64 node] w fun e w' => ∃ x Bs' S' T', e = .returned (.int .i64 x) ∧ Kp w' B hn Bs' E ao cap S' L room made T' ∧ Turned Bs Bs' w w' ∧ T'.spoilt ≤ T.spoilt + 1 :=
  (forget_any w node h.net hm hT).mono fun e w' ⟨h1, Bs', h2, h3⟩ => ⟨_, Bs', _, _, h1, h.turned h2 h3 (h.ks.forget h.net.inc node), h3, Nat.le_succ _⟩
end
end Go.Proofs.Ythanjfnpohhebaa
