/- NetKeeps: Send, Twice, Spoil, ahead of what the law then does to what was sent. -/
import Derived.Test.YthanjfnpohhebaaKp
namespace Go.Proofs.Ythanjfnpohhebaa
open Go.RowKit Go.Sort
set_option linter.unusedVariables false

structure Mid (w : World) (B hn : Nat) (Bs E : List Nat) (ao : Option Addr) (cap : Nat) (S : List Pkt) (L : List (Option (List Nat))) (room made : Nat) (T : Tr) : Prop where
  net : Net w B hn Bs S room made T
  snt : Snt w B E ao cap L
  apart : ∀ g ∈ E, g ∉ Bs
section
variable {w w' : World} {B hn cap room made id : Nat} {Bs Bs' E : List Nat} {ao : Option Addr} {S S' : List Pkt} {L : List (Option (List Nat))} {T T' : Tr}
theorem Kp.mid {made' : Nat} (h : Kp w B hn Bs E ao cap S L room made T) (hd : Net w' B hn Bs' S' room made' T') (t : Turned Bs Bs' w w') : Mid w' B hn Bs' E ao cap S' L room made' T' :=
  ⟨hd, h.snt.keep t.keep h.apart, fun g hg hm => by
    rcases t.new g hm with h1 | h1
    · exact h.apart g hg h1
    · have := (h.snt.base g hg).2; omega⟩
theorem below_turned (b : Below w.heap.size w w') : Turned Bs Bs w w' := ⟨Keep.of_below b _, fun q hq => .inl hq⟩
theorem Kp.at_ (h : Kp w B hn Bs E ao cap S L room made T) {p : Pkt} (hl : look S id = some p) : 1 ≤ id ∧ id ≤ made ∧ ∃ o, L[id - 1]? = some o := by
  obtain ⟨h1, h2⟩ := look_some hl
  have h3 := h.ks.ids p h1
  rw [h2] at h3
  exact ⟨h3.1, h3.2, _, List.getElem?_eq_getElem (by have := h.ks.len; omega)⟩
theorem kp_send (w : World) (fr dest : Int) {xo : Option Addr} {xc n : Nat} {l : List Nat} (hr : Rd w xo l) (hln : l.length = n) (hn2 : n ≤ 140737488355328) (h : Kp w B hn Bs E ao cap S L room made T) (hx : ∀ g ∈ blk xo, g ≠ hn) (hm : made + 1 < 18446744073709551616) (hT : T.sent < 4611686018427387904) :
    Calls Try.prog 14 #[.pointer (some ⟨hn, 0, none⟩), .int .i64 fr, .int .i64 dest, .slice xo n xc] w fun e w' => ∃ (x : Nat) (y : Int) (Bs' : List Nat) (S' : List Pkt) (T' : Tr) (made' : Nat), e = .returned (.tuple #[.int .u64 (x : Int), .int .i64 y]) ∧ Mid w' B hn Bs' E ao cap S' L room made' T' ∧ Turned Bs Bs' w w' ∧ T'.spoilt ≤ T.spoilt + 1 ∧
      (y = 0 → made' = made + 1 ∧ KS S' (L ++ [some l]) T' made') ∧ (y ≠ 0 → made' = made ∧ KS S' L T' made') := by
  by_cases hlong : 65546 < n
  · exact (same_below (send_long w fr dest xo n xc hlong hn2)).mono fun e w' ⟨h1, b⟩ => ⟨0, _, Bs, S, T, made, h1, h.mid (h.net.below b) (below_turned b), below_turned b, Nat.le_succ _, fun e => by simp at e, fun _ => ⟨rfl, h.ks⟩⟩
  · by_cases hf : room ≤ S.length
    · exact (send_full w fr dest xo n xc (by omega) h.net hf).mono fun e w' ⟨h1, b⟩ => ⟨0, _, Bs, S, T, made, h1, h.mid (h.net.below b) (below_turned b), below_turned b, Nat.le_succ _, fun e => by simp at e, fun _ => ⟨rfl, h.ks⟩⟩
    · exact (send_yes w fr dest hr hln (by omega) (by omega) rfl hm h.net hx hT).mono fun e w' ⟨a2, c2, Bs', h1, h2, t⟩ => ⟨made + 1, 0, Bs', _, _, made + 1, h1, h.mid h2 t, t, Nat.le_succ _, fun _ => ⟨rfl, h.ks.send⟩, fun e => absurd rfl e⟩
theorem kp_twice (hid : id < 18446744073709551616) (w : World) (h : Kp w B hn Bs E ao cap S L room made T) (hm : made + 1 < 18446744073709551616) (hT : T.twice < 4611686018427387904) :
    Calls Try.prog 17 #[.pointer (some ⟨hn, 0, none⟩), .int .u64 (id : Int)] w fun e w' => ∃ (x : Nat) (y : Int) (Bs' : List Nat) (S' : List Pkt) (T' : Tr) (made' : Nat), e = .returned (.tuple #[.int .u64 (x : Int), .int .i64 y]) ∧ Mid w' B hn Bs' E ao cap S' L room made' T' ∧ Turned Bs Bs' w w' ∧ T'.spoilt ≤ T.spoilt + 1 ∧
      (y = 0 → made' = made + 1 ∧ ∃ o, 1 ≤ id ∧ id ≤ made ∧ L[id - 1]? = some o ∧ KS S' (L ++ [o]) T' made') ∧ (y ≠ 0 → made' = made ∧ KS S' L T' made') := by
  cases hl : look S id with
  | none =>
    have hf := find_any id hid w h.net
    unfold findE at hf
    rw [hl] at hf
    exact (twice_no w _ id ⟨0, 0, 0, none, 0, []⟩ 72 (by decide) hf).mono fun e w' ⟨h1, b⟩ => ⟨0, _, Bs, S, T, made, h1, h.mid (h.net.below b) (below_turned b), below_turned b, Nat.le_succ _, fun e => by simp at e, fun _ => ⟨rfl, h.ks⟩⟩
  | some p =>
    obtain ⟨i1, i2, o, ho⟩ := h.at_ hl
    by_cases hf : room ≤ S.length
    · exact (twice_full w id hid h.net hl hf).mono fun e w' ⟨h1, b⟩ => ⟨0, _, Bs, S, T, made, h1, h.mid (h.net.below b) (below_turned b), below_turned b, Nat.le_succ _, fun e => by simp at e, fun _ => ⟨rfl, h.ks⟩⟩
    · exact (twice_yes w id hid h.net hl (by omega) rfl hm hT).mono fun e w' ⟨a2, c2, Bs', h1, h2, t⟩ => ⟨made + 1, 0, Bs', _, _, made + 1, h1, h.mid h2 t, t, Nat.le_succ _, fun _ => ⟨rfl, o, i1, i2, ho, h.ks.twice hl ho⟩, fun e => absurd rfl e⟩
theorem kp_spoil (hid : id < 18446744073709551616) (at_ : Int) (b : Nat) (hb : b < 256) (w : World) (h : Kp w B hn Bs E ao cap S L room made T) (hT : T.spoilt < 4611686018427387904) :
    Calls Try.prog 18 #[.pointer (some ⟨hn, 0, none⟩), .int .u64 (id : Int), .int .i64 at_, .int .u8 (b : Int)] w fun e w' => ∃ (y : Int) (S' : List Pkt) (T' : Tr), e = .returned (.int .i64 y) ∧ Mid w' B hn Bs E ao cap S' L room made T' ∧ Turned Bs Bs w w' ∧ T'.spoilt ≤ T.spoilt + 1 ∧
      (y = 0 → 1 ≤ id ∧ id ≤ made ∧ KS S' (L.set (id - 1) none) T' made) ∧ (y ≠ 0 → KS S' L T' made) := by
  cases hl : look S id with
  | none =>
    have hf := find_any id hid w h.net
    unfold findE at hf
    rw [hl] at hf
    exact (spoil_no w _ id ⟨0, 0, 0, none, 0, []⟩ 72 at_ (b : Int) (by decide) hf).mono fun e w' ⟨h1, b⟩ => ⟨_, S, T, h1, h.mid (h.net.below b) (below_turned b), below_turned b, Nat.le_succ _, fun e => by simp at e, fun _ => h.ks⟩
  | some p =>
    obtain ⟨i1, i2, o, ho⟩ := h.at_ hl
    by_cases ha : at_ < 0 ∨ (p.data.length : Int) ≤ at_
    · exact (spoil_out w id hid h.net hl at_ (b : Int) ha).mono fun e w' ⟨h1, b⟩ => ⟨_, S, T, h1, h.mid (h.net.below b) (below_turned b), below_turned b, Nat.le_succ _, fun e => by simp at e, fun _ => h.ks⟩
    · obtain ⟨a, rfl⟩ : ∃ a : Nat, at_ = a := ⟨at_.toNat, by omega⟩
      exact (spoil_yes w id hid h.net hl a b (by omega) hb hT).mono fun e w' ⟨h1, h2, k⟩ => ⟨0, _, _, h1, h.mid h2 ⟨k, fun q hq => .inl hq⟩, ⟨k, fun q hq => .inl hq⟩, Nat.le_refl _, fun _ => ⟨i1, i2, h.ks.spoil i1 a _⟩, fun e => absurd rfl e⟩
end
end Go.Proofs.Ythanjfnpohhebaa
