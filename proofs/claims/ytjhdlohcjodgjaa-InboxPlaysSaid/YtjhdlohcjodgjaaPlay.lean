/- InboxPlays: the state of the law. -/
import Derived.Test.YtjhdlohcjodgjaaPRow
import Derived.Test.YtjhdlohcjodgjaaArgP
namespace Go.Proofs.Ytjhdlohcjodgjaa
open Go.RowKit
set_option linter.unusedVariables false

/-- the inbox, and the law's own list: alike, and apart -/
structure Play (W wr : World) (B hb : Nat) (aW : Option Addr) (cW room : Nat) (Q : List Pkt) (aV : Option Addr) (cV n : Nat) (L : List Pkt) : Prop where
  inb : InbW wr B hb aW cW room Q
  row : PRow wr W.heap.size aV n cV (pl L)
  lenQ : Q.length = n
  lenL : L.length = n
  like : ∀ (i : Nat) (p q : Pkt), Q[i]? = some p → L[i]? = some q → p.id = q.id ∧ p.fr = q.fr ∧ p.to = q.to ∧ p.data = q.data
  rd : ∀ q ∈ L, Rd W q.ao q.data
  sz : ∀ q ∈ L, q.data.length ≤ 140737488351232
  ap : hb ∉ blk aV ∧ (∀ g ∈ blk aW, g ∉ blk aV) ∧ ∀ p ∈ Q, ∀ g ∈ blk p.ao, g ∉ blk aV
  wb : W.heap.size ≤ B
  bel : Below W.heap.size W wr
theorem PRow.first {w : World} {B n cap g o : Nat} {q : Pkt} {L : List Pkt} (h : PRow w B (some ⟨g, o, none⟩) n cap (pl (q :: L))) : g < w.heap.size ∧ w.cell? ⟨g, o, none⟩ = some (.int .u64 (q.id : Int)) ∧ w.cell? ⟨g, o + 1, none⟩ = some (.int .i64 q.fr) ∧ w.cell? ⟨g, o + 2, none⟩ = some (.int .i64 q.to) ∧ w.cell? ⟨g, o + 3, none⟩ = some q.sl := by
  rcases h.2.2.2 with ⟨h1, _⟩ | ⟨g', o', e, _, hl, _, hx⟩
  · cases h1
  · cases e
    exact ⟨hl, hx 0 _ rfl, hx 1 _ rfl, hx 2 _ rfl, hx 3 _ rfl⟩
section
variable {W wr w' : World} {B hb cW room cV n : Nat} {aW aV : Option Addr} {Q L : List Pkt}
theorem Play.below (h : Play W wr B hb aW cW room Q aV cV n L) (b : Below wr.heap.size wr w') : Play W w' B hb aW cW room Q aV cV n L :=
  ⟨h.inb.below b, h.row.below b, h.lenQ, h.lenL, h.like, h.rd, h.sz, h.ap, h.wb, below_next h.bel b⟩
theorem Play.start {w1 w2 : World} (b1 : Below W.heap.size W w1) (b2 : Below w1.heap.size w1 w2) (h : InbW w2 w1.heap.size hb none 0 room []) : Play W w2 w1.heap.size hb none 0 room [] none 0 0 [] :=
  ⟨h, PRow.nil _ _, rfl, rfl, by simp, by simp, by simp, by simp [blk], b1.size, below_next b1 b2⟩
/-- a packet is put in, and behind the list -/
theorem Play.put {w3 : World} {p : Pkt} {a2 aW' aV' : Option Addr} {c2 cW' cV' : Nat} (h : Play W wr B hb aW cW room Q aV cV n L) (hrd : Rd W p.ao p.data) (hsz : p.data.length ≤ 140737488351232) (hi : InbW w3 B hb aW' cW' room (Q ++ [⟨p.id, p.fr, p.to, a2, c2, p.data⟩])) (k : Keep (hb :: blk aW) wr w3)
    (g1 : ∀ g ∈ blk aW', g ∈ blk aW ∨ wr.heap.size ≤ g) (g2 : ∀ g ∈ blk a2, wr.heap.size ≤ g) {w4 : World} (b4 : Below w3.heap.size w3 w4) (hr : PRow w' W.heap.size aV' (n + 1) cV' (pl L ++ p.list)) (k5 : Keep (blk aV) w4 w') (g5 : ∀ g ∈ blk aV', g ∈ blk aV ∨ w4.heap.size ≤ g) :
    Play W w' B hb aW' cW' room (Q ++ [⟨p.id, p.fr, p.to, a2, c2, p.data⟩]) aV' cV' (n + 1) (L ++ [p]) := by
  obtain ⟨e1, e2, e3⟩ := h.ap
  have hlo := h.row.blks
  have s1 := k.size; have s4 := b4.size; have s5 := k5.size
  have hB := hi.base
  have hbw := h.wb
  have hin4 := hi.below b4
  have hbl : hb < wr.heap.size := h.inb.hlt
  -- apart from the list's row as it was
  have apW : ∀ g ∈ blk aW', g ∉ blk aV := fun g hg hm => by
    rcases g1 g hg with h1 | h1
    · exact e2 g h1 hm
    · have := (hlo g hm).2; omega
  have apQ : ∀ q ∈ Q ++ [(⟨p.id, p.fr, p.to, a2, c2, p.data⟩ : Pkt)], ∀ g ∈ blk q.ao, g ∉ blk aV := fun q hq g hg hm => by
    rcases List.mem_append.1 hq with h1 | h1
    · exact e3 q h1 g hg hm
    · simp only [List.mem_singleton] at h1
      subst h1
      have := g2 g hg; have := (hlo g hm).2; omega
  refine ⟨hin4.keep k5 e1 apW apQ, ?_, by rw [List.length_append, h.lenQ]; rfl, by rw [List.length_append, h.lenL]; rfl, fun i x y hx hy => ?_, fun q hq => ?_, fun q hq => ?_, ⟨fun hm => ?_, fun g hg hm => ?_, fun q hq g hg hm => ?_⟩, hbw, ?_⟩
  · rw [pl, fl_app, fl_one]; exact hr
  · by_cases hlt : i < n
    · rw [List.getElem?_append_left (by rw [h.lenQ]; exact hlt)] at hx
      rw [List.getElem?_append_left (by rw [h.lenL]; exact hlt)] at hy
      exact h.like i x y hx hy
    · have h9 := (List.getElem?_eq_some_iff.1 hx).1
      rw [List.length_append, h.lenQ] at h9
      have e : i = n := by simp at h9; omega
      subst e
      rw [List.getElem?_append_right (by rw [h.lenQ]; exact Nat.le_refl _), h.lenQ] at hx
      rw [List.getElem?_append_right (by rw [h.lenL]; exact Nat.le_refl _), h.lenL] at hy
      simp at hx hy
      subst hx hy
      exact ⟨rfl, rfl, rfl, rfl⟩
  · rcases List.mem_append.1 hq with h1 | h1
    · exact h.rd q h1
    · simp only [List.mem_singleton] at h1; subst h1; exact hrd
  · rcases List.mem_append.1 hq with h1 | h1
    · exact h.sz q h1
    · simp only [List.mem_singleton] at h1; subst h1; exact hsz
  · rcases g5 hb hm with h1 | h1
    · exact e1 h1
    · omega
  · rcases g5 g hm with h1 | h1
    · exact apW g hg h1
    · have := (owns_blk hi.own g hg).2; omega
  · rcases g5 g hm with h1 | h1
    · exact apQ q hq g hg h1
    · have := ((hi.fine q hq).2.2 g hg).2.1; omega
  · have hbw2 := h.inb.base
    have k3 : Below W.heap.size W w3 := h.bel.trans (k.below h.bel.size (fun g hg => by
      rcases List.mem_cons.1 hg with rfl | hg
      · omega
      · have := (owns_blk h.inb.own g hg).1; omega))
    have k4 := below_next k3 b4
    exact k4.trans (k5.below k4.size (fun g hg => (hlo g hg).1))
/-- the first one is taken, and off the list -/
theorem Play.take {w3 : World} {p q : Pkt} {g : Nat} {A : Addr} (h : Play W wr B hb aW cW room (p :: Q) aV cV (n + 1) (q :: L)) (haW : aW = some ⟨g, 0, none⟩) (hi : InbW w3 B hb aW cW room Q) (k : Keep [hb, g] wr w3) (hA : ∀ x ∈ blk (some A), x ∈ blk aV)
    (hr : PRow wr W.heap.size (some A) n (cV - 1) (pl L)) : Play W w3 B hb aW cW room Q (some A) (cV - 1) n L := by
  obtain ⟨e1, e2, e3⟩ := h.ap
  have hbw := h.wb
  have hgB := (owns_blk h.inb.own g (by simp [haW, blk])).1
  have hbB := h.inb.base
  refine ⟨hi, hr.keep k (fun x hx hm => ?_), by have := h.lenQ; simpa using this, by have := h.lenL; simpa using this, fun i x y hx hy => h.like (i + 1) x y (by simpa using hx) (by simpa using hy), fun x hx => h.rd x (List.mem_cons_of_mem _ hx), fun x hx => h.sz x (List.mem_cons_of_mem _ hx), ⟨fun hm => e1 (hA _ hm), fun x hx hm => e2 x hx (hA _ hm), fun x hx y hy hm => e3 x (List.mem_cons_of_mem _ hx) y hy (hA _ hm)⟩, hbw, h.bel.trans (k.below h.bel.size (fun x hx => by simp at hx; omega))⟩
  have hxv := hA x hx
  simp at hm
  rcases hm with rfl | rfl
  · exact e1 hxv
  · exact e2 x (by simp [haW, blk]) hxv
end
end Go.Proofs.Ytjhdlohcjodgjaa
