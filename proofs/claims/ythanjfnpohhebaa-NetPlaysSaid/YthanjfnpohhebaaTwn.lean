/- NetPlays: the twin: the program's net, the document's, packets that came out, and what they were. -/
import Derived.Test.YthanjfnpohhebaaAlk
namespace Go.Proofs.Ythanjfnpohhebaa
open Go.RowKit Go.Sort
set_option linter.unusedVariables false
set_option linter.unusedSectionVars false
set_option linter.unusedSimpArgs false
set_option maxRecDepth 100000
/-- a row of packets that came out, with their bytes' blocks: its own block, its packets -/
structure OutW (w : World) (B : Nat) (ao : Option Addr) (cap : Nat) (L : List Pkt) : Prop where
  own : w.ownsRow B 52 4 (.slice ao L.length cap) L.length (fl Pkt.list L)
  pk : PkW w B L
abbrev outB (ao : Option Addr) (L : List Pkt) : List Nat := blk ao ++ bs L
section
variable {w w' : World} {B cap : Nat} {ao : Option Addr} {L : List Pkt}
theorem OutW.blocks (h : OutW w B ao cap L) : ∀ g ∈ outB ao L, B ≤ g ∧ g < w.heap.size := fun g hg => by
  rcases List.mem_append.1 hg with hg | hg
  · exact owns_blk h.own g hg
  · exact h.pk.lt g hg
theorem OutW.keep {U : List Nat} (h : OutW w B ao cap L) (k : Keep U w w') (hU : ∀ g ∈ outB ao L, g ∉ U) : OutW w' B ao cap L :=
  ⟨owns_keep h.own k (blk_own _ _ _ fun g hg => hU g (List.mem_append.2 (.inl hg))), h.pk.keep k (fun g hg => hU g (List.mem_append.2 (.inr hg)))⟩
theorem OutW.nil (w : World) (B : Nat) : OutW w B none 0 [] := ⟨World.ownsRow_nil _ _ _ _, ⟨by simp, by simp⟩⟩
end
abbrev rowT (hn nb : Nat) (la : Option Addr) (ln lc : Nat) (wa : Option Addr) (wn wc : Nat) : Array Value := #[.pointer (some ⟨hn, 0, none⟩), .pointer (some ⟨nb, 0, none⟩), .slice la ln lc, .slice wa wn wc]
/-- both nets and what came out, in blocks with owners tg: 0 the twin, 1 the program's net, 2 the document's, 3 and 4 what came out: rows; 5 and 6: their packets' bytes -/
structure TwW (w : World) (B tb : Nat) (tg : Nat → Nat) (hn nb room : Nat) (S : List Pkt) (made : Nat) (T : Tr) (D : List Pkt) (last : Nat) (T2 : Tr) (L V : List Pkt) : Prop where
  net : ∃ Bs, Net w B hn Bs S room made T ∧ ∀ g ∈ Bs, tg g = 1
  rn : ∃ lo lc, RnW w B nb lo lc D room last T2 ∧ ∀ g ∈ rnB nb lo D, tg g = 2
  out : ∃ la lc wa wc, w.heap[tb]? = some (.cells (rowT hn nb la L.length lc wa V.length wc) 37 (0, 0)) ∧ OutW w B la lc L ∧ OutW w B wa wc V ∧ (∀ g ∈ blk la, tg g = 3) ∧ (∀ g ∈ blk wa, tg g = 4) ∧ (∀ g ∈ bs L, tg g = 5) ∧ (∀ g ∈ bs V, tg g = 6)
  base : B ≤ tb
  tt : tg tb = 0
/-- owners anew: the blocks of X are of owner i, blocks of w of other owners as before, all else of owner 7 -/
def retag (tg : Nat → Nat) (s : Nat) (X : List Nat) (i : Nat) : Nat → Nat := fun g => if g ∈ X then i else if g < s ∧ tg g ≠ i then tg g else 7
theorem retag_old {tg : Nat → Nat} {s g i : Nat} {X : List Nat} (h : g < s) (hne : tg g ≠ i) (hX : ∀ g ∈ X, tg g = i ∨ s ≤ g) : retag tg s X i g = tg g := by
  unfold retag
  rw [if_neg (fun hx => by rcases hX g hx with h1 | h1; exact hne h1; omega), if_pos ⟨h, hne⟩]
theorem retag_new {tg : Nat → Nat} {s g i : Nat} {X : List Nat} (hx : g ∈ X) : retag tg s X i g = i := by unfold retag; rw [if_pos hx]
/-- what has left owner i -/
theorem retag_left {tg : Nat → Nat} {s g i : Nat} {X : List Nat} (hx : g ∉ X) (h : tg g = i ∨ s ≤ g) : retag tg s X i g = 7 := by
  unfold retag
  rw [if_neg hx, if_neg (by rintro ⟨h1, h2⟩; rcases h with h | h; exact h2 h; omega)]
section
variable {w w' : World} {B tb hn nb room made last : Nat} {tg : Nat → Nat} {S D L V : List Pkt} {T T2 : Tr}
theorem TwW.lt (h : TwW w B tb tg hn nb room S made T D last T2 L V) : tb < w.heap.size := by
  obtain ⟨_, _, _, _, h1, _⟩ := h.out
  exact (Array.getElem?_eq_some_iff.1 h1).1
theorem TwW.lo (h : TwW w B tb tg hn nb room S made T D last T2 L V) : B ≤ w.heap.size := by have := h.base; have := h.lt; omega
/-- what turns none of the twin's blocks -/
theorem TwW.keep {U : List Nat} (h : TwW w B tb tg hn nb room S made T D last T2 L V) (k : Keep U w w') (hU : ∀ g ∈ U, 7 ≤ tg g) : TwW w' B tb tg hn nb room S made T D last T2 L V := by
  obtain ⟨Bs, h1, h2⟩ := h.net
  obtain ⟨lo, lc, h3, h4⟩ := h.rn
  obtain ⟨la, l2, wa, wc, h5, h6, h7, h8, h9, h10, h11⟩ := h.out
  have ht := h.tt
  refine ⟨⟨Bs, h1.keep k (fun g hg hu => ?_), h2⟩, ⟨lo, lc, h3.keep k (fun g hg hu => ?_), h4⟩, ⟨la, l2, wa, wc, row_keep h5 k (fun hu => ?_), h6.keep k (fun g hg hu => ?_), h7.keep k (fun g hg hu => ?_), h8, h9, h10, h11⟩, h.base, h.tt⟩
  · have := hU g hu; have := h2 g hg; omega
  · have := hU g hu; have := h4 g hg; omega
  · have := hU tb hu; omega
  · have := hU g hu
    rcases List.mem_append.1 hg with hg | hg
    · have := h8 g hg; omega
    · have := h10 g hg; omega
  · have := hU g hu
    rcases List.mem_append.1 hg with hg | hg
    · have := h9 g hg; omega
    · have := h11 g hg; omega
theorem TwW.below (h : TwW w B tb tg hn nb room S made T D last T2 L V) (b : Below w.heap.size w w') : TwW w' B tb tg hn nb room S made T D last T2 L V := h.keep (Keep.of_below b []) (by simp)
/-- the rest stays as it is where only blocks of owner i turn -/
theorem OutW.other {la : Option Addr} {lc i j k : Nat} {U X : List Nat} (h : OutW w B la lc L) (hk : Keep U w w') (hU : ∀ g ∈ U, tg g = i) (hX : ∀ g ∈ X, tg g = i ∨ w.heap.size ≤ g) (h1 : ∀ g ∈ blk la, tg g = j) (h2 : ∀ g ∈ bs L, tg g = k) (hj : j ≠ i) (hki : k ≠ i) :
    OutW w' B la lc L ∧ (∀ g ∈ blk la, retag tg w.heap.size X i g = j) ∧ (∀ g ∈ bs L, retag tg w.heap.size X i g = k) := by
  refine ⟨h.keep hk (fun g hg hu => ?_), fun g hg => ?_, fun g hg => ?_⟩
  · have := hU g hu
    rcases List.mem_append.1 hg with hg | hg
    · have := h1 g hg; omega
    · have := h2 g hg; omega
  · have e := h1 g hg; rw [retag_old (h.blocks g (List.mem_append.2 (.inl hg))).2 (by omega) hX]; exact e
  · have e := h2 g hg; rw [retag_old (h.blocks g (List.mem_append.2 (.inr hg))).2 (by omega) hX]; exact e
/-- the program's net has turned -/
theorem TwW.setNet {Bs Bs' : List Nat} {S' : List Pkt} {made' : Nat} {T' : Tr} (h : TwW w B tb tg hn nb room S made T D last T2 L V) (h0 : Net w B hn Bs S room made T) (hB : ∀ g ∈ Bs, tg g = 1) (hN : Net w' B hn Bs' S' room made' T') (ht : Turned Bs Bs' w w') :
    TwW w' B tb (retag tg w.heap.size Bs' 1) hn nb room S' made' T' D last T2 L V := by
  obtain ⟨lo, lc, h3, h4⟩ := h.rn
  obtain ⟨la, l2, wa, wc, h5, h6, h7, h8, h9, h10, h11⟩ := h.out
  have h0t := h.tt
  have hX := fun g hg => (ht.new g hg).imp (hB g) id
  obtain ⟨a1, a2, a3⟩ := h6.other (X := Bs') ht.keep hB hX h8 h10 (by decide) (by decide)
  obtain ⟨b1, b2, b3⟩ := h7.other (X := Bs') ht.keep hB hX h9 h11 (by decide) (by decide)
  refine ⟨⟨Bs', hN, fun g hg => ?_⟩, ⟨lo, lc, h3.keep ht.keep (fun g hg hu => ?_), fun g hg => ?_⟩, ⟨la, l2, wa, wc, row_keep h5 ht.keep (fun hu => ?_), a1, b1, a2, b2, a3, b3⟩, h.base, by rw [retag_old h.lt (by omega) hX]; exact h.tt⟩
  · exact retag_new hg
  · have := hB g hu; have := h4 g hg; omega
  · have e := h4 g hg; rw [retag_old (h3.blocks g hg).2 (by omega) hX]; exact e
  · have := hB tb hu; omega
/-- the document's net has turned -/
theorem TwW.setRef {lo lo' : Option Addr} {lc lc' : Nat} {D' : List Pkt} {last' : Nat} {T2' : Tr} (h : TwW w B tb tg hn nb room S made T D last T2 L V) (h0 : RnW w B nb lo lc D room last T2) (hB : ∀ g ∈ rnB nb lo D, tg g = 2) (hN : RnW w' B nb lo' lc' D' room last' T2') (ht : Turned (rnB nb lo D) (rnB nb lo' D') w w') :
    TwW w' B tb (retag tg w.heap.size (rnB nb lo' D') 2) hn nb room S made T D' last' T2' L V := by
  obtain ⟨Bs, h3, h4⟩ := h.net
  obtain ⟨la, l2, wa, wc, h5, h6, h7, h8, h9, h10, h11⟩ := h.out
  have h0t := h.tt
  have hX := fun g hg => (ht.new g hg).imp (hB g) id
  obtain ⟨a1, a2, a3⟩ := h6.other (X := rnB nb lo' D') ht.keep hB hX h8 h10 (by decide) (by decide)
  obtain ⟨b1, b2, b3⟩ := h7.other (X := rnB nb lo' D') ht.keep hB hX h9 h11 (by decide) (by decide)
  refine ⟨⟨Bs, h3.keep ht.keep (fun g hg hu => ?_), fun g hg => ?_⟩, ⟨lo', lc', hN, fun g hg => ?_⟩, ⟨la, l2, wa, wc, row_keep h5 ht.keep (fun hu => ?_), a1, b1, a2, b2, a3, b3⟩, h.base, by rw [retag_old h.lt (by omega) hX]; exact h.tt⟩
  · have := hB g hu; have := h4 g hg; omega
  · have e := h4 g hg; rw [retag_old (h3.blocks g hg).2 (by omega) hX]; exact e
  · exact retag_new hg
  · have := hB tb hu; omega
end
end Go.Proofs.Ythanjfnpohhebaa
