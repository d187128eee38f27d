/- NetPlays: the twin keeps a packet that came out. -/
import Derived.Test.YthanjfnpohhebaaTlist
namespace Go.Proofs.Ythanjfnpohhebaa
open Go.RowKit Go.Sort
set_option linter.unusedVariables false
set_option linter.unusedSectionVars false
set_option linter.unusedSimpArgs false
set_option maxRecDepth 100000
/-- owners behind a push: the row's block gg of owner i, the packet's blocks of owner j, what is made since of owner 7 -/
def ptag (tg : Nat → Nat) (s gg : Nat) (X : List Nat) (i j : Nat) : Nat → Nat := fun g => if g = gg then i else if g ∈ X then j else if g < s then tg g else 7
section
variable {w w' : World} {B tb hn nb room made last : Nat} {tg : Nat → Nat} {S D L V : List Pkt} {T T2 : Tr}
theorem ptag_gg {s gg i j : Nat} {X : List Nat} : ptag tg s gg X i j gg = i := by unfold ptag; rw [if_pos rfl]
theorem ptag_x {s gg g i j : Nat} {X : List Nat} (h : g ≠ gg) (hx : g ∈ X) : ptag tg s gg X i j g = j := by unfold ptag; rw [if_neg h, if_pos hx]
theorem ptag_old {s gg g i j : Nat} {X : List Nat} (h : g ≠ gg) (hx : g ∉ X) (hs : g < s) : ptag tg s gg X i j g = tg g := by unfold ptag; rw [if_neg h, if_neg hx, if_pos hs]
theorem ptag_new {s gg g i j : Nat} {X : List Nat} (h : g ≠ gg) (hx : g ∉ X) (hs : s ≤ g) : ptag tg s gg X i j g = 7 := by unfold ptag; rw [if_neg h, if_neg hx, if_neg (by omega)]
theorem TwW.pushL {wa w2 : World} {gg cap1 n H : Nat} {p : Pkt} {la wv : Option Addr} {lc wc : Nat} (h : TwW w B tb tg hn nb room S made T D last T2 L V)
    (h5 : w.heap[tb]? = some (.cells (rowT hn nb la L.length lc wv V.length wc) 37 (0, 0))) (h6 : OutW w B la lc L) (h7 : OutW w B wv wc V) (h8 : ∀ g ∈ blk la, tg g = 3) (h9 : ∀ g ∈ blk wv, tg g = 4) (h10 : ∀ g ∈ bs L, tg g = 5) (h11 : ∀ g ∈ bs V, tg g = 6)
    (hn' : L.length = n) (ho : Own w B p.ao p.data.length p.cap p.data) (htp : ∀ g ∈ blk p.ao, 7 ≤ tg g) (b : Below w.heap.size w wa) (hgrow : wa.grownBy w2 (Value.slice la n lc).ownBlock)
    (hown : w2.ownsRow B 52 4 (.slice (some ⟨gg, 0, none⟩) (n + 1) cap1) (n + 1) (fl Pkt.list L ++ p.list)) (hat : (Value.slice la n lc).ownBlock = some gg ∨ gg = H) (hH : wa.heap.size = H) :
    TwW (w2.setCell ⟨tb, 2, none⟩ (.slice (some ⟨gg, 0, none⟩) (n + 1) cap1)) B tb (ptag tg w.heap.size gg (blk p.ao) 3 5) hn nb room S made T D last T2 (L ++ [p]) V := by
  have hB := h.lo
  have htb := h.lt
  have h0 := h.tt
  have hsz := b.size
  have kg : Keep (blk la) w w2 := (Keep.of_below b (blk la)).trans (keep_grown hgrow)
  have ks := Keep.setCell w2 ⟨tb, 2, none⟩ (.slice (some ⟨gg, 0, none⟩) (n + 1) cap1)
  have k2 : Keep (tb :: blk la) w (w2.setCell ⟨tb, 2, none⟩ (.slice (some ⟨gg, 0, none⟩) (n + 1) cap1)) := (kg.mono (fun q hq => .inl (List.mem_cons_of_mem _ hq))).trans (ks.mono (by simp))
  have hg := own_gg hat
  have hgt : gg < w.heap.size → tg gg = 3 := fun hs => by
    rcases hg with hg | hg
    · exact h8 gg hg
    · omega
  have hpl : ∀ g ∈ blk p.ao, g < w.heap.size := fun g hg => (ho.lt_size g hg).2
  have hpg : gg ∉ blk p.ao := fun hm => by have := hgt (hpl gg hm); have := htp gg hm; omega
  -- a block with another owner stays, and keeps its owner
  have old : ∀ g t, g < w.heap.size → tg g = t → t ≠ 3 → t < 7 → ptag tg w.heap.size gg (blk p.ao) 3 5 g = t := by
    intro g t hs ht h1 h2
    rw [ptag_old (fun e => by subst e; have := hgt hs; omega) (fun hm => by have := htp g hm; omega) hs]
    exact ht
  have far : ∀ g t, g < w.heap.size → tg g = t → t ≠ 3 → t ≠ 0 → g ∉ tb :: blk la := by
    intro g t hs ht h1 h2 hm
    rcases List.mem_cons.1 hm with e | hm
    · subst e; omega
    · have := h8 g hm; omega
  obtain ⟨Bs, n1, n2⟩ := h.net
  obtain ⟨lo, lcd, r1, r2⟩ := h.rn
  have hlen : (L ++ [p]).length = n + 1 := by rw [List.length_append, hn']; rfl
  have hbs : bs (L ++ [p]) = bs L ++ blk p.ao := by simp [bs]
  have hpk2 : ∀ g ∈ blk p.ao, g ∉ tb :: blk la := fun g hg hm => by
    have h7 := htp g hg
    rcases List.mem_cons.1 hm with e | hm
    · subst e; omega
    · have := h8 g hm; omega
  have row2 : (w2.setCell ⟨tb, 2, none⟩ (.slice (some ⟨gg, 0, none⟩) (n + 1) cap1)).heap[tb]? = some (.cells (rowT hn nb (some ⟨gg, 0, none⟩) (L ++ [p]).length cap1 wv V.length wc) 37 (0, 0)) := by
    have hrb : w2.heap[tb]? = _ := row_keep h5 kg (fun hm => by have := h8 tb hm; omega)
    rw [heap_setCell_same w2 tb 2 _ _ _ hrb]
    simp [hlen]
  have outX : OutW (w2.setCell ⟨tb, 2, none⟩ (.slice (some ⟨gg, 0, none⟩) (n + 1) cap1)) B (some ⟨gg, 0, none⟩) cap1 (L ++ [p]) := by
    refine ⟨?_, (h6.pk.keep k2 (fun g hg => far g 5 (h6.pk.lt g hg).2 (h10 g hg) (by decide) (by decide))).app (ho.keep k2 hpk2) (fun g hg hm => by have := htp g hg; have := h10 g hm; omega)⟩
    rw [hlen, show fl Pkt.list (L ++ [p]) = fl Pkt.list L ++ p.list by rw [fl_app, fl_one]]
    refine owns_keep hown ks (by intro q hq; simp [Value.ownBlock] at hq; subst hq; intro e; simp only [List.mem_singleton] at e; rw [e] at hgt; have := hgt htb; omega)
  have outY : OutW (w2.setCell ⟨tb, 2, none⟩ (.slice (some ⟨gg, 0, none⟩) (n + 1) cap1)) B wv wc V := h7.keep k2 (fun g hg => by
    have hs := (h7.blocks g hg).2
    rcases List.mem_append.1 hg with hg | hg
    · exact far g 4 hs (h9 g hg) (by decide) (by decide)
    · exact far g 6 hs (h11 g hg) (by decide) (by decide))
  refine ⟨⟨Bs, n1.keep k2 (fun g hg => far g 1 (n1.blocks g hg).2 (n2 g hg) (by decide) (by decide)), fun g hg => old g 1 (n1.blocks g hg).2 (n2 g hg) (by decide) (by decide)⟩, ⟨lo, lcd, r1.keep k2 (fun g hg => far g 2 (r1.blocks g hg).2 (r2 g hg) (by decide) (by decide)), fun g hg => old g 2 (r1.blocks g hg).2 (r2 g hg) (by decide) (by decide)⟩, ?_, h.base, old tb 0 htb h0 (by decide) (by decide)⟩
  have tx : ∀ g ∈ blk (some (⟨gg, 0, none⟩ : Addr)), ptag tg w.heap.size gg (blk p.ao) 3 5 g = 3 := fun g hg => by simp [blk] at hg; subst hg; exact ptag_gg
  have ty : ∀ g ∈ blk wv, ptag tg w.heap.size gg (blk p.ao) 3 5 g = 4 := fun g hg => old g 4 (h7.blocks g (List.mem_append.2 (.inl hg))).2 (h9 g hg) (by decide) (by decide)
  have bx : ∀ g ∈ bs (L ++ [p]), ptag tg w.heap.size gg (blk p.ao) 3 5 g = 5 := fun g hg => by
    rw [hbs] at hg
    rcases List.mem_append.1 hg with hg | hg
    · exact old g 5 (h6.pk.lt g hg).2 (h10 g hg) (by decide) (by decide)
    · exact ptag_x (fun e => hpg (e ▸ hg)) hg
  have by_ : ∀ g ∈ bs V, ptag tg w.heap.size gg (blk p.ao) 3 5 g = 6 := fun g hg => old g 6 (h7.pk.lt g hg).2 (h11 g hg) (by decide) (by decide)
  exact ⟨_, _, _, _, row2, outX, outY, tx, ty, bx, by_⟩
theorem TwW.pushV {wa w2 : World} {gg cap1 n H : Nat} {p : Pkt} {la wv : Option Addr} {lc wc : Nat} (h : TwW w B tb tg hn nb room S made T D last T2 L V)
    (h5 : w.heap[tb]? = some (.cells (rowT hn nb la L.length lc wv V.length wc) 37 (0, 0))) (h6 : OutW w B la lc L) (h7 : OutW w B wv wc V) (h8 : ∀ g ∈ blk la, tg g = 3) (h9 : ∀ g ∈ blk wv, tg g = 4) (h10 : ∀ g ∈ bs L, tg g = 5) (h11 : ∀ g ∈ bs V, tg g = 6)
    (hn' : V.length = n) (ho : Own w B p.ao p.data.length p.cap p.data) (htp : ∀ g ∈ blk p.ao, 7 ≤ tg g) (b : Below w.heap.size w wa) (hgrow : wa.grownBy w2 (Value.slice wv n wc).ownBlock)
    (hown : w2.ownsRow B 52 4 (.slice (some ⟨gg, 0, none⟩) (n + 1) cap1) (n + 1) (fl Pkt.list V ++ p.list)) (hat : (Value.slice wv n wc).ownBlock = some gg ∨ gg = H) (hH : wa.heap.size = H) :
    TwW (w2.setCell ⟨tb, 3, none⟩ (.slice (some ⟨gg, 0, none⟩) (n + 1) cap1)) B tb (ptag tg w.heap.size gg (blk p.ao) 4 6) hn nb room S made T D last T2 L (V ++ [p]) := by
  have hB := h.lo
  have htb := h.lt
  have h0 := h.tt
  have hsz := b.size
  have kg : Keep (blk wv) w w2 := (Keep.of_below b (blk wv)).trans (keep_grown hgrow)
  have ks := Keep.setCell w2 ⟨tb, 3, none⟩ (.slice (some ⟨gg, 0, none⟩) (n + 1) cap1)
  have k2 : Keep (tb :: blk wv) w (w2.setCell ⟨tb, 3, none⟩ (.slice (some ⟨gg, 0, none⟩) (n + 1) cap1)) := (kg.mono (fun q hq => .inl (List.mem_cons_of_mem _ hq))).trans (ks.mono (by simp))
  have hg := own_gg hat
  have hgt : gg < w.heap.size → tg gg = 4 := fun hs => by
    rcases hg with hg | hg
    · exact h9 gg hg
    · omega
  have hpl : ∀ g ∈ blk p.ao, g < w.heap.size := fun g hg => (ho.lt_size g hg).2
  have hpg : gg ∉ blk p.ao := fun hm => by have := hgt (hpl gg hm); have := htp gg hm; omega
  -- a block with another owner stays, and keeps its owner
  have old : ∀ g t, g < w.heap.size → tg g = t → t ≠ 4 → t < 7 → ptag tg w.heap.size gg (blk p.ao) 4 6 g = t := by
    intro g t hs ht h1 h2
    rw [ptag_old (fun e => by subst e; have := hgt hs; omega) (fun hm => by have := htp g hm; omega) hs]
    exact ht
  have far : ∀ g t, g < w.heap.size → tg g = t → t ≠ 4 → t ≠ 0 → g ∉ tb :: blk wv := by
    intro g t hs ht h1 h2 hm
    rcases List.mem_cons.1 hm with e | hm
    · subst e; omega
    · have := h9 g hm; omega
  obtain ⟨Bs, n1, n2⟩ := h.net
  obtain ⟨lo, lcd, r1, r2⟩ := h.rn
  have hlen : (V ++ [p]).length = n + 1 := by rw [List.length_append, hn']; rfl
  have hbs : bs (V ++ [p]) = bs V ++ blk p.ao := by simp [bs]
  have hpk2 : ∀ g ∈ blk p.ao, g ∉ tb :: blk wv := fun g hg hm => by
    have h7 := htp g hg
    rcases List.mem_cons.1 hm with e | hm
    · subst e; omega
    · have := h9 g hm; omega
  have row2 : (w2.setCell ⟨tb, 3, none⟩ (.slice (some ⟨gg, 0, none⟩) (n + 1) cap1)).heap[tb]? = some (.cells (rowT hn nb la L.length lc (some ⟨gg, 0, none⟩) (V ++ [p]).length cap1) 37 (0, 0)) := by
    have hrb : w2.heap[tb]? = _ := row_keep h5 kg (fun hm => by have := h9 tb hm; omega)
    rw [heap_setCell_same w2 tb 3 _ _ _ hrb]
    simp [hlen]
  have outX : OutW (w2.setCell ⟨tb, 3, none⟩ (.slice (some ⟨gg, 0, none⟩) (n + 1) cap1)) B (some ⟨gg, 0, none⟩) cap1 (V ++ [p]) := by
    refine ⟨?_, (h7.pk.keep k2 (fun g hg => far g 6 (h7.pk.lt g hg).2 (h11 g hg) (by decide) (by decide))).app (ho.keep k2 hpk2) (fun g hg hm => by have := htp g hg; have := h11 g hm; omega)⟩
    rw [hlen, show fl Pkt.list (V ++ [p]) = fl Pkt.list V ++ p.list by rw [fl_app, fl_one]]
    refine owns_keep hown ks (by intro q hq; simp [Value.ownBlock] at hq; subst hq; intro e; simp only [List.mem_singleton] at e; rw [e] at hgt; have := hgt htb; omega)
  have outY : OutW (w2.setCell ⟨tb, 3, none⟩ (.slice (some ⟨gg, 0, none⟩) (n + 1) cap1)) B la lc L := h6.keep k2 (fun g hg => by
    have hs := (h6.blocks g hg).2
    rcases List.mem_append.1 hg with hg | hg
    · exact far g 3 hs (h8 g hg) (by decide) (by decide)
    · exact far g 5 hs (h10 g hg) (by decide) (by decide))
  refine ⟨⟨Bs, n1.keep k2 (fun g hg => far g 1 (n1.blocks g hg).2 (n2 g hg) (by decide) (by decide)), fun g hg => old g 1 (n1.blocks g hg).2 (n2 g hg) (by decide) (by decide)⟩, ⟨lo, lcd, r1.keep k2 (fun g hg => far g 2 (r1.blocks g hg).2 (r2 g hg) (by decide) (by decide)), fun g hg => old g 2 (r1.blocks g hg).2 (r2 g hg) (by decide) (by decide)⟩, ?_, h.base, old tb 0 htb h0 (by decide) (by decide)⟩
  have tx : ∀ g ∈ blk (some (⟨gg, 0, none⟩ : Addr)), ptag tg w.heap.size gg (blk p.ao) 4 6 g = 4 := fun g hg => by simp [blk] at hg; subst hg; exact ptag_gg
  have ty : ∀ g ∈ blk la, ptag tg w.heap.size gg (blk p.ao) 4 6 g = 3 := fun g hg => old g 3 (h6.blocks g (List.mem_append.2 (.inl hg))).2 (h8 g hg) (by decide) (by decide)
  have bx : ∀ g ∈ bs (V ++ [p]), ptag tg w.heap.size gg (blk p.ao) 4 6 g = 6 := fun g hg => by
    rw [hbs] at hg
    rcases List.mem_append.1 hg with hg | hg
    · exact old g 6 (h7.pk.lt g hg).2 (h11 g hg) (by decide) (by decide)
    · exact ptag_x (fun e => hpg (e ▸ hg)) hg
  have by_ : ∀ g ∈ bs L, ptag tg w.heap.size gg (blk p.ao) 4 6 g = 5 := fun g hg => old g 5 (h6.pk.lt g hg).2 (h10 g hg) (by decide) (by decide)
  exact ⟨_, _, _, _, row2, outY, outX, ty, tx, by_, bx⟩
end
end Go.Proofs.Ythanjfnpohhebaa
