/- NetPlays: what came out is written over: the twin's rows behind it. -/
import Derived.Test.YthanjfnpohhebaaTwn
namespace Go.Proofs.Ythanjfnpohhebaa
open Go.RowKit Go.Sort
set_option linter.unusedVariables false
set_option linter.unusedSectionVars false
set_option linter.unusedSimpArgs false
set_option maxRecDepth 100000
section
variable {w w' : World} {B tb hn nb room made last : Nat} {tg : Nat → Nat} {S D L V : List Pkt} {T T2 : Tr}
theorem owns_putq {e : TypeId} {z n cap g : Nat} {xs : List Value} (ho : w.ownsRow B e z (.slice (some ⟨g, 0, none⟩) n cap) n xs) (q : Nat) (hq : q < n * z) (v : Value) : (w.setCell ⟨g, q, none⟩ v).ownsRow B e z (.slice (some ⟨g, 0, none⟩) n cap) n (xs.set q v) := by
  refine ⟨by rw [List.length_set]; exact ho.1, ?_⟩
  have hl := ho.1
  rcases ho.2 with ⟨h2, h3⟩ | ⟨g', cap', cur, h2, hb, hg, h3, h4, h5, h6⟩
  · cases h2
  · cases h2
    have hcz : n * z ≤ cap * z := Nat.mul_le_mul_right z h3
    have hcs : q < cur.toList.length := by
      have h7 := congrArg List.length h6
      simp only [List.length_take] at h7
      omega
    refine .inr ⟨g, cap, cur.setIfInBounds q v, rfl, hb, heap_setCell_same w g q cur _ _ hg, h3, h4, by simpa using h5, ?_⟩
    rw [← h6]
    apply List.ext_getElem?
    intro k
    rw [List.getElem?_take]
    by_cases hk : k < n * z
    · rw [if_pos hk, Array.getElem?_toList]
      by_cases ek : k = q
      · subst ek
        rw [Array.getElem?_setIfInBounds_self_of_lt (by simpa using hcs), List.getElem?_set_self (by rw [List.length_take]; omega)]
      · rw [Array.getElem?_setIfInBounds_ne (by omega), List.getElem?_set_ne (by omega), List.getElem?_take, if_pos hk, Array.getElem?_toList]
    · rw [if_neg hk, List.getElem?_eq_none (by rw [List.length_set, List.length_take]; omega)]
/-- packet j of a row that came out -/
theorem OutW.pkt {ao : Option Addr} {cap : Nat} (h : OutW w B ao cap L) {j : Nat} {p : Pkt} (hj : L[j]? = some p) : ∃ g, ao = some ⟨g, 0, none⟩ ∧ g < w.heap.size ∧ (∀ q, q < 4 → w.cell? ⟨g, j * 4 + q, none⟩ = p.list[q]?) ∧ ∀ q, w.frozen? ⟨g, q, none⟩ = false := by
  have hl := (List.getElem?_eq_some_iff.1 hj).1
  obtain ⟨g, e1, _, _, _, e5⟩ := owns_none h.own (by omega)
  refine ⟨g, e1, e5, fun q hq => ?_, fun q => ?_⟩
  · obtain ⟨g2, v, e6, _, _, e7, e8, _⟩ := owns_cellz h.own (j * 4 + q) (by omega)
    rw [e1] at e6
    simp only [Option.some.injEq, Addr.mk.injEq, and_true] at e6
    subst e6
    rw [e8, ← e7, fl_at list_len L j q hq, hj]
    rfl
  · rcases h.own.2 with ⟨h2, h3⟩ | ⟨g', cap', cur, h2, hb, hg, _⟩
    · have := h3; omega
    · subst e1; cases h2
      exact frozen_of_row w _ q cur _ hg
theorem fl_set4 (L : List Pkt) {j : Nat} {p : Pkt} (hj : L[j]? = some p) (p' : Pkt) (v : Value) (h0 : p'.list = p.list.set 3 v) : fl Pkt.list (L.set j p') = (fl Pkt.list L).set (j * 4 + 3) v := by
  have hl := (List.getElem?_eq_some_iff.1 hj).1
  apply List.ext_getElem?
  intro k
  by_cases hk : k < L.length * 4
  · obtain ⟨i, q, hq, rfl⟩ : ∃ i q, q < 4 ∧ k = i * 4 + q := ⟨k / 4, k % 4, Nat.mod_lt _ (by omega), by omega⟩
    rw [fl_at list_len _ i q hq]
    by_cases ei : i = j
    · subst ei
      rw [List.getElem?_set_self hl]
      by_cases e3 : q = 3
      · subst e3
        rw [List.getElem?_set_self (by rw [fl_len list_len]; omega)]
        show p'.list[3]? = _
        rw [h0, List.getElem?_set_self (by rw [list_len]; omega)]
      · rw [List.getElem?_set_ne (by omega), fl_at list_len _ i q hq, hj]
        show p'.list[q]? = p.list[q]?
        rw [h0, List.getElem?_set_ne (by omega)]
    · rw [List.getElem?_set_ne (Ne.symm ei), List.getElem?_set_ne (by omega), fl_at list_len _ i q hq]
  · rw [List.getElem?_eq_none (by rw [fl_len list_len, List.length_set]; omega), List.getElem?_eq_none (by rw [List.length_set, fl_len list_len]; omega)]
theorem bs_sets {j : Nat} {p p' : Pkt} : ∀ g ∈ bs (L.set j p'), g ∈ bs L ∨ g ∈ blk p'.ao := fun g hg => by
  obtain ⟨x, hx, hg⟩ := bs_mem.1 hg
  rcases List.mem_or_eq_of_mem_set hx with hx | hx
  · exact .inl (bs_mem.2 ⟨x, hx, hg⟩)
  · rw [hx] at hg; exact .inr hg
/-- the blocks of two packets of a row are apart -/
theorem PkW.two (h : PkW w B L) {i j : Nat} {p q : Pkt} (hi : L[i]? = some p) (hj : L[j]? = some q) (hne : i ≠ j) : ∀ g ∈ blk p.ao, g ∉ blk q.ao := by
  obtain ⟨hi1, hi2⟩ := List.getElem?_eq_some_iff.1 hi
  obtain ⟨hj1, hj2⟩ := List.getElem?_eq_some_iff.1 hj
  have hp := List.pairwise_iff_getElem.1 h.apart
  intro g hg hm
  rcases Nat.lt_or_gt_of_ne hne with hlt | hlt
  · exact hp i j hi1 hj1 hlt g (by rw [hi2]; exact hg) (by rw [hj2]; exact hm)
  · exact hp j i hj1 hi1 hlt g (by rw [hj2]; exact hm) (by rw [hi2]; exact hg)
/-- packet j is another one, whose bytes lie in its own blocks or in new ones; only blocks of it and X have turned -/
theorem PkW.put (h : PkW w B L) {j : Nat} {p p' : Pkt} (hj : L[j]? = some p) {U : List Nat} (k : Keep U w w') (hU : ∀ g ∈ U, g ∈ bs L → g ∈ blk p.ao) (ho : Own w' B p'.ao p'.data.length p'.cap p'.data) (hb : ∀ g ∈ blk p'.ao, g ∈ blk p.ao ∨ w.heap.size ≤ g) : PkW w' B (L.set j p') := by
  have hl := (List.getElem?_eq_some_iff.1 hj).1
  have other : ∀ i q, i ≠ j → L[i]? = some q → ∀ g ∈ blk q.ao, g ∉ blk p'.ao := fun i q hne hq g hg hm => by
    rcases hb g hm with hm | hm
    · exact h.two hq hj hne g hg hm
    · have := (h.lt g (bs_mem.2 ⟨q, List.mem_of_getElem? hq, hg⟩)).2; omega
  refine ⟨fun x hx => ?_, ?_⟩
  · obtain ⟨i, hi⟩ := List.getElem?_of_mem hx
    by_cases ei : i = j
    · subst ei
      rw [List.getElem?_set_self hl] at hi
      cases hi; exact ho
    · rw [List.getElem?_set_ne (Ne.symm ei)] at hi
      have hm := List.mem_of_getElem? hi
      exact (h.own x hm).keep k fun g hg hu => h.two hi hj ei g hg (hU g hu (bs_mem.2 ⟨x, hm, hg⟩))
  · refine List.pairwise_iff_getElem.2 fun a b ha hb' hab g hg hm => ?_
    rw [List.length_set] at ha hb'
    have ga : (L.set j p')[a]? = some _ := List.getElem?_eq_getElem (by rw [List.length_set]; exact ha)
    have gb : (L.set j p')[b]? = some _ := List.getElem?_eq_getElem (by rw [List.length_set]; exact hb')
    by_cases ea : a = j
    · subst ea
      rw [List.getElem?_set_ne (by omega)] at gb
      rw [List.getElem_set_self] at hg
      exact other b _ (by omega) gb g hm hg
    · rw [List.getElem?_set_ne (Ne.symm ea)] at ga
      by_cases eb : b = j
      · subst eb
        rw [List.getElem_set_self] at hm
        exact other a _ ea ga g hg hm
      · rw [List.getElem?_set_ne (Ne.symm eb)] at gb
        exact h.two ga gb (by omega) g hg hm
/-- the bytes of a packet that came out are written over -/
theorem TwW.bytesL (h : TwW w B tb tg hn nb room S made T D last T2 L V) {j : Nat} {p : Pkt} (hj : L[j]? = some p) (k : Keep (blk p.ao) w w') {l' : List Nat} (ho : Own w' B p.ao p.data.length p.cap l') :
    TwW w' B tb tg hn nb room S made T D last T2 (L.set j { p with data := l' }) V := by
  obtain ⟨Bs, h1, h2⟩ := h.net
  obtain ⟨lo, lc, h3, h4⟩ := h.rn
  obtain ⟨la, l2, wa, wc, h5, h6, h7, h8, h9, h10, h11⟩ := h.out
  have ht := h.tt
  have hl := (List.getElem?_eq_some_iff.1 hj).1
  have hU : ∀ g ∈ blk p.ao, tg g = 5 := fun g hg => h10 g (bs_mem.2 ⟨p, List.mem_of_getElem? hj, hg⟩)
  have hlen : l'.length = p.data.length := ho.len
  have e3 : ({ p with data := l' } : Pkt).list = p.list.set 3 (.slice p.ao p.data.length p.cap) := by
    show [_, _, _, Value.slice p.ao l'.length p.cap] = _
    rw [hlen]; rfl
  have efl : fl Pkt.list (L.set j { p with data := l' }) = fl Pkt.list L := by
    rw [fl_set4 L hj _ _ e3]
    have e4 : (fl Pkt.list L)[j * 4 + 3]? = some (.slice p.ao p.data.length p.cap) := by
      rw [fl_at list_len L j 3 (by omega), hj]
      rfl
    obtain ⟨hlt, hget⟩ := List.getElem?_eq_some_iff.1 e4
    rw [← hget]
    exact List.set_getElem_self hlt
  refine ⟨⟨Bs, h1.keep k (fun g hg hu => ?_), h2⟩, ⟨lo, lc, h3.keep k (fun g hg hu => ?_), h4⟩, ⟨la, l2, wa, wc, ?_, ⟨?_, ?_⟩, h7.keep k (fun g hg hu => ?_), h8, h9, ?_, h11⟩, h.base, h.tt⟩
  · have := hU g hu; have := h2 g hg; omega
  · have := hU g hu; have := h4 g hg; omega
  · rw [List.length_set]; exact row_keep h5 k (fun hu => by have := hU tb hu; omega)
  · rw [List.length_set, efl]
    exact owns_keep h6.own k (blk_own _ _ _ fun g hg hu => by have := hU g hu; have := h8 g hg; omega)
  · exact h6.pk.put hj k (fun g hg _ => hg) (by show Own w' B p.ao l'.length p.cap l'; rw [hlen]; exact ho) (fun g hg => .inl hg)
  · have := hU g hu
    rcases List.mem_append.1 hg with hg | hg
    · have := h9 g hg; omega
    · have := h11 g hg; omega
  · intro g hg
    rcases bs_sets (p := p) g hg with hg | hg
    · exact h10 g hg
    · exact hU g hg
/-- the slice of a packet that came out is stored anew -/
theorem TwW.dataL {wa : World} {gl : Nat} (h : TwW w B tb tg hn nb room S made T D last T2 L V) {j : Nat} {p : Pkt} (hj : L[j]? = some p) (k : Keep (blk p.ao) w wa) {ao' : Option Addr} {n cap' : Nat} {l' : List Nat} (ho : Own wa B ao' n cap' l') (hb : ∀ g ∈ blk ao', g ∈ blk p.ao ∨ w.heap.size ≤ g)
    (hgl : ∃ lc wv wc, w.heap[tb]? = some (.cells (rowT hn nb (some ⟨gl, 0, none⟩) L.length lc wv V.length wc) 37 (0, 0))) :
    TwW (wa.setCell ⟨gl, j * 4 + 3, none⟩ (.slice ao' n cap')) B tb (fun g => if g ∈ blk ao' then 5 else tg g) hn nb room S made T D last T2 (L.set j { p with ao := ao', cap := cap', data := l' }) V := by
  obtain ⟨Bs, h1, h2⟩ := h.net
  obtain ⟨lo, lc, h3, h4⟩ := h.rn
  obtain ⟨la, l2, wv, wc, h5, h6, h7, h8, h9, h10, h11⟩ := h.out
  have ht := h.tt
  have hl := (List.getElem?_eq_some_iff.1 hj).1
  obtain rfl : la = some ⟨gl, 0, none⟩ := by
    obtain ⟨_, _, _, e⟩ := hgl
    rw [h5] at e
    have e1 := congrArg (fun o => match o with | some (Obj.cells r _ _) => r[2]? | _ => none) e
    simp only [List.getElem?_toArray, List.getElem?_cons_succ, List.getElem?_cons_zero, Option.some.injEq, Value.slice.injEq] at e1
    exact e1.1
  have hU : ∀ g ∈ blk p.ao, tg g = 5 := fun g hg => h10 g (bs_mem.2 ⟨p, List.mem_of_getElem? hj, hg⟩)
  have hg3 : tg gl = 3 := h8 gl (by simp [blk])
  have hlen : l'.length = n := ho.len
  have e3 : ({ p with ao := ao', cap := cap', data := l' } : Pkt).list = p.list.set 3 (.slice ao' n cap') := by
    show [_, _, _, Value.slice ao' l'.length cap'] = _
    rw [hlen]; rfl
  have hln := fl_set4 L hj _ _ e3
  have kc := Keep.setCell wa ⟨gl, j * 4 + 3, none⟩ (.slice ao' n cap')
  have kk : Keep (gl :: blk p.ao) w (wa.setCell ⟨gl, j * 4 + 3, none⟩ (.slice ao' n cap')) := (k.mono (fun q hq => .inl (List.mem_cons_of_mem _ hq))).trans (kc.mono (by simp))
  -- owners of the twin's blocks stay
  have hold : ∀ g, g < w.heap.size → (tg g = 5 → False) → (if g ∈ blk ao' then 5 else tg g) = tg g := fun g hg hne => by
    rw [if_neg]
    intro hm
    rcases hb g hm with hm | hm
    · exact hne (hU g hm)
    · omega
  have hKT : ∀ g ∈ gl :: blk p.ao, tg g = 3 ∨ tg g = 5 := fun g hg => by
    rcases List.mem_cons.1 hg with rfl | hg
    · exact .inl hg3
    · exact .inr (hU g hg)
  refine ⟨⟨Bs, h1.keep kk (fun g hg hu => ?_), fun g hg => ?_⟩, ⟨lo, lc, h3.keep kk (fun g hg hu => ?_), fun g hg => ?_⟩, ⟨some ⟨gl, 0, none⟩, l2, wv, wc, ?_, ⟨?_, ?_⟩, h7.keep kk (fun g hg hu => ?_), fun g hg => ?_, fun g hg => ?_, fun g hg => ?_, fun g hg => ?_⟩, h.base, ?_⟩
  · have := hKT g hu; have := h2 g hg; omega
  · rw [hold g (h1.blocks g hg).2 (by rw [h2 g hg]; decide)]; exact h2 g hg
  · have := hKT g hu; have := h4 g hg; omega
  · rw [hold g (h3.blocks g hg).2 (by rw [h4 g hg]; decide)]; exact h4 g hg
  · rw [List.length_set]; exact row_keep h5 kk (fun hu => by have := hKT tb hu; omega)
  · rw [List.length_set, hln]
    exact owns_putq (owns_keep h6.own k (blk_own _ _ _ fun g hg hu => by have := hU g hu; have := h8 g hg; omega)) (j * 4 + 3) (by omega) _
  · have hngl : ∀ g ∈ blk ao', g ∉ [gl] := fun g hg hm => by
      simp only [List.mem_singleton] at hm
      subst hm
      rcases hb g hg with hm | hm
      · have := hU g hm; omega
      · have := (h6.blocks g (List.mem_append.2 (.inl (by simp [blk])))).2; omega
    exact h6.pk.put hj kk (fun g hg hm => by
      rcases List.mem_cons.1 hg with rfl | hg
      · have := h10 g hm; omega
      · exact hg) (by show Own _ B ao' l'.length cap' l'; rw [hlen]; exact ho.keep kc hngl) hb
  · have := hKT g hu
    rcases List.mem_append.1 hg with hg | hg
    · have := h9 g hg; omega
    · have := h11 g hg; omega
  · rw [hold g (h6.blocks g (List.mem_append.2 (.inl hg))).2 (by rw [h8 g hg]; decide)]; exact h8 g hg
  · rw [hold g (h7.blocks g (List.mem_append.2 (.inl hg))).2 (by rw [h9 g hg]; decide)]; exact h9 g hg
  · rcases bs_sets (p := p) g hg with hg | hg
    · show (if g ∈ blk ao' then 5 else tg g) = 5
      split
      · rfl
      · exact h10 g hg
    · show (if g ∈ blk ao' then 5 else tg g) = 5
      rw [if_pos hg]
  · rw [hold g (h7.blocks g (List.mem_append.2 (.inr hg))).2 (by rw [h11 g hg]; decide)]; exact h11 g hg
  · rw [hold tb h.lt (by omega)]; exact h.tt
end
end Go.Proofs.Ythanjfnpohhebaa
