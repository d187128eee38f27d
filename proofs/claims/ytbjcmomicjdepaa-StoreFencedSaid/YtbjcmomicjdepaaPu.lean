/- What a call may turn of a replica; a vote, a lock more. -/
import Derived.Test.YtbjcmomicjdepaaMy
namespace Go.Proofs.Ytbjcmomicjdepaa
open Go.RowKit Go.Sort
set_option linter.unusedVariables false
set_option linter.unusedSimpArgs false
set_option linter.unusedSectionVars false
set_option maxRecDepth 100000

/-- what a call may do to a replica that lies at b -/
structure Trn (b : Nat) (s s' : Cs) (w w' : World) : Prop where
  keep : Keep (s.mut b) w w'
  m : ∀ g ∈ s'.mut b, g ∈ s.mut b ∨ w.heap.size ≤ g
  d : ∀ g ∈ s'.dat, g ∈ s.dat ∨ w.heap.size ≤ g
section
variable {w w' w1 w2 w3 w4 : World} {B b : Nat} {rep : Int} {c : Cp} {s s' s'' : Cs}
theorem Trn.refl (b : Nat) (s : Cs) (w : World) : Trn b s s w w := ⟨Keep.refl _ _, fun g h => .inl h, fun g h => .inl h⟩
theorem Trn.of_below (b : Nat) (s : Cs) (h : Below w.heap.size w w') : Trn b s s w w' := ⟨Keep.of_below h _, fun g h => .inl h, fun g h => .inl h⟩
theorem Trn.trans (h : Trn b s s' w w1) (k : Trn b s' s'' w1 w2) : Trn b s s'' w w2 where
  keep := h.keep.cut k.keep h.m
  m := fun g hg => by
    rcases k.m g hg with h1 | h1
    · exact h.m g h1
    · exact .inr (Nat.le_trans h.keep.size h1)
  d := fun g hg => by
    rcases k.d g hg with h1 | h1
    · exact h.d g h1
    · exact .inr (Nat.le_trans h.keep.size h1)
theorem Trn.below (h : Trn b s s' w w1) (hb : ∀ g ∈ s.mut b, B ≤ g) (hB : B ≤ w.heap.size) : Below B w w1 := h.keep.below hB hb
theorem zip_push {α β : Type} : ∀ (l : List α) (m : List β) (x : α) (y : β), m.length = l.length → (l ++ [x]).zip (m ++ [y]) = l.zip m ++ [(x, y)]
  | [], [], x, y, _ => rfl
  | [], b :: q, x, y, h => by simp at h
  | a :: r, [], x, y, h => by simp at h
  | a :: r, b :: q, x, y, h => by simp [zip_push r q x y (by simpa using h)]
theorem blk_some (g o : Nat) : blk (some (⟨g, o, none⟩ : Addr)) = [g] := rfl
theorem own_at {ao : Option Addr} {n cap ga H : Nat} (h : (Value.slice ao n cap).ownBlock = some ga ∨ ga = H) : ga ∈ blk ao ∨ ga = H := by
  rcases h with h | h
  · left
    cases ao with
    | none => simp [Value.ownBlock] at h
    | some a => simp [Value.ownBlock] at h; simp [blk, h]
  · exact .inr h
/-- a vote more -/
theorem RowR.pushV (h : RowR w B b rep c s) (v : Vd) (hf : c.vs.length < 1099511627775) (b3 : Below w.heap.size w w3) {ga ca : Nat}
    (own : w4.ownsRow B 51 2 (.slice (some ⟨ga, 0, none⟩) (c.vs.length + 1) ca) (c.vs.length + 1) (fl Vd.list c.vs ++ Vd.list v))
    (gr : w3.grownBy w4 (Value.slice s.v.ao c.vs.length s.v.cap).ownBlock) (hat : (Value.slice s.v.ao c.vs.length s.v.cap).ownBlock = some ga ∨ ga = w3.heap.size) :
    RowR (w4.setCell ⟨b, 9, none⟩ (.slice (some ⟨ga, 0, none⟩) (c.vs.length + 1) ca)) B b rep {c with vs := c.vs ++ [v]} {s with v := ⟨some ⟨ga, 0, none⟩, ca⟩} ∧
    Trn b s {s with v := ⟨some ⟨ga, 0, none⟩, ca⟩} w (w4.setCell ⟨b, 9, none⟩ (.slice (some ⟨ga, 0, none⟩) (c.vs.length + 1) ca)) := by
  have kg := keep_grown gr
  have h3 := h.below b3
  have hs3 := b3.size
  have ks := Keep.setCell w4 ⟨b, 9, none⟩ (.slice (some ⟨ga, 0, none⟩) (c.vs.length + 1) ca)
  have hnd := h.nd
  simp only [Cs.mut, List.nodup_cons, List.nodup_append, List.mem_append, not_or] at hnd
  obtain ⟨⟨hbl, hbv⟩, hndl, hndv, hlv⟩ := hnd
  have hga : ga ∈ blk s.v.ao ∨ w.heap.size ≤ ga := by
    rcases own_at hat with q | q
    · exact .inl q
    · right; omega
  have hgb : ga ≠ b := by
    rcases hga with q | q
    · intro e; subst e; exact hbv q
    · intro e; subst e; have := h.blt; omega
  have hgl : ga ∉ blk s.l.ao := fun q => by
    rcases hga with q2 | q2
    · exact hlv ga q ga q2 rfl
    · have := (owns_blk h.l ga q).2; omega
  have hgd : ∀ g ∈ s.dat, g ≠ ga := fun g hg e => by
    subst e
    rcases hga with q | q
    · exact h.ap g hg (by simp [Cs.mut, q])
    · have := h.lt g hg; omega
  have hlen : ({c with vs := c.vs ++ [v]} : Cp).vs.length = c.vs.length + 1 := by simp
  refine ⟨?_, ?_⟩
  · refine ⟨?_, h.ll, ?_, h.fd, ?_, ?_, ?_, ?_, ?_, ?_, ?_, h.few, ?_⟩
    · have r4 : w4.heap[b]? = _ := row_keep h3.row kg hbv
      have := heap_setCell_same w4 b 9 _ _ (.slice (some ⟨ga, 0, none⟩) (c.vs.length + 1) ca) r4
      rw [this]
      simp [rowL]
    · exact (h3.d.keep kg fun g hg e => h.ap g (by simp [Cs.dat, hg]) (by simp [Cs.mut, e])).keep ks fun g hg e => h.ap g (by simp [Cs.dat, hg]) (by simp at e; simp [Cs.mut, e])
    · exact owns_keep (owns_keep h3.l kg (blk_own _ _ _ fun g hg e => hlv g hg g e rfl)) ks (blk_own _ _ _ fun g hg e => by simp at e; subst e; exact hbl hg)
    · intro x hx
      refine ⟨((h3.le x hx).1.keep kg fun g hg e => ?_).keep ks fun g hg e => ?_, (h.le x hx).2⟩
      · exact h.ap g (dat_la (List.of_mem_zip hx).2 g hg) (by simp [Cs.mut, e])
      · exact h.ap g (dat_la (List.of_mem_zip hx).2 g hg) (by simp at e; simp [Cs.mut, e])
    · have e1 : fl Vd.list (c.vs ++ [v]) = fl Vd.list c.vs ++ Vd.list v := by rw [fl_app, fl_one]
      show World.ownsRow _ B _ 2 (.slice (some ⟨ga, 0, none⟩) (c.vs ++ [v]).length ca) (c.vs ++ [v]).length (fl Vd.list (c.vs ++ [v]))
      rw [e1, show (c.vs ++ [v]).length = c.vs.length + 1 by simp]
      exact owns_keep own ks (fun g hg e => by simp [Value.ownBlock] at hg; subst hg; simp at e; exact hgb e)
    · simp only [Cs.mut, List.nodup_cons, List.nodup_append, List.mem_append, not_or, blk_some]
      refine ⟨⟨hbl, by simpa using Ne.symm hgb⟩, hndl, by simp, fun g hg q hq e => ?_⟩
      subst e
      simp at hq
      subst hq
      exact hgl hg
    · intro g hg e
      simp only [Cs.mut, List.mem_cons, List.mem_append, blk_some, List.not_mem_nil, or_false] at e
      rcases e with e | e | e
      · exact h.ap g hg (by simp [Cs.mut, e])
      · exact h.ap g hg (by simp [Cs.mut, e])
      · exact hgd g hg e
    · intro g hg
      simp only [Cs.mut, List.mem_cons, List.mem_append, blk_some, List.not_mem_nil, or_false] at hg
      rcases hg with (e | e | e) | e
      · exact h.bs g (by simp [Cs.mut, e])
      · exact h.bs g (by simp [Cs.mut, e])
      · subst e; exact (owns_blk own g (by simp [blk])).1
      · exact h.bs g (List.mem_append.2 (.inr e))
    · intro g hg
      have := h.lt g hg
      have := kg.size
      have := ks.size
      omega
    · simp; omega
  · refine ⟨?_, fun g hg => ?_, fun g hg => .inl hg⟩
    · exact ((Keep.of_below b3 _).trans (kg.mono (T := s.mut b) fun g hg => .inl (by simp [Cs.mut, hg]))).trans (ks.mono fun g hg => .inl (by simp at hg; simp [Cs.mut, hg]))
    · simp only [Cs.mut, List.mem_cons, List.mem_append, blk_some, List.not_mem_nil, or_false] at hg ⊢
      rcases hg with e | e | e
      · exact .inl (.inl e)
      · exact .inl (.inr (.inl e))
      · subst e
        rcases hga with q | q
        · exact .inl (.inr (.inr q))
        · exact .inr q
/-- a lock more -/
theorem RowR.pushL (h : RowR w B b rep c s) (v : Lk) (t : Sd) (hf : c.ls.length < 1099511627775) (b3 : Below w.heap.size w w3) (ht : EsO w3 w.heap.size t v.it.es) (hft : Fit v.it.es) {ga ca : Nat}
    (own : w4.ownsRow B 38 12 (.slice (some ⟨ga, 0, none⟩) (c.ls.length + 1) ca) (c.ls.length + 1) (fl lkc (c.ls.zip s.la) ++ lkc (v, t)))
    (gr : w3.grownBy w4 (Value.slice s.l.ao c.ls.length s.l.cap).ownBlock) (hat : (Value.slice s.l.ao c.ls.length s.l.cap).ownBlock = some ga ∨ ga = w3.heap.size) :
    RowR (w4.setCell ⟨b, 4, none⟩ (.slice (some ⟨ga, 0, none⟩) (c.ls.length + 1) ca)) B b rep {c with ls := c.ls ++ [v]} {s with l := ⟨some ⟨ga, 0, none⟩, ca⟩, la := s.la ++ [t]} ∧
    Trn b s {s with l := ⟨some ⟨ga, 0, none⟩, ca⟩, la := s.la ++ [t]} w (w4.setCell ⟨b, 4, none⟩ (.slice (some ⟨ga, 0, none⟩) (c.ls.length + 1) ca)) := by
  have kg := keep_grown gr
  have h3 := h.below b3
  have hs3 := b3.size
  have ks := Keep.setCell w4 ⟨b, 4, none⟩ (.slice (some ⟨ga, 0, none⟩) (c.ls.length + 1) ca)
  have hnd := h.nd
  simp only [Cs.mut, List.nodup_cons, List.nodup_append, List.mem_append, not_or] at hnd
  obtain ⟨⟨hbl, hbv⟩, hndl, hndv, hlv⟩ := hnd
  have htb := fun g hg => EsO.blk ht g hg
  have hga : ga ∈ blk s.l.ao ∨ (w.heap.size ≤ ga ∧ ga = w3.heap.size) := by
    rcases own_at hat with q | q
    · exact .inl q
    · right; omega
  have hgb : ga ≠ b := by
    rcases hga with q | q
    · intro e; subst e; exact hbl q
    · intro e; subst e; have := h.blt; omega
  have hgl : ga ∉ blk s.v.ao := fun q => by
    rcases hga with q2 | q2
    · exact hlv ga q2 ga q rfl
    · have := (owns_blk h.v ga q).2; omega
  have hgd : ∀ g ∈ s.dat, g ≠ ga := fun g hg e => by
    subst e
    rcases hga with q | q
    · exact h.ap g hg (by simp [Cs.mut, q])
    · have := h.lt g hg; omega
  have hbs : ∀ g ∈ blk t.ao, g ≠ b ∧ g ∉ blk s.l.ao ∧ g ∉ blk s.v.ao ∧ g ≠ ga := fun g hg => by
    have h1 := htb g hg
    refine ⟨fun e => ?_, fun e => ?_, fun e => ?_, fun e => ?_⟩
    · subst e; have := h.blt; omega
    · have := (owns_blk h.l g e).2; omega
    · have := (owns_blk h.v g e).2; omega
    · subst e
      rcases hga with q | q
      · have := (owns_blk h.l g q).2; omega
      · omega
  have hdat : ∀ g, g ∈ ({s with l := ⟨some ⟨ga, 0, none⟩, ca⟩, la := s.la ++ [t]} : Cs).dat → g ∈ s.dat ∨ g ∈ blk t.ao := fun g hg => by
    simp only [Cs.dat, List.mem_append, List.flatMap_append, List.flatMap_cons, List.flatMap_nil, List.append_nil] at hg ⊢
    rcases hg with q | q | q
    · exact .inl (.inl q)
    · exact .inl (.inr q)
    · exact .inr q
  have hz := zip_push c.ls s.la v t h.ll
  have htr := ht.rd hft
  refine ⟨?_, ?_⟩
  · refine ⟨?_, by simp [h.ll], ?_, h.fd, ?_, ?_, ?_, ?_, ?_, ?_, ?_, ?_, h.fev⟩
    · have r4 : w4.heap[b]? = _ := row_keep h3.row kg hbl
      have := heap_setCell_same w4 b 4 _ _ (.slice (some ⟨ga, 0, none⟩) (c.ls.length + 1) ca) r4
      rw [this]
      simp [rowL]
    · exact (h3.d.keep kg fun g hg e => h.ap g (by simp [Cs.dat, hg]) (by simp [Cs.mut, e])).keep ks fun g hg e => h.ap g (by simp [Cs.dat, hg]) (by simp at e; simp [Cs.mut, e])
    · show World.ownsRow _ B _ 12 (.slice (some ⟨ga, 0, none⟩) (c.ls ++ [v]).length ca) (c.ls ++ [v]).length (fl lkc ((c.ls ++ [v]).zip (s.la ++ [t])))
      rw [hz, fl_app, fl_one, show (c.ls ++ [v]).length = c.ls.length + 1 by simp]
      exact owns_keep own ks (fun g hg e => by simp [Value.ownBlock] at hg; subst hg; simp at e; exact hgb e)
    · intro x hx
      have hx : x ∈ (c.ls ++ [v]).zip (s.la ++ [t]) := hx
      rw [hz, List.mem_append, List.mem_singleton] at hx
      rcases hx with hx | rfl
      · refine ⟨((h3.le x hx).1.keep kg fun g hg e => ?_).keep ks fun g hg e => ?_, (h.le x hx).2⟩
        · exact h.ap g (dat_la (List.of_mem_zip hx).2 g hg) (by simp [Cs.mut, e])
        · exact h.ap g (dat_la (List.of_mem_zip hx).2 g hg) (by simp at e; simp [Cs.mut, e])
      · exact ⟨(htr.keep kg fun g hg e => (hbs g hg).2.1 e).keep ks fun g hg e => (hbs g hg).1 (by simpa using e), hft⟩
    · exact owns_keep (owns_keep h3.v kg (blk_own _ _ _ fun g hg e => hlv g e g hg rfl)) ks (blk_own _ _ _ fun g hg e => by simp at e; subst e; exact hbv hg)
    · simp only [Cs.mut, List.nodup_cons, List.nodup_append, List.mem_append, not_or, blk_some]
      refine ⟨⟨by simpa using Ne.symm hgb, hbv⟩, by simp, hndv, fun g hg q hq e => ?_⟩
      subst e
      simp at hg
      subst hg
      exact hgl hq
    · intro g hg e
      simp only [Cs.mut, List.mem_cons, List.mem_append, blk_some, List.not_mem_nil, or_false] at e
      rcases hdat g hg with q | q
      · rcases e with e | e | e
        · exact h.ap g q (by simp [Cs.mut, e])
        · exact hgd g q e
        · exact h.ap g q (by simp [Cs.mut, e])
      · obtain ⟨q1, q2, q3, q4⟩ := hbs g q
        rcases e with e | e | e
        · exact q1 e
        · exact q4 e
        · exact q3 e
    · intro g hg
      rw [List.mem_append] at hg
      rcases hg with hg | hg
      · simp only [Cs.mut, List.mem_cons, List.mem_append, blk_some, List.not_mem_nil, or_false] at hg
        rcases hg with e | e | e
        · exact h.bs g (by simp [Cs.mut, e])
        · subst e; exact (owns_blk own g (by simp [blk])).1
        · exact h.bs g (by simp [Cs.mut, e])
      · rcases hdat g hg with q | q
        · exact h.bs g (List.mem_append.2 (.inr q))
        · have h1 := htb g q
          have h2 := h.bs b (by simp [Cs.mut])
          have := h.blt
          omega
    · intro g hg
      have k1 := kg.size
      have k2 := ks.size
      rcases hdat g hg with q | q
      · have := h.lt g q; omega
      · have := htb g q; omega
    · simp; omega
  · refine ⟨?_, fun g hg => ?_, fun g hg => ?_⟩
    · exact ((Keep.of_below b3 _).trans (kg.mono (T := s.mut b) fun g hg => .inl (by simp [Cs.mut, hg]))).trans (ks.mono fun g hg => .inl (by simp at hg; simp [Cs.mut, hg]))
    · simp only [Cs.mut, List.mem_cons, List.mem_append, blk_some, List.not_mem_nil, or_false] at hg ⊢
      rcases hg with e | e | e
      · exact .inl (.inl e)
      · subst e
        rcases hga with q | q
        · exact .inl (.inr (.inl q))
        · exact .inr q.1
      · exact .inl (.inr (.inr e))
    · rcases hdat g hg with q | q
      · exact .inl q
      · exact .inr (htb g q).1
end
end Go.Proofs.Ytbjcmomicjdepaa
