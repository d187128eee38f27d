/- A newer version; locks that are taken away. -/
import Derived.Test.YtbjcmomicjdepaaDl
namespace Go.Proofs.Ytbjcmomicjdepaa
open Go.RowKit Go.Sort
set_option linter.unusedVariables false
set_option linter.unusedSimpArgs false
set_option linter.unusedSectionVars false
set_option maxRecDepth 100000
theorem zip_filter {α β : Type} (p : α → Bool) : ∀ (l : List α) (m : List β), m.length = l.length → (l.filter p).zip (((l.zip m).filter fun x => p x.1).map (·.2)) = (l.zip m).filter fun x => p x.1
  | [], m, _ => by simp
  | a :: r, [], h => by simp at h
  | a :: r, b :: q, h => by
    have ih := zip_filter p r q (by simpa using h)
    cases hp : p a with
    | true => simp [hp, ih]
    | false => simp [hp, ih]
theorem len_filter {α β : Type} (p : α → Bool) : ∀ (l : List α) (m : List β), m.length = l.length → ((l.zip m).filter fun x => p x.1).length = (l.filter p).length
  | [], m, _ => by simp
  | a :: r, [], h => by simp at h
  | a :: r, b :: q, h => by
    have ih := len_filter p r q (by simpa using h)
    cases hp : p a with
    | true => simp [hp, ih]
    | false => simp [hp, ih]
section
variable {w w' w1 w2 w3 w4 : World} {B b : Nat} {rep : Int} {c : Cp} {s : Cs}
/-- a newer version -/
theorem RowR.setVD (h : RowR w B b rep c s) (ver : Int) {es : List En} {t : Sd} (b3 : Below w.heap.size w w3) (ht : EsO w3 w.heap.size t es) (hft : Fit es) :
    RowR ((w3.setCell ⟨b, 2, none⟩ (.int .u32 ver)).setCell ⟨b, 3, none⟩ (.slice t.ao es.length t.cap)) B b rep {c with ver := ver, es := es} {s with d := t} ∧
    Trn b s {s with d := t} w ((w3.setCell ⟨b, 2, none⟩ (.int .u32 ver)).setCell ⟨b, 3, none⟩ (.slice t.ao es.length t.cap)) := by
  have h3 := h.below b3
  have hs3 := b3.size
  have ks : Keep [b] w3 ((w3.setCell ⟨b, 2, none⟩ (.int .u32 ver)).setCell ⟨b, 3, none⟩ (.slice t.ao es.length t.cap)) := (Keep.setCell w3 ⟨b, 2, none⟩ _).trans (Keep.setCell _ ⟨b, 3, none⟩ _)
  have hnd := h.nd
  simp only [Cs.mut, List.nodup_cons, List.nodup_append, List.mem_append, not_or] at hnd
  obtain ⟨⟨hbl, hbv⟩, hndl, hndv, hlv⟩ := hnd
  have htb := fun g hg => EsO.blk ht g hg
  have htr := ht.rd hft
  have hbs : ∀ g ∈ blk t.ao, g ≠ b ∧ g ∉ blk s.l.ao ∧ g ∉ blk s.v.ao := fun g hg => by
    have h1 := htb g hg
    refine ⟨fun e => ?_, fun e => ?_, fun e => ?_⟩
    · subst e; have := h.blt; omega
    · have := (owns_blk h.l g e).2; omega
    · have := (owns_blk h.v g e).2; omega
  have hdat : ∀ g, g ∈ ({s with d := t} : Cs).dat → g ∈ s.dat ∨ g ∈ blk t.ao := fun g hg => by
    simp only [Cs.dat, List.mem_append] at hg ⊢
    rcases hg with q | q
    · exact .inr q
    · exact .inl (.inr q)
  refine ⟨?_, ?_⟩
  · refine ⟨?_, h.ll, ?_, hft, ?_, ?_, ?_, h.nd, ?_, ?_, ?_, h.few, h.fev⟩
    · have r1 := heap_setCell_same w3 b 2 _ _ (.int .u32 ver) h3.row
      have r2 := heap_setCell_same _ b 3 _ _ (.slice t.ao es.length t.cap) r1
      rw [r2]
      simp [rowL]
    · exact htr.keep ks fun g hg e => (hbs g hg).1 (by simpa using e)
    · exact owns_keep h3.l ks (blk_own _ _ _ fun g hg e => by simp at e; subst e; exact hbl hg)
    · intro x hx
      exact ⟨(h3.le x hx).1.keep ks fun g hg e => h.ap g (dat_la (s := s) (List.of_mem_zip hx).2 g hg) (by simp at e; simp [Cs.mut, e]), (h.le x hx).2⟩
    · exact owns_keep h3.v ks (blk_own _ _ _ fun g hg e => by simp at e; subst e; exact hbv hg)
    · intro g hg e
      have e2 : g ∈ s.mut b := e
      rcases hdat g hg with q | q
      · exact h.ap g q e2
      · simp only [Cs.mut, List.mem_cons, List.mem_append] at e2
        obtain ⟨q1, q2, q3⟩ := hbs g q
        rcases e2 with e | e | e
        · exact q1 e
        · exact q2 e
        · exact q3 e
    · intro g hg
      rw [List.mem_append] at hg
      rcases hg with hg | hg
      · exact h.bs g (List.mem_append.2 (.inl hg))
      · rcases hdat g hg with q | q
        · exact h.bs g (List.mem_append.2 (.inr q))
        · have h1 := htb g q
          have h2 := h.bs b (by simp [Cs.mut])
          have := h.blt
          omega
    · intro g hg
      have k2 := ks.size
      rcases hdat g hg with q | q
      · have := h.lt g q; omega
      · have := htb g q; omega
  · refine ⟨?_, fun g hg => .inl hg, fun g hg => ?_⟩
    · exact (Keep.of_below b3 _).trans (ks.mono fun g hg => .inl (by simp at hg; simp [Cs.mut, hg]))
    · rcases hdat g hg with q | q
      · exact .inl q
      · exact .inr (htb g q).1
/-- locks that are taken away -/
theorem RowR.delL (h : RowR w B b rep c s) (p : Lk → Bool)
    (own : w'.ownsRow B 38 12 (.slice s.l.ao ((c.ls.zip s.la).filter fun x => p x.1).length s.l.cap) ((c.ls.zip s.la).filter fun x => p x.1).length (fl lkc ((c.ls.zip s.la).filter fun x => p x.1))) (kg : Keep (blk s.l.ao) w w') :
    RowR (w'.setCell ⟨b, 4, none⟩ (.slice s.l.ao ((c.ls.zip s.la).filter fun x => p x.1).length s.l.cap)) B b rep {c with ls := c.ls.filter p} {s with la := ((c.ls.zip s.la).filter fun x => p x.1).map (·.2)} ∧
    Trn b s {s with la := ((c.ls.zip s.la).filter fun x => p x.1).map (·.2)} w (w'.setCell ⟨b, 4, none⟩ (.slice s.l.ao ((c.ls.zip s.la).filter fun x => p x.1).length s.l.cap)) := by
  have hlen := len_filter p c.ls s.la h.ll
  have hzip := zip_filter p c.ls s.la h.ll
  have ks := Keep.setCell w' ⟨b, 4, none⟩ (.slice s.l.ao ((c.ls.zip s.la).filter fun x => p x.1).length s.l.cap)
  have hnd := h.nd
  simp only [Cs.mut, List.nodup_cons, List.nodup_append, List.mem_append, not_or] at hnd
  obtain ⟨⟨hbl, hbv⟩, hndl, hndv, hlv⟩ := hnd
  have hdat : ∀ g, g ∈ ({s with la := ((c.ls.zip s.la).filter fun x => p x.1).map (·.2)} : Cs).dat → g ∈ s.dat := fun g hg => by
    simp only [Cs.dat, List.mem_append, List.mem_flatMap, List.mem_map] at hg ⊢
    rcases hg with q | ⟨x, ⟨y, hy, rfl⟩, q⟩
    · exact .inl q
    · exact .inr ⟨y.2, (List.of_mem_zip (List.mem_filter.1 hy).1).2, q⟩
  refine ⟨?_, ?_⟩
  · refine ⟨?_, by rw [List.length_map, hlen], ?_, h.fd, ?_, ?_, ?_, h.nd, ?_, ?_, ?_, ?_, h.fev⟩
    · have r4 : w'.heap[b]? = _ := row_keep h.row kg hbl
      have := heap_setCell_same w' b 4 _ _ (.slice s.l.ao ((c.ls.zip s.la).filter fun x => p x.1).length s.l.cap) r4
      rw [this, hlen]
      simp [rowL]
    · exact (h.d.keep kg fun g hg e => h.ap g (by simp [Cs.dat, hg]) (by simp [Cs.mut, e])).keep ks fun g hg e => h.ap g (by simp [Cs.dat, hg]) (by simp at e; simp [Cs.mut, e])
    · show World.ownsRow _ B _ 12 (.slice s.l.ao (c.ls.filter p).length s.l.cap) (c.ls.filter p).length (fl lkc ((c.ls.filter p).zip (((c.ls.zip s.la).filter fun x => p x.1).map (·.2))))
      rw [hzip, ← hlen]
      exact owns_keep own ks (blk_own _ _ _ fun g hg e => by simp at e; subst e; exact hbl hg)
    · intro x hx
      have hx : x ∈ (c.ls.filter p).zip (((c.ls.zip s.la).filter fun x => p x.1).map (·.2)) := hx
      rw [hzip] at hx
      have hx := (List.mem_filter.1 hx).1
      refine ⟨((h.le x hx).1.keep kg fun g hg e => ?_).keep ks fun g hg e => ?_, (h.le x hx).2⟩
      · exact h.ap g (dat_la (List.of_mem_zip hx).2 g hg) (by simp [Cs.mut, e])
      · exact h.ap g (dat_la (List.of_mem_zip hx).2 g hg) (by simp at e; simp [Cs.mut, e])
    · exact owns_keep (owns_keep h.v kg (blk_own _ _ _ fun g hg e => hlv g e g hg rfl)) ks (blk_own _ _ _ fun g hg e => by simp at e; subst e; exact hbv hg)
    · intro g hg e
      exact h.ap g (hdat g hg) e
    · intro g hg
      rw [List.mem_append] at hg
      rcases hg with hg | hg
      · exact h.bs g (List.mem_append.2 (.inl hg))
      · exact h.bs g (List.mem_append.2 (.inr (hdat g hg)))
    · intro g hg
      have := h.lt g (hdat g hg)
      have := kg.size
      have := ks.size
      omega
    · have := List.length_filter_le p c.ls
      have := h.few
      show (c.ls.filter p).length ≤ _
      omega
  · refine ⟨?_, fun g hg => .inl hg, fun g hg => .inl (hdat g hg)⟩
    exact (kg.mono (T := s.mut b) fun g hg => .inl (by simp [Cs.mut, hg])).trans (ks.mono fun g hg => .inl (by simp at hg; simp [Cs.mut, hg]))
/-- a fence that is raised -/
def Cp.setF (c : Cp) (q : Nat) (v : Int) : Cp := match q with
  | 0 => {c with f0 := v}
  | 1 => {c with f1 := v}
  | 2 => {c with f2 := v}
  | _ => {c with f3 := v}
theorem RowR.setF (h : RowR w B b rep c s) (q : Nat) (hq : q < 4) (v : Int) : RowR (w.setCell ⟨b, 5 + q, none⟩ (.int .u32 v)) B b rep (c.setF q v) s ∧ Trn b s s w (w.setCell ⟨b, 5 + q, none⟩ (.int .u32 v)) := by
  have ks := Keep.setCell w ⟨b, 5 + q, none⟩ (.int .u32 v)
  have hnd := h.nd
  simp only [Cs.mut, List.nodup_cons, List.nodup_append, List.mem_append, not_or] at hnd
  obtain ⟨⟨hbl, hbv⟩, -, -, -⟩ := hnd
  have hrow : (w.setCell ⟨b, 5 + q, none⟩ (.int .u32 v)).heap[b]? = some (.cells ⟨rowL (c.setF q v) s rep⟩ 92 (0, 0)) := by
    rw [heap_setCell_same w b (5 + q) _ _ _ h.row]
    have : q = 0 ∨ q = 1 ∨ q = 2 ∨ q = 3 := by omega
    rcases this with rfl | rfl | rfl | rfl <;> simp [rowL, Cp.setF]
  have e1 : (c.setF q v).es = c.es ∧ (c.setF q v).ls = c.ls ∧ (c.setF q v).vs = c.vs := by unfold Cp.setF; split <;> exact ⟨rfl, rfl, rfl⟩
  obtain ⟨e1, e2, e3⟩ := e1
  have kd : ∀ g ∈ s.dat, g ∉ [b] := fun g hg e => h.ap g hg (by simp at e; simp [Cs.mut, e])
  refine ⟨⟨hrow, by rw [e2]; exact h.ll, by rw [e1]; exact h.d.keep ks fun g hg => kd g (by simp [Cs.dat, hg]), by rw [e1]; exact h.fd, ?_, ?_, ?_, h.nd, h.ap, h.bs, fun g hg => by have := h.lt g hg; have := ks.size; omega, by rw [e2]; exact h.few, by rw [e3]; exact h.fev⟩, ks.mono fun g hg => .inl (by simp at hg; simp [Cs.mut, hg]), fun g hg => .inl hg, fun g hg => .inl hg⟩
  · rw [e2]; exact owns_keep h.l ks (blk_own _ _ _ fun g hg e => by simp at e; subst e; exact hbl hg)
  · rw [e2]; exact fun x hx => ⟨(h.le x hx).1.keep ks fun g hg => kd g (dat_la (List.of_mem_zip hx).2 g hg), (h.le x hx).2⟩
  · rw [e3]; exact owns_keep h.v ks (blk_own _ _ _ fun g hg e => by simp at e; subst e; exact hbv hg)
end
end Go.Proofs.Ytbjcmomicjdepaa
