/- Both detectors side by side; what each call does to them. -/
import Derived.Test.YtlfnkplgjlpaaaaRfW
import Derived.Test.YtlfnkplgjlpaaaaTellW
namespace Go.Proofs.Ytlfnkplgjlpaaaa
open Go.RowKit Go.Sort
set_option linter.unusedVariables false

structure TxW (W w : World) (B tb hn hb : Nat) (Bs Cs : List Nat) (Sa Sb : List Nd) (guess now : Nat) (X : List (Nat × Obj)) : Prop where
  det : Det w B hn Bs Sa guess
  rf : Rf w B hb Cs Sb guess
  apart : ∀ q ∈ Bs, q ∉ Cs
  row : w.heap[tb]? = some (.cells #[.pointer (some ⟨hn, 0, none⟩), .pointer (some ⟨hb, 0, none⟩), .int .i64 (now : Int)] 34 (0, 0))
  tA : tb ∉ Bs
  tC : tb ∉ Cs
  tB : B ≤ tb
  bel : Below B W w
  nb : now ≤ 2199023255552
  ex : ∀ q ∈ X, q.1 ∉ Bs ∧ q.1 ∉ Cs ∧ q.1 ≠ tb ∧ w.heap[q.1]? = some q.2
def Tx (W w : World) (B tb hn hb : Nat) (Sa Sb : List Nd) (guess now : Nat) (X : List (Nat × Obj)) : Prop := ∃ Bs Cs, TxW W w B tb hn hb Bs Cs Sa Sb guess now X
section
variable {W w w' : World} {B tb hn hb guess now : Nat} {X : List (Nat × Obj)} {Bs Cs Bs' Cs' : List Nat} {Sa Sb Sa' Sb' : List Nd}
theorem TxW.tlt (h : TxW W w B tb hn hb Bs Cs Sa Sb guess now X) : tb < w.heap.size := (Array.getElem?_eq_some_iff.1 h.row).1
theorem lt_of_at {w : World} {q : Nat} {r : Obj} (h : w.heap[q]? = some r) : q < w.heap.size := (Array.getElem?_eq_some_iff.1 h).1
theorem TxW.turnA (h : TxW W w B tb hn hb Bs Cs Sa Sb guess now X) (hd : Det w' B hn Bs' Sa' guess) (t : Turned Bs Bs' w w') : TxW W w' B tb hn hb Bs' Cs Sa' Sb guess now X := by
  have hC := fun q hq => (h.rf.blocks q hq).2
  have hap : ∀ q ∈ Cs, q ∉ Bs := fun q hq hm => h.apart q hm hq
  refine ⟨hd, h.rf.keep t.keep hap, fun q hq hm => ?_, (t.keep.block tb h.tlt h.tA).trans h.row, t.apart h.tA h.tlt, h.tC, h.tB, h.bel.trans ⟨t.keep.os, t.keep.tape, t.keep.output, t.keep.size, fun k hk => ?_⟩, h.nb, fun q hq => ?_⟩
  · rcases t.new q hq with h1 | h1
    · exact h.apart q h1 hm
    · have := hC q hm; omega
  · refine t.keep.block k (Nat.lt_of_lt_of_le hk ?_) fun hm => ?_
    · have := h.tB; have := h.tlt; omega
    · have := (h.det.blocks k hm).1; omega
  · obtain ⟨h1, h2, h3, h4⟩ := h.ex q hq
    exact ⟨t.apart h1 (lt_of_at h4), h2, h3, (t.keep.block _ (lt_of_at h4) h1).trans h4⟩
theorem TxW.turnC (h : TxW W w B tb hn hb Bs Cs Sa Sb guess now X) (hd : Rf w' B hb Cs' Sb' guess) (t : Turned Cs Cs' w w') : TxW W w' B tb hn hb Bs Cs' Sa Sb' guess now X := by
  have hC := fun q hq => (h.det.blocks q hq).2
  refine ⟨h.det.keep t.keep h.apart, hd, fun q hq hm => ?_, (t.keep.block tb h.tlt h.tC).trans h.row, h.tA, t.apart h.tC h.tlt, h.tB, h.bel.trans ⟨t.keep.os, t.keep.tape, t.keep.output, t.keep.size, fun k hk => ?_⟩, h.nb, fun q hq => ?_⟩
  · rcases t.new q hm with h1 | h1
    · exact h.apart q hq h1
    · have := hC q hq; omega
  · refine t.keep.block k (Nat.lt_of_lt_of_le hk ?_) fun hm => ?_
    · have := h.tB; have := h.tlt; omega
    · have := (h.rf.blocks k hm).1; omega
  · obtain ⟨h1, h2, h3, h4⟩ := h.ex q hq
    exact ⟨h1, t.apart h2 (lt_of_at h4), h3, (t.keep.block _ (lt_of_at h4) h2).trans h4⟩
theorem TxW.below (h : TxW W w B tb hn hb Bs Cs Sa Sb guess now X) (b : Below w.heap.size w w') : TxW W w' B tb hn hb Bs Cs Sa Sb guess now X :=
  ⟨h.det.below b, h.rf.below b, h.apart, (b.block tb h.tlt).trans h.row, h.tA, h.tC, h.tB, h.bel.trans (b.mono (by have := h.tB; have := h.tlt; omega)), h.nb, fun q hq => ⟨(h.ex q hq).1, (h.ex q hq).2.1, (h.ex q hq).2.2.1, (b.block _ (lt_of_at (h.ex q hq).2.2.2)).trans (h.ex q hq).2.2.2⟩⟩
theorem Tx.below (h : Tx W w B tb hn hb Sa Sb guess now X) (b : Below w.heap.size w w') : Tx W w' B tb hn hb Sa Sb guess now X := by
  obtain ⟨Bs, Cs, h⟩ := h
  exact ⟨Bs, Cs, h.below b⟩
theorem Tx.at_ (h : Tx W w B tb hn hb Sa Sb guess now X) : w.cell? ⟨tb, 0, none⟩ = some (.pointer (some ⟨hn, 0, none⟩)) ∧ w.cell? ⟨tb, 1, none⟩ = some (.pointer (some ⟨hb, 0, none⟩)) ∧ w.cell? ⟨tb, 2, none⟩ = some (.int .i64 (now : Int)) ∧ w.frozen? ⟨tb, 2, none⟩ = false ∧ tb < w.heap.size := by
  obtain ⟨Bs, Cs, h⟩ := h
  exact ⟨cell_of_row _ _ 0 _ _ (0, 0) h.row, cell_of_row _ _ 1 _ _ (0, 0) h.row, cell_of_row _ _ 2 _ _ (0, 0) h.row, frozen_of_row _ _ 2 _ _ h.row, h.tlt⟩
theorem Tx.setNow (h : Tx W w B tb hn hb Sa Sb guess now X) (n2 : Nat) (hn2 : n2 ≤ 2199023255552) : Tx W (w.setCell ⟨tb, 2, none⟩ (.int .i64 (n2 : Int))) B tb hn hb Sa Sb guess n2 X := by
  obtain ⟨Bs, Cs, h⟩ := h
  have k := Keep.setCell w ⟨tb, 2, none⟩ (.int .i64 (n2 : Int))
  exact ⟨Bs, Cs, h.det.keep k (fun q hq hm => h.tA (by simp at hm; exact hm ▸ hq)), h.rf.keep k (fun q hq hm => h.tC (by simp at hm; exact hm ▸ hq)), h.apart, heap_setCell_same w tb 2 _ _ _ h.row, h.tA, h.tC, h.tB,
    h.bel.trans (k.below (by have := h.tB; have := h.tlt; omega) (by simpa using h.tB)), hn2, fun q hq => ⟨(h.ex q hq).1, (h.ex q hq).2.1, (h.ex q hq).2.2.1, (k.block _ (lt_of_at (h.ex q hq).2.2.2) (by simpa using (h.ex q hq).2.2.1)).trans (h.ex q hq).2.2.2⟩⟩
theorem Tx.drop (h : Tx W w B tb hn hb Sa Sb guess now X) : Tx W w B tb hn hb Sa Sb guess now [] := by
  obtain ⟨Bs, Cs, h⟩ := h
  exact ⟨Bs, Cs, h.det, h.rf, h.apart, h.row, h.tA, h.tC, h.tB, h.bel, h.nb, by simp⟩
theorem Tx.more (h : Tx W w B tb hn hb Sa Sb guess now X) {bx : Nat} {r : Obj} (hb0 : w.heap.size ≤ bx) (b : Below w.heap.size w w') (hr : w'.heap[bx]? = some r) : Tx W w' B tb hn hb Sa Sb guess now ((bx, r) :: X) := by
  obtain ⟨Bs, Cs, h⟩ := h
  have h1 := h.below b
  refine ⟨Bs, Cs, h1.det, h1.rf, h1.apart, h1.row, h1.tA, h1.tC, h1.tB, h1.bel, h1.nb, fun q hq => ?_⟩
  rcases List.mem_cons.1 hq with rfl | hq
  · exact ⟨fun hm => by have := (h.det.blocks _ hm).2; simp only at this; omega, fun hm => by have := (h.rf.blocks _ hm).2; simp only at this; omega, by have := h.tlt; simp only; omega, hr⟩
  · exact h1.ex q hq
theorem Tx.ex_at {bx : Nat} {r : Obj} (h : Tx W w B tb hn hb Sa Sb guess now ((bx, r) :: X)) : w.heap[bx]? = some r := by
  obtain ⟨Bs, Cs, h⟩ := h
  exact (h.ex _ (List.mem_cons_self ..)).2.2.2
theorem keep_turned2 {U : List Nat} (k : Keep U w w') : Turned U U w w' := ⟨k, fun q hq => .inl hq⟩

/-- what Watch answers, and what it leaves -/
def wR (guess : Nat) (S : List Nd) (id now : Int) : Int × List Nd :=
  if (decide (0 ≤ id ∧ id ≤ 255) && isT now) = false then (1, S) else match look S id with | some _ => (0, S) | none => if 12 ≤ S.length then (91, S) else (0, ins (newN guess id now.toNat) S)
def lR (S : List Nd) (id : Int) : Int × List Nd := match look S id with | some _ => (0, wo S id) | none => (92, S)
def bR (S : List Nd) (id now : Int) : Int × List Nd := match look S id with | some n => if isT now then (0, putN (n.heard now.toNat) S) else (1, S) | none => (92, S)
theorem good_of {id now : Int} (h : ¬ (decide (0 ≤ id ∧ id ≤ 255) && isT now) = false) : (0 ≤ id ∧ id ≤ 255) ∧ ∃ t : Nat, now = t ∧ t ≤ 1099511627776 := by
  rw [Bool.not_eq_false, Bool.and_eq_true] at h
  exact ⟨by simpa using h.1, isT_some h.2⟩
theorem watchA (id now' : Int) (w : World) (h : Tx W w B tb hn hb Sa Sb guess now X) : Calls Try.prog 12 #[.pointer (some ⟨hn, 0, none⟩), .int .i64 id, .int .i64 now'] w fun e w' => e = .returned (.int .i64 (wR guess Sa id now').1) ∧ Tx W w' B tb hn hb (wR guess Sa id now').2 Sb guess now X := by
  obtain ⟨Bs, Cs, h⟩ := h
  unfold wR
  by_cases hg : (decide (0 ≤ id ∧ id ≤ 255) && isT now') = false
  · rw [if_pos hg]
    exact (watch_arg id now' w .nilIface hg).mono fun e w' ⟨h1, h2⟩ => ⟨h1, h2 ▸ ⟨Bs, Cs, h⟩⟩
  · rw [if_neg hg]
    obtain ⟨hid, t, rfl, ht⟩ := good_of hg
    rw [Int.toNat_natCast]
    cases hl : look Sa id with
    | some n => exact (watch_is id hid ht w h.det hl).mono fun e w' ⟨h1, b⟩ => ⟨h1, Bs, Cs, h.below b⟩
    | none =>
      by_cases hf : 12 ≤ Sa.length
      · simp only [if_pos hf]
        exact (watch_full id hid ht w h.det hl hf).mono fun e w' ⟨h1, b⟩ => ⟨h1, Bs, Cs, h.below b⟩
      · simp only [if_neg hf]
        exact (watch_yes id hid ht w h.det hl (by omega)).mono fun e w' ⟨Bs', h1, h2, h3⟩ => ⟨h1, Bs', Cs, h.turnA h2 h3⟩
theorem watchC (id now' : Int) (w : World) (h : Tx W w B tb hn hb Sa Sb guess now X) : Calls Try.prog 24 #[.pointer (some ⟨hb, 0, none⟩), .int .i64 id, .int .i64 now'] w fun e w' => e = .returned (.int .i64 (wR guess Sb id now').1) ∧ Tx W w' B tb hn hb Sa (wR guess Sb id now').2 guess now X := by
  obtain ⟨Bs, Cs, h⟩ := h
  unfold wR
  by_cases hg : (decide (0 ≤ id ∧ id ≤ 255) && isT now') = false
  · rw [if_pos hg]
    exact (rwatch_arg id now' w hg).mono fun e w' ⟨h1, h2⟩ => ⟨h1, h2 ▸ ⟨Bs, Cs, h⟩⟩
  · rw [if_neg hg]
    obtain ⟨hid, t, rfl, ht⟩ := good_of hg
    rw [Int.toNat_natCast]
    cases hl : look Sb id with
    | some n => exact (rwatch_is id hid ht w h.rf hl).mono fun e w' ⟨h1, h2⟩ => ⟨h1, h2 ▸ ⟨Bs, Cs, h⟩⟩
    | none =>
      by_cases hf : 12 ≤ Sb.length
      · simp only [if_pos hf]
        exact (rwatch_full id hid ht w h.rf hl hf).mono fun e w' ⟨h1, h2⟩ => ⟨h1, h2 ▸ ⟨Bs, Cs, h⟩⟩
      · simp only [if_neg hf]
        exact (rwatch_yes id hid ht w h.rf hl (by omega)).mono fun e w' ⟨Cs', h1, h2, h3⟩ => ⟨h1, Bs, Cs', h.turnC h2 h3⟩
theorem leaveA (id : Int) (hid : (Lit.int .i64 id).wf = true) (w : World) (h : Tx W w B tb hn hb Sa Sb guess now X) : Calls Try.prog 16 #[.pointer (some ⟨hn, 0, none⟩), .int .i64 id] w fun e w' => e = .returned (.int .i64 (lR Sa id).1) ∧ Tx W w' B tb hn hb (lR Sa id).2 Sb guess now X := by
  obtain ⟨Bs, Cs, h⟩ := h
  unfold lR
  cases hl : look Sa id with
  | none => exact (leave_no id hid w h.det hl).mono fun e w' ⟨h1, b⟩ => ⟨h1, Bs, Cs, h.below b⟩
  | some n => exact (leave_yes id hid w h.det hl).mono fun e w' ⟨h1, h2, h3⟩ => ⟨h1, Bs, Cs, h.turnA h2 h3⟩
theorem leaveC (id : Int) (w : World) (h : Tx W w B tb hn hb Sa Sb guess now X) : Calls Try.prog 25 #[.pointer (some ⟨hb, 0, none⟩), .int .i64 id] w fun e w' => e = .returned (.int .i64 (lR Sb id).1) ∧ Tx W w' B tb hn hb Sa (lR Sb id).2 guess now X := by
  obtain ⟨Bs, Cs, h⟩ := h
  unfold lR
  cases hl : look Sb id with
  | none => exact (rleave_no id w h.rf hl).mono fun e w' ⟨h1, h2⟩ => ⟨h1, h2 ▸ ⟨Bs, Cs, h⟩⟩
  | some n => exact (rleave_yes id w h.rf hl).mono fun e w' ⟨Cs', h1, h2, h3⟩ => ⟨h1, Bs, Cs', h.turnC h2 h3⟩
theorem beatA (id now' : Int) (hid : (Lit.int .i64 id).wf = true) (w : World) (h : Tx W w B tb hn hb Sa Sb guess now X) : Calls Try.prog 14 #[.pointer (some ⟨hn, 0, none⟩), .int .i64 id, .int .i64 now'] w fun e w' => e = .returned (.int .i64 (bR Sa id now').1) ∧ Tx W w' B tb hn hb (bR Sa id now').2 Sb guess now X := by
  obtain ⟨Bs, Cs, h⟩ := h
  unfold bR
  cases hl : look Sa id with
  | none => exact (beat_no id now' hid w h.det hl).mono fun e w' ⟨h1, b⟩ => ⟨h1, Bs, Cs, h.below b⟩
  | some n =>
    cases hT : isT now'
    · simp only [Bool.false_eq_true, if_false]
      exact (beat_arg id now' hid w h.det hl hT).mono fun e w' ⟨h1, b⟩ => ⟨h1, Bs, Cs, h.below b⟩
    · simp only [if_true]
      obtain ⟨t, rfl, ht⟩ := isT_some hT
      rw [Int.toNat_natCast]
      exact (beat_yes id hid ht w h.det hl).mono fun e w' ⟨h1, h2, h3⟩ => ⟨h1, Bs, Cs, h.turnA h2 h3⟩
theorem beatC (id now' : Int) (w : World) (h : Tx W w B tb hn hb Sa Sb guess now X) : Calls Try.prog 26 #[.pointer (some ⟨hb, 0, none⟩), .int .i64 id, .int .i64 now'] w fun e w' => e = .returned (.int .i64 (bR Sb id now').1) ∧ Tx W w' B tb hn hb Sa (bR Sb id now').2 guess now X := by
  obtain ⟨Bs, Cs, h⟩ := h
  unfold bR
  cases hl : look Sb id with
  | none => exact (rbeat_no id now' w h.rf hl).mono fun e w' ⟨h1, h2⟩ => ⟨h1, h2 ▸ ⟨Bs, Cs, h⟩⟩
  | some n =>
    cases hT : isT now'
    · simp only [Bool.false_eq_true, if_false]
      exact (rbeat_arg id now' hT w h.rf hl).mono fun e w' ⟨h1, h2⟩ => ⟨h1, h2 ▸ ⟨Bs, Cs, h⟩⟩
    · simp only [if_true]
      obtain ⟨t, rfl, ht⟩ := isT_some hT
      rw [Int.toNat_natCast]
      exact (rbeat_yes id ht w h.rf hl).mono fun e w' ⟨h1, h2, h3⟩ => ⟨h1, Bs, Cs, h.turnC h2 (keep_turned2 h3)⟩
/-- who is suspected at a number that may be no time -/
def sR (S : List Nd) (now : Int) : List Int := if isT now then bads S now.toNat else []
def cR (S : List Nd) (now : Int) : List (Int × Bool) := if isT now then chs S now.toNat else []
def jR (S : List Nd) (now : Int) : List Nd := if isT now then S.map (fun n => n.judged now.toNat) else S
theorem susA (now' : Int) (w : World) (h : Tx W w B tb hn hb Sa Sb guess now X) : Calls Try.prog 13 #[.pointer (some ⟨hn, 0, none⟩), .int .i64 now'] w fun e w' => ∃ v, e = .returned v ∧ w'.ownsRow w.heap.size 3 1 v (sR Sa now').length ((sR Sa now').map encZ) ∧ Below w.heap.size w w' := by
  obtain ⟨Bs, Cs, h⟩ := h
  unfold sR
  cases hT : isT now'
  · exact (suspects_no _ now' hT w).mono fun e w' ⟨h1, h2⟩ => ⟨_, h1, World.ownsRow_nil _ _ _ _, h2 ▸ Below.refl _ _⟩
  · simp only [if_true]
    obtain ⟨t, rfl, ht⟩ := isT_some hT
    rw [Int.toNat_natCast]
    exact suspects_yes ht w h.det
theorem susC (now' : Int) (w : World) (h : Tx W w B tb hn hb Sa Sb guess now X) : Calls Try.prog 28 #[.pointer (some ⟨hb, 0, none⟩), .int .i64 now'] w fun e w' => ∃ v, e = .returned v ∧ w'.ownsRow w.heap.size 3 1 v (sR Sb now').length ((sR Sb now').map encZ) ∧ Below w.heap.size w w' := by
  obtain ⟨Bs, Cs, h⟩ := h
  exact rsuspects_any now' w h.rf
theorem chA (now' : Int) (w : World) (h : TxW W w B tb hn hb Bs Cs Sa Sb guess now X) : Calls Try.prog 17 #[.pointer (some ⟨hn, 0, none⟩), .int .i64 now'] w fun e w' => ∃ v, e = .returned v ∧ w'.ownsRow w.heap.size 50 2 v (cR Sa now').length (fl chc (cR Sa now')) ∧ TxW W w' B tb hn hb Bs Cs (jR Sa now') Sb guess now X ∧ w.heap.size ≤ w'.heap.size := by
  unfold cR jR
  cases hT : isT now'
  · exact (changes_no _ now' hT w).mono fun e w' ⟨h1, h2⟩ => ⟨_, h1, World.ownsRow_nil _ _ _ _, h2 ▸ h, h2 ▸ Nat.le_refl _⟩
  · simp only [if_true]
    obtain ⟨t, rfl, ht⟩ := isT_some hT
    rw [Int.toNat_natCast]
    exact (changes_yes ht w h.det).mono fun e w' ⟨v, h1, h2, h3, h4⟩ => ⟨v, h1, h2, h.turnA h3 h4, h4.keep.size⟩
theorem chC (now' : Int) (w : World) (h : TxW W w B tb hn hb Bs Cs Sa Sb guess now X) : Calls Try.prog 30 #[.pointer (some ⟨hb, 0, none⟩), .int .i64 now'] w fun e w' => ∃ v, e = .returned v ∧ w'.ownsRow w.heap.size 50 2 v (cR Sb now').length (fl chc (cR Sb now')) ∧ TxW W w' B tb hn hb Bs Cs Sa (jR Sb now') guess now X ∧ Keep Cs w w' := by
  unfold cR jR
  cases hT : isT now'
  · exact (rchanges_no now' hT w h.rf).mono fun e w' ⟨h1, h2⟩ => ⟨_, h1, World.ownsRow_nil _ _ _ _, h2 ▸ h, h2 ▸ Keep.refl _ _⟩
  · simp only [if_true]
    obtain ⟨t, rfl, ht⟩ := isT_some hT
    rw [Int.toNat_natCast]
    exact (rchanges_yes ht w h.rf).mono fun e w' ⟨v, h1, h2, h3, h4⟩ => ⟨v, h1, h2, h.turnC h3 (keep_turned2 h4), h4⟩
theorem sR_len (h : Tx W w B tb hn hb Sa Sb guess now X) (now' : Int) : (sR Sa now').length ≤ 12 := by
  obtain ⟨Bs, Cs, h⟩ := h
  obtain ⟨_, _, hd⟩ := h.det
  have h0 := hd.few
  unfold sR
  split
  · exact Nat.le_trans (bads_len _ _) h0
  · simp
theorem cR_len (h : Tx W w B tb hn hb Sa Sb guess now X) (now' : Int) : (cR Sa now').length ≤ 12 := by
  obtain ⟨Bs, Cs, h⟩ := h
  obtain ⟨_, _, hd⟩ := h.det
  have h0 := hd.few
  unfold cR
  split
  · exact Nat.le_trans (chs_len _ _) h0
  · simp
end
end Go.Proofs.Ytlfnkplgjlpaaaa
