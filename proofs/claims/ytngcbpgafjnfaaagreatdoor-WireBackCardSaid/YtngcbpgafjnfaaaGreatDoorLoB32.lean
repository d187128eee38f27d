/- A part is all zeros just if it is encoded as zero is; so package wire's faults are the plain ones. A variable of type api.Msg: laid and stored. -/
import Derived.Test.YtngcbpgafjnfaaaGreatDoorLoB24
import Derived.Test.YtngcbpgafjnfaaaGreatDoorLoB31
import Derived.Deep.MidRow
set_option linter.unusedSimpArgs false
set_option linter.unusedVariables false

namespace Go.Proofs.YtngcbpgafjnfaaaGreatDoor
set_option linter.unusedVariables false

theorem zero_all {i : Nat} (h : i < 22) : (fenc i (Ms.zero 0)).all (· == 0) = true := by
  rcases fd_cases h with rfl | rfl | rfl | rfl | rfl | rfl | rfl | rfl | rfl | rfl | rfl | rfl | rfl | rfl | rfl | rfl | rfl | rfl | rfl | rfl | rfl | rfl <;> decide
theorem all_zero {l : List Nat} (h : l.all (· == 0) = true) : l = List.replicate l.length 0 := by
  induction l with
  | nil => rfl
  | cons x r ih =>
    simp only [List.all_cons, Bool.and_eq_true, beq_iff_eq] at h
    rw [List.length_cons, List.replicate_succ, h.1, ← ih h.2]
theorem Good.zeros {α : Type} {c : Cod α} (h : Good c) {a z : α} (ha : c.ok a = true) (hz : c.ok z = true) (h1 : (c.enc a).all (· == 0) = true) (h2 : (c.enc z).all (· == 0) = true) : a = z := by
  have e1 := all_zero h1
  have e2 := all_zero h2
  have d1 := h.to a (c.enc z) ha
  have d2 := h.to z (c.enc a) hz
  have e : c.enc a ++ c.enc z = c.enc z ++ c.enc a := by
    rw [e1, e2, List.replicate_append_replicate, List.replicate_append_replicate, Nat.add_comm]
  rw [e, d2] at d1
  injection d1 with d1
  injection d1 with d1
  exact d1.symm
theorem zok_iff {i : Nat} (h : i < 22) {m : Ms} (hf : fok i m = true) : zok i m = decide (fenc i m = fenc i (Ms.zero 0)) := by
  rw [Bool.eq_iff_iff, decide_eq_true_iff]
  constructor
  · intro hz
    have : (fd i).get m = (fd i).get (Ms.zero 0) := (fd i).good.zeros hf (fok_zero i 0) hz (zero_all h)
    unfold fenc
    rw [this]
  · intro he
    unfold zok
    rw [he]
    exact zero_all h
theorem badW_eq {k i : Nat} (h : i < 22) (m : Ms) : badW k m i = badField k m i := by
  unfold badW badField
  cases hf : fok i m with
  | false => rfl
  | true => rw [zok_iff h hf]; cases decide (i ∈ all_ k) <;> cases decide (fenc i m = fenc i (Ms.zero 0)) <;> rfl
theorem names_eq {i : Nat} (h : i < 22) : nameB i = (nameOf i).toUTF8 := by
  rcases fd_cases h with rfl | rfl | rfl | rfl | rfl | rfl | rfl | rfl | rfl | rfl | rfl | rfl | rfl | rfl | rfl | rfl | rfl | rfl | rfl | rfl | rfl | rfl <;> rfl
/-- an answer, its text as bytes -/
def asW {α : Type} (r : Except (Nat × String) α) : Except (Nat × ByteArray) α := match r with
  | .error (n, s) => .error (n, s.toUTF8)
  | .ok a => .ok a
theorem find_same {k : Nat} (m : Ms) : (List.range 22).find? (badW k m) = firstBad k m := by
  unfold firstBad
  have : ∀ l : List Nat, (∀ i ∈ l, i < 22) → l.find? (badW k m) = l.find? (badField k m) := by
    intro l
    induction l with
    | nil => intro _; rfl
    | cons x r ih =>
      intro hl
      rw [List.find?_cons, List.find?_cons, badW_eq (hl x (by simp)), ih fun i hi => hl i (by simp [hi])]
  exact this _ fun i hi => List.mem_range.1 hi
theorem encW_eq (m : Ms) : encW m = asW (encode m) := by
  unfold encW bodyW encode
  split
  · rename_i x hx
    split at hx
    · cases hx
      rename_i hk
      rw [if_pos hk]; rfl
    · rename_i hk
      rw [if_neg hk]
      rw [find_same] at hx
      cases hb : firstBad m.kind.toNat m with
      | none => rw [hb] at hx; cases hx
      | some i =>
        rw [hb] at hx
        cases hx
        have hi : i < 22 := List.mem_range.1 (List.mem_of_find?_eq_some hb)
        simp only [asW, names_eq hi]
  · rename_i b hx
    split at hx
    · cases hx
    · rename_i hk
      rw [if_neg hk]
      rw [find_same] at hx
      cases hb : firstBad m.kind.toNat m with
      | some i => rw [hb] at hx; cases hx
      | none =>
        rw [hb] at hx
        cases hx
        simp only
        split <;> rfl
theorem decW_eq (l : List Nat) : decW l = asW (decode l) := by
  unfold decW decode
  by_cases h : (unw l).2 = 0
  · rw [if_neg (by simp [h]), if_pos h]
    cases decBody (unw l).1 with
    | error x => rfl
    | ok m => rfl
  · rw [if_pos h, if_neg h]; rfl
end Go.Proofs.YtngcbpgafjnfaaaGreatDoor


namespace Go.Proofs.YtngcbpgafjnfaaaGreatDoor
open Go.RowKit Go.Sort
set_option linter.unusedVariables false

theorem wpList_alloc_msg {w : World} {ops : Array Oper} {rest : List Oper} {o : Oper} {a : Act} {Q : Exit → Act → World → Prop} (hgd : o.guard = none) (ho : o.op = .alloc 52)
    (h : ∀ w', w' = w.alloc (.cells (noughtCs 0 0 0) 52) → wpList Tryz.prog ops Q rest (a.put o.dst (.pointer (some ⟨w.heap.size, 0, none⟩))) w') : wpList Tryz.prog ops Q (o :: rest) a w := by
  refine wpList_plain hgd fun K hK => ?_
  have hrun : (execOp a.eval o).run Tryz.prog w = .ok (.value (.pointer (some ⟨w.heap.size, 0, none⟩))) (w.alloc (.cells (noughtCs 0 0 0) 52)) := by
    unfold execOp
    simp only [ho]
    kernel_rfl
  unfold Oper.wp
  simp only [hrun, Oper.upon]
  exact hK _ _ (h _ rfl)
theorem wpList_var {w : World} {ops : Array Oper} {rest : List Oper} {o1 o2 : Oper} {a : Act} {Q : Exit → Act → World → Prop} (hg1 : o1.guard = none) (ho1 : o1.op = .alloc 52) (hg2 : o2.guard = none) (p x : Operand) (ho2 : o2.op = .store 52 p x) (hd2 : o2.dst = none)
    (hp : (a.put o1.dst (.pointer (some ⟨w.heap.size, 0, none⟩))).eval p = .pointer (some ⟨w.heap.size, 0, none⟩)) (cs : Array Value) (hx : (a.put o1.dst (.pointer (some ⟨w.heap.size, 0, none⟩))).eval x = .agg cs) (hz : cs.size = 49) (hone : cs.all (·.oneCell') = true)
    (h : ∀ w', Below w.heap.size w w' → wpList Tryz.prog ops Q rest (a.put o1.dst (.pointer (some ⟨w.heap.size, 0, none⟩))) w') : wpList Tryz.prog ops Q (o1 :: o2 :: rest) a w := by
  refine wpList_alloc_msg hg1 ho1 fun w' hw => ?_
  subst hw
  have hrow := heap_alloc_new w (.cells (noughtCs 0 0 0) 52)
  refine wpList_store_row hg2 52 p x ho2 w.heap.size cs hp hx 52 (noughtCs 0 0 0) hrow (by rw [hz]; exact msg_size) (by rw [hz]; rfl) hone ?_
  rw [hd2]
  exact h _ ((below_alloc (Below.refl _ _) _).trans ((Keep.setRow _ w.heap.size cs).below (by simp) (by simp)))
end Go.Proofs.YtngcbpgafjnfaaaGreatDoor
