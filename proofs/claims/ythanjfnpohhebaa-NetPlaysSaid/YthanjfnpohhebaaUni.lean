/- A slice owns one row only; what was sent, behind an append. -/
import Derived.Test.YthanjfnpohhebaaKp2
import Derived.Laws.BytesArg
import Derived.Laws.BytesString
namespace Go.Proofs.Ythanjfnpohhebaa
open Go.RowKit Go.Sort
set_option linter.unusedVariables false
section
variable {w w' : World} {B cap : Nat} {E : List Nat} {ao : Option Addr} {L : List (Option (List Nat))}
theorem owns_uni {e : TypeId} {z n : Nat} {v : Value} {xs ys : List Value} (h1 : w.ownsRow B e z v n xs) (h2 : w.ownsRow B e z v n ys) : xs = ys := by
  have l1 := h1.1
  have l2 := h2.1
  rcases h1.2 with ⟨a1, a2⟩ | ⟨g, c, cur, a1, _, a3, _, _, _, a4⟩
  · subst a2
    simp at l1 l2
    rw [l1, l2]
  · rcases h2.2 with ⟨b1, b2⟩ | ⟨g', c', cur', b1, _, b3, _, _, _, b4⟩
    · subst b2
      simp at l1 l2
      rw [l1, l2]
    · rw [a1] at b1
      cases b1
      rw [a3] at b3
      cases b3
      rw [← a4, ← b4]
/-- behind an append of one, at the row that is there -/
theorem Snt.more1 {w2 : World} {ao2 : Option Addr} {cap2 : Nat} {v : Value} {o : Option (List Nat)} {F : List Nat} {vs : List Value} (h : Snt w B E ao cap L) (hs : B ≤ w.heap.size)
    (hv : SV w F [] v o) (hF : ∀ g ∈ F, B ≤ g ∧ g < w.heap.size ∧ g ∉ blk ao) (h1 : w.ownsRow B 39 1 (.slice ao L.length cap) L.length vs) (hown : w2.ownsRow B 39 1 (.slice ao2 (L.length + 1) cap2) (L.length + 1) (vs ++ [v]))
    (k : Keep (blk ao) w w2) (hb : ∀ g ∈ blk ao2, g ∈ blk ao ∨ w.heap.size ≤ g) : Snt w2 B (blk ao2 ++ (F ++ E)) ao2 cap2 (L ++ [o]) :=
  h.more hs hv hF (fun vs' h' => by rw [owns_uni h' h1]; exact hown) k hb
theorem SV.own {R : List Nat} {v : Value} {o : Option (List Nat)} (h : SV w E R v o) : ∃ vo vn vc, v = .slice vo vn vc ∧ SV w (blk vo) [] v o ∧ ∀ g ∈ blk vo, g ∈ E ∧ g ∉ R := by
  cases o with
  | none => exact ⟨none, 0, 0, h, h, by simp [blk]⟩
  | some l =>
    obtain ⟨a, c, e, h1, h2, h3, h4⟩ := h
    exact ⟨a, _, c, e, ⟨a, c, e, h1, h2, h3, fun g hg => ⟨hg, by simp, (h4 g hg).2.2⟩⟩, fun g hg => ⟨(h4 g hg).1, (h4 g hg).2.1⟩⟩
end
def ofBs (l : List Nat) : ByteArray := ⟨(l.map UInt8.ofNat).toArray⟩
theorem exec_convert {P : Program} {o : Oper} {a : Act} {w : World} {v vx : Value} (s d : TypeId) (x : Operand) (ho : o.op = .convert s d x) (hx : a.eval x = vx) (h : (convert s d vx).run P w = .ok v w) : (execOp a.eval o).run P w = .ok (.value v) w := by
  unfold execOp
  simp only [ho, hx, Sem.run_bind, h, Result.andThen_ok, Sem.run_pure]
theorem strOf_ofBs (l : List Nat) : strOfNums (l.map fun c : Nat => (c : Int)) = ofBs l := by
  apply ByteArray.ext
  apply Array.toList_inj.1
  rw [strOfNums_data]
  simp [ofBs, List.map_map, Function.comp_def]
/-- the bytes as a text -/
theorem run_str {w : World} {ao : Option Addr} {l : List Nat} (h : Rd w ao l) (n cap : Nat) (hn : l.length = n) : (convert 39 9 (.slice ao n cap)).run Try.prog w = .ok (.string (ofBs l)) w := by
  cases ao with
  | none =>
    have : l = [] := by
      cases l with
      | nil => rfl
      | cons b l => obtain ⟨g, o, e, _⟩ := h.at_ 0 (by simp); cases e
    subst this
    exact run_convert_bytes_nil w 39 (Try.prog.elem 39) byte_elem (by kernel_rfl) n cap 9 (by kernel_rfl)
  | some a =>
    have hl : (loadCells a n).run Try.prog w = .ok ((l.map fun c : Nat => (c : Int)).map (Value.int .u8)).toArray w := by
      have := run_loadCells_list (P := Try.prog) w a ((l.map fun c : Nat => (c : Int)).map (Value.int .u8)) (fun j v hj => by
        have hjl : j < l.length := by simpa using (List.getElem?_eq_some_iff.1 hj).1
        obtain ⟨g, o, e, _, h3⟩ := h.at_ j hjl
        injection e with e
        subst e
        rw [Addr.add_lit, h3]
        simp only [List.getElem?_map, bt_get hjl, Option.map_some, Option.some.injEq] at hj
        rw [← hj])
      simpa [hn] using this
    rw [run_convert_bytes_string w 39 9 (Try.prog.elem 39) (some a) n cap byte_elem (by kernel_rfl) (by kernel_rfl), run_bytesToString w _ n cap _ hl, foldl_push_bytes]
    rw [← strOf_ofBs]
    simp [strOfNums, ByteArray.empty, ByteArray.emptyWithCapacity]
    rfl

/-- the rest of a slice from its second byte on -/
theorem run_tail (w : World) (ao : Option Addr) (n cap : Nat) : (Instr.sliceAt 39 (.slice ao (n + 1) cap) (some (.int .i64 1)) none none).run Try.prog w = .ok (.slice (sh ao cap 1) n (cap - 1)) w := by
  have := run_cut2 w ao (n + 1) cap 1 (by omega)
  rwa [show ((1 : Nat) : Int) = 1 from rfl, Nat.add_sub_cancel] at this
end Go.Proofs.Ythanjfnpohhebaa
