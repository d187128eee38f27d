/- What a node alone tells of itself: Succs, known, answer. -/
import Derived.Test.YthdhpgpdbdjaeaaAw
import Derived.Deep.RegionHeld3
import Derived.Laws.Tables
import Derived.Laws.Rows
namespace Go.Proofs.Ythdhpgpdbdjaeaa
set_option linter.unusedSimpArgs false
open Go.RowKit Go.Sort
set_option linter.unusedVariables false
set_option maxRecDepth 100000

/-- a message of a kind, of whom, to whom, with peers -/
def msgL (k f t : Int) (pv : Value) : List Value := [.int .i64 k, .int .i64 f, .int .i64 t, .int .u64 0, .int .i64 0, .int .i64 0, .int .u32 0, .int .u32 0, .int .u8 0, .bool false, .int .u32 0, .int .u8 0, .string ⟨#[]⟩, .string ⟨#[]⟩, .int .u64 0, .int .i64 0, .int .i64 0, .int .i64 0, .int .i64 0, .slice none 0 0, .int .u64 0, .int .u32 0, .int .u32 0, .int .i64 0, .int .i64 0, .int .i64 0, .int .u32 0, .int .i64 0, .int .u32 0, .int .u32 0, .int .u32 0, .slice none 0 0, .int .i64 0, .int .u32 0, .int .u32 0, .slice none 0 0, .slice none 0 0, .int .u32 0, .int .u32 0, .int .u32 0, .int .u32 0, .slice none 0 0, .int .i64 0, .int .i64 0, .slice none 0 0, .int .u64 0, .int .u64 0, .int .i64 0, pv]
def msgC (k f t : Int) (pv : Value) : Array Value := ⟨msgL k f t pv⟩
theorem msg_size : (Try.prog.info? 70).map (·.size) = some 49 := by kernel_rfl
theorem msgC_size (k f t : Int) (pv : Value) : (msgC k f t pv).size = 49 := rfl
theorem msgC_one (k f t : Int) (n m : Nat) (ao : Option Addr) : (msgC k f t (.slice ao n m)).all (·.oneCell') = true := by kernel_rfl
theorem peer_info : (Try.prog.info? 76).map (fun i => (i.zero, i.size, i.bytes)) = some (some (.agg #[.int .i64 0, .int .u64 0, .int .u64 0]), 3, 24) := by kernel_rfl
abbrev pc (n h l : Int) : List Value := [.int .i64 n, .int .u64 h, .int .u64 l]

theorem wpList_alloc_msg {w : World} {ops : Array Oper} {rest : List Oper} {o : Oper} {a : Act} {Q : Exit → Act → World → Prop} (hgd : o.guard = none) (ho : o.op = .alloc 70)
    (h : ∀ w', w' = w.alloc (.cells (msgC 0 0 0 (.slice none 0 0)) 70) → wpList Try.prog ops Q rest (a.put o.dst (.pointer (some ⟨w.heap.size, 0, none⟩))) w') : wpList Try.prog ops Q (o :: rest) a w := by
  refine wpList_plain hgd fun K hK => ?_
  have hrun : (execOp a.eval o).run Try.prog w = .ok (.value (.pointer (some ⟨w.heap.size, 0, none⟩))) (w.alloc (.cells (msgC 0 0 0 (.slice none 0 0)) 70)) := by
    unfold execOp
    simp only [ho]
    kernel_rfl
  unfold Oper.wp
  simp only [hrun, Oper.upon]
  exact hK _ _ (h _ rfl)
section
variable {w : World} {o : Oper} {a : Act} {K : Act → World → Prop} {Q : Exit → Act → World → Prop}
theorem wp_alloc_msg (ho : o.op = .alloc 70) (h : ∀ w', w' = w.alloc (.cells (msgC 0 0 0 (.slice none 0 0)) 70) → K (a.put o.dst (.pointer (some ⟨w.heap.size, 0, none⟩))) w') : o.wp Try.prog a w K Q := by
  have hrun : (execOp a.eval o).run Try.prog w = .ok (.value (.pointer (some ⟨w.heap.size, 0, none⟩))) (w.alloc (.cells (msgC 0 0 0 (.slice none 0 0)) 70)) := by
    unfold execOp
    simp only [ho]
    kernel_rfl
  unfold Oper.wp
  simp only [hrun, Oper.upon]
  exact h _ rfl
end

set_option maxHeartbeats 1000000 in
theorem succs_alone {g : Nat} {n h l n' h' l' : Int} {j : Bool} {a : Int} (w : World) (hr : w.heap[g]? = some (.cells (rowR n h l n' h' l' (.slice none 0 0) j a) 88 (0, 0))) :
    Calls Try.prog 22 #[.pointer (some ⟨g, 0, none⟩)] w fun e w' => e = .returned (.slice (some ⟨w.heap.size, 0, none⟩) 1 1) ∧ w' = w.alloc (.cells #[.int .i64 n, .int .u64 h, .int .u64 l] 76) := by
  have c0 := cell_of_row w g 0 _ _ (0, 0) hr
  have c1 := cell_of_row w g 1 _ _ (0, 0) hr
  have c2 := cell_of_row w g 2 _ _ (0, 0) hr
  have c6 := cell_of_row w g 6 _ _ (0, 0) hr
  simp only [List.getElem?_toArray, List.getElem?_cons_zero, List.getElem?_cons_succ] at c0 c1 c2 c6
  clear hr
  go_enter Try.func22, Try.ntmps22
  go_wp2_with fail
  go_ret
  exact ⟨rfl, rfl⟩

/-- w' has what w had, and the block of a fresh message whose peers are three -/
structure Known (w : World) (k f t : Int) (e : Ending) (w' : World) : Prop where
  ret : ∃ ao cap, e = .returned (.agg (msgC k f t (.slice ao 3 cap)))
  below : Below w.heap.size w w'
set_option maxHeartbeats 8000000 in
theorem known_alone {g : Nat} {n h l n' h' l' : Int} {j : Bool} {a : Int} (k t : Int) (w : World) (hr : w.heap[g]? = some (.cells (rowR n h l n' h' l' (.slice none 0 0) j a) 88 (0, 0))) :
    Calls Try.prog 33 #[.pointer (some ⟨g, 0, none⟩), .int .i64 k, .int .i64 t] w (Known w k n t) := by
  obtain ⟨i0, hi0, hz0, hz1, hz2⟩ := info_parts peer_info
  have HI := Lib.hid hi0; have HZ0 := Lib.hid hz0; have HZ1 := Lib.hid hz1; have HZ2 := Lib.hid hz2
  clear hi0 hz0 hz1 hz2
  have hg := (Array.getElem?_eq_some_iff.1 hr).1
  have CELL : Hid (∀ w' (i : Nat), Below w.heap.size w w' → w'.cell? ⟨g, i, none⟩ = w.cell? ⟨g, i, none⟩) := Lib.hid (fun w' i b => b.cell (p := ⟨g, i, none⟩) hg)
  have c0 := cell_of_row w g 0 _ _ (0, 0) hr
  have c1 := cell_of_row w g 1 _ _ (0, 0) hr
  have c2 := cell_of_row w g 2 _ _ (0, 0) hr
  have c3 := cell_of_row w g 3 _ _ (0, 0) hr
  have c4 := cell_of_row w g 4 _ _ (0, 0) hr
  have c5 := cell_of_row w g 5 _ _ (0, 0) hr
  simp only [List.getElem?_toArray, List.getElem?_cons_zero, List.getElem?_cons_succ] at c0 c1 c2 c3 c4 c5
  have C0 := Lib.hid c0; have C1 := Lib.hid c1; have C2 := Lib.hid c2; have C3 := Lib.hid c3; have C4 := Lib.hid c4; have C5 := Lib.hid c5
  have HR := Lib.hid hr
  have HG := Lib.hid hg
  clear hr c0 c1 c2 c3 c4 c5 hg
  go_enter Try.func33, Try.ntmps33
  go_wp2_with (refine wpList_alloc_msg rfl rfl (fun w1 hw1 => ?_))
  have HW1 : Hid (Below w.heap.size w w1) := Lib.hid (by rw [hw1]; exact below_alloc (Below.refl _ _) _)
  have HM1 : Hid (w1.heap[w.heap.size]? = some (.cells (msgC 0 0 0 (.slice none 0 0)) 70 (0, 0))) := Lib.hid (by rw [hw1]; exact heap_alloc_new _ _)
  have HS1 : Hid (w1.heap.size = w.heap.size + 1) := Lib.hid (by rw [hw1]; simp)
  clear hw1
  have LOADS : Hid (∀ w', Below w.heap.size w w' → w'.cell? ⟨g, 0, none⟩ = some (.int .i64 n) ∧ w'.cell? ⟨g, 1, none⟩ = some (.int .u64 h) ∧ w'.cell? ⟨g, 2, none⟩ = some (.int .u64 l) ∧ w'.cell? ⟨g, 3, none⟩ = some (.int .i64 n') ∧ w'.cell? ⟨g, 4, none⟩ = some (.int .u64 h') ∧ w'.cell? ⟨g, 5, none⟩ = some (.int .u64 l')) := Lib.hid (fun w' b => ⟨(CELL.out w' 0 b).trans C0.out, (CELL.out w' 1 b).trans C1.out, (CELL.out w' 2 b).trans C2.out, (CELL.out w' 3 b).trans C3.out, (CELL.out w' 4 b).trans C4.out, (CELL.out w' 5 b).trans C5.out⟩)
  refine wp_region_held_drew (S := fun w' => Below w.heap.size w w') (by kernel_rfl) (HW1.out.drew) (fun s0 => ?_)
  have B1 : Hid (Below w1.heap.size w1 w1.drew) := Lib.hid (Below.refl _ _).drew
  generalize w1.drew = w2 at *
  refine wpAnyH_take (i := 0) (v := .int .i64 k) rfl (by kernel_rfl) (by kernel_rfl) (by kernel_rfl) (fun _ _ _ h => h) (Or.inl ⟨by rfl, fun w' hw' => by go_simp⟩) s0 ?_
  try simp only [Act.put, List.getElem_toArray, List.getElem_cons_succ, List.getElem_cons_zero, List.setIfInBounds_toArray, List.set_cons_zero, List.set_cons_succ, Nat.zero_add, List.nil_append]
  refine wpAnyH_take (i := 1) (v := .pointer (some ⟨g, 0, none⟩)) rfl (by kernel_rfl) (by kernel_rfl) (by kernel_rfl) (fun _ _ _ h => h) (Or.inl ⟨by rfl, fun w' hw' => by go_simp⟩) s0 ?_
  try simp only [Act.put, List.getElem_toArray, List.getElem_cons_succ, List.getElem_cons_zero, List.setIfInBounds_toArray, List.set_cons_zero, List.set_cons_succ, Nat.zero_add, List.nil_append]
  refine wpAnyH_take (i := 2) (v := .pointer (some ⟨g, 0, none⟩)) rfl (by kernel_rfl) (by kernel_rfl) (by kernel_rfl) (fun _ _ _ h => h) (Or.inl ⟨by rfl, fun w' hw' => by go_simp⟩) s0 ?_
  try simp only [Act.put, List.getElem_toArray, List.getElem_cons_succ, List.getElem_cons_zero, List.setIfInBounds_toArray, List.set_cons_zero, List.set_cons_succ, Nat.zero_add, List.nil_append]
  refine wpAnyH_take (i := 3) (v := .pointer (some ⟨g, 0, none⟩)) rfl (by kernel_rfl) (by kernel_rfl) (by kernel_rfl) (fun _ _ _ h => h) (Or.inl ⟨by rfl, fun w' hw' => by go_simp⟩) s0 ?_
  try simp only [Act.put, List.getElem_toArray, List.getElem_cons_succ, List.getElem_cons_zero, List.setIfInBounds_toArray, List.set_cons_zero, List.set_cons_succ, Nat.zero_add, List.nil_append]
  refine wpAnyH_take (i := 4) (v := .pointer (some ⟨g, 0, none⟩)) rfl (by kernel_rfl) (by kernel_rfl) (by kernel_rfl) (fun _ _ _ h => h) (Or.inl ⟨by rfl, fun w' hw' => by go_simp⟩) s0 ?_
  try simp only [Act.put, List.getElem_toArray, List.getElem_cons_succ, List.getElem_cons_zero, List.setIfInBounds_toArray, List.set_cons_zero, List.set_cons_succ, Nat.zero_add, List.nil_append]
  refine wpAnyH_take (i := 5) (v := .int .i64 n) rfl (by kernel_rfl) (by kernel_rfl) (by kernel_rfl) (fun _ _ _ h => h) (Or.inl ⟨by rfl, fun w' hw' => by obtain ⟨d0, d1, d2, d3, d4, d5⟩ := LOADS.out w' hw'; go_simp⟩) s0 ?_
  try simp only [Act.put, List.getElem_toArray, List.getElem_cons_succ, List.getElem_cons_zero, List.setIfInBounds_toArray, List.set_cons_zero, List.set_cons_succ, Nat.zero_add, List.nil_append]
  refine wpAnyH_take (i := 6) (v := .int .i64 t) rfl (by kernel_rfl) (by kernel_rfl) (by kernel_rfl) (fun _ _ _ h => h) (Or.inl ⟨by rfl, fun w' hw' => by go_simp⟩) s0 ?_
  try simp only [Act.put, List.getElem_toArray, List.getElem_cons_succ, List.getElem_cons_zero, List.setIfInBounds_toArray, List.set_cons_zero, List.set_cons_succ, Nat.zero_add, List.nil_append]
  refine wpAnyH_take (i := 7) (v := .pointer (some ⟨g, 0, none⟩)) rfl (by kernel_rfl) (by kernel_rfl) (by kernel_rfl) (fun _ _ _ h => h) (Or.inl ⟨by rfl, fun w' hw' => by go_simp⟩) s0 ?_
  try simp only [Act.put, List.getElem_toArray, List.getElem_cons_succ, List.getElem_cons_zero, List.setIfInBounds_toArray, List.set_cons_zero, List.set_cons_succ, Nat.zero_add, List.nil_append]
  refine wpAnyH_take (i := 8) (v := .pointer (some ⟨g, 0, none⟩)) rfl (by kernel_rfl) (by kernel_rfl) (by kernel_rfl) (fun _ _ _ h => h) (Or.inl ⟨by rfl, fun w' hw' => by go_simp⟩) s0 ?_
  try simp only [Act.put, List.getElem_toArray, List.getElem_cons_succ, List.getElem_cons_zero, List.setIfInBounds_toArray, List.set_cons_zero, List.set_cons_succ, Nat.zero_add, List.nil_append]
  refine wpAnyH_take (i := 9) (v := .pointer (some ⟨g, 0, none⟩)) rfl (by kernel_rfl) (by kernel_rfl) (by kernel_rfl) (fun _ _ _ h => h) (Or.inl ⟨by rfl, fun w' hw' => by go_simp⟩) s0 ?_
  try simp only [Act.put, List.getElem_toArray, List.getElem_cons_succ, List.getElem_cons_zero, List.setIfInBounds_toArray, List.set_cons_zero, List.set_cons_succ, Nat.zero_add, List.nil_append]
  refine wpAnyH_take (i := 10) (v := peer n h l) rfl (by kernel_rfl) (by kernel_rfl) (by kernel_rfl) (fun _ _ _ h => h) (Or.inl ⟨by rfl, fun w' hw' => by obtain ⟨d0, d1, d2, d3, d4, d5⟩ := LOADS.out w' hw'; go_simp⟩) s0 ?_
  try simp only [Act.put, List.getElem_toArray, List.getElem_cons_succ, List.getElem_cons_zero, List.setIfInBounds_toArray, List.set_cons_zero, List.set_cons_succ, Nat.zero_add, List.nil_append]
  refine wpAnyH_take (i := 11) (v := .pointer (some ⟨g, 0, none⟩)) rfl (by kernel_rfl) (by kernel_rfl) (by kernel_rfl) (fun _ _ _ h => h) (Or.inl ⟨by rfl, fun w' hw' => by go_simp⟩) s0 ?_
  try simp only [Act.put, List.getElem_toArray, List.getElem_cons_succ, List.getElem_cons_zero, List.setIfInBounds_toArray, List.set_cons_zero, List.set_cons_succ, Nat.zero_add, List.nil_append]
  refine wpAnyH_take (i := 12) (v := .pointer (some ⟨g, 0, none⟩)) rfl (by kernel_rfl) (by kernel_rfl) (by kernel_rfl) (fun _ _ _ h => h) (Or.inl ⟨by rfl, fun w' hw' => by go_simp⟩) s0 ?_
  try simp only [Act.put, List.getElem_toArray, List.getElem_cons_succ, List.getElem_cons_zero, List.setIfInBounds_toArray, List.set_cons_zero, List.set_cons_succ, Nat.zero_add, List.nil_append]
  refine wpAnyH_take (i := 13) (v := .pointer (some ⟨g, 3, none⟩)) rfl (by kernel_rfl) (by kernel_rfl) (by kernel_rfl) (fun _ _ _ h => h) (Or.inl ⟨by rfl, fun w' hw' => by go_simp⟩) s0 ?_
  try simp only [Act.put, List.getElem_toArray, List.getElem_cons_succ, List.getElem_cons_zero, List.setIfInBounds_toArray, List.set_cons_zero, List.set_cons_succ, Nat.zero_add, List.nil_append]
  refine wpAnyH_take (i := 14) (v := peer n' h' l') rfl (by kernel_rfl) (by kernel_rfl) (by kernel_rfl) (fun _ _ _ h => h) (Or.inl ⟨by rfl, fun w' hw' => by obtain ⟨d0, d1, d2, d3, d4, d5⟩ := LOADS.out w' hw'; go_simp⟩) s0 ?_
  try simp only [Act.put, List.getElem_toArray, List.getElem_cons_succ, List.getElem_cons_zero, List.setIfInBounds_toArray, List.set_cons_zero, List.set_cons_succ, Nat.zero_add, List.nil_append]
  refine wpAnyH_take (i := 16) (v := .pointer (some ⟨g, 0, none⟩)) rfl (by kernel_rfl) (by kernel_rfl) (by kernel_rfl) (fun _ _ _ h => h) (Or.inl ⟨by rfl, fun w' hw' => by go_simp⟩) s0 ?_
  try simp only [Act.put, List.getElem_toArray, List.getElem_cons_succ, List.getElem_cons_zero, List.setIfInBounds_toArray, List.set_cons_zero, List.set_cons_succ, Nat.zero_add, List.nil_append]
  refine wpAnyH_ready (rs := [15, 17]) (by kernel_rfl) (by simp) ?_
  refine AllReadyH.cons rfl (fun K hK => ?_) (AllReadyH.cons rfl (fun K hK => ?_) AllReadyH.nil)
  · rw [if_pos (by rfl)]
    go_simp
    have b1 : Below w2.heap.size w2 (w2.alloc (.cells #[.int .i64 n, .int .u64 h, .int .u64 l, .int .i64 n', .int .u64 h', .int .u64 l'] 76)) := below_alloc (Below.refl _ _) _
    have r1 := heap_alloc_new w2 (.cells #[.int .i64 n, .int .u64 h, .int .u64 l, .int .i64 n', .int .u64 h', .int .u64 l'] 76)
    have z1 : (w2.alloc (.cells #[.int .i64 n, .int .u64 h, .int .u64 l, .int .i64 n', .int .u64 h', .int .u64 l'] 76)).heap.size = w2.heap.size + 1 := by simp
    generalize w2.alloc (.cells #[.int .i64 n, .int .u64 h, .int .u64 l, .int .i64 n', .int .u64 h', .int .u64 l'] 76) = v1 at *
    have s1 := below_next s0 b1
    have SZ2 : Hid (w.heap.size + 1 ≤ w2.heap.size) := Lib.hid (by have := B1.out.size; have := HS1.out; omega)
    have R1 := Lib.hid r1; have Z1 := Lib.hid z1
    have HM2 : Hid (v1.heap[w.heap.size]? = _) := Lib.hid ((b1.block _ (by have := SZ2.out; omega)).trans ((B1.out.block _ (by have := HS1.out; omega)).trans HM1.out))
    have BD0 := Lib.hid (show w.heap.size < w2.heap.size by have := SZ2.out; omega)
    obtain ⟨bd, hbd⟩ : ∃ q, w2.heap.size = q := ⟨_, rfl⟩
    rw [hbd] at R1 Z1 BD0 ⊢
    clear hbd r1 z1 b1
    refine hK.out _ _ s1 (fun _ => ?_)
    clear hK K
    try simp only [Act.put, List.getElem_toArray, List.getElem_cons_succ, List.getElem_cons_zero, List.setIfInBounds_toArray, List.set_cons_zero, List.set_cons_succ, Nat.zero_add, List.nil_append]
    refine wpAnyH_ready (rs := [17]) (by kernel_rfl) (by simp) ?_
    refine AllReadyH.cons rfl (fun K hK => ?_) AllReadyH.nil
    go_simp
    refine (succs_alone v1 (row_keep HR.out (Keep.of_below s1 []) (by simp))).mono ?_
    rintro e v2 ⟨rfl, hv2⟩
    have b2 : Below v1.heap.size v1 v2 := by rw [hv2]; exact below_alloc (Below.refl _ _) _
    have r2 : v2.heap[v1.heap.size]? = some (.cells #[.int .i64 n, .int .u64 h, .int .u64 l] 76 (0, 0)) := by rw [hv2]; exact heap_alloc_new _ _
    clear hv2
    have s2 := below_next s1 b2
    have hbs : v1.heap.size ≤ v1.heap.size := Nat.le_refl _
    obtain ⟨bs, hbs⟩ : ∃ q, v1.heap.size = q := ⟨_, rfl⟩
    have r3 : v2.heap[bd]? = _ := (b2.block _ (by have := Z1.out; omega)).trans R1.out
    rw [hbs] at r2 ⊢
    obtain ⟨v3, rfl⟩ : ∃ q, q = v2 := ⟨_, rfl⟩
    have OWN : Hid (v3.ownsRow w.heap.size 76 3 (.slice (some ⟨bd, 0, none⟩) 2 2) 2 (pc n h l ++ pc n' h' l')) := Lib.hid ⟨rfl, .inr ⟨bd, 2, _, rfl, Nat.le_of_lt BD0.out, r3, by decide, by decide, rfl, rfl⟩⟩
    have NEWS : Hid (∀ (jj : Nat) (u : Value), (pc n h l)[jj]? = some u → v3.cell? ((⟨bs, 0, none⟩ : Addr).add jj) = some u) := Lib.hid (fun jj u hu => by
      have hadd : (⟨bs, 0, none⟩ : Addr).add jj = ⟨bs, jj, none⟩ := by unfold Addr.add; split <;> simp_all
      rw [hadd, cell_of_row v3 bs jj _ _ (0, 0) r2]; simpa using hu)
    have S3 := Lib.hid s2
    have SZ3 : Hid (w.heap.size + 1 ≤ v3.heap.size) := Lib.hid (by have := b2.size; have := Z1.out; have := SZ2.out; have := BD0.out; omega)
    have BD : Hid (w.heap.size + 1 ≤ bd) := Lib.hid BD0.out
    have HM3 : Hid (v3.heap[w.heap.size]? = some (.cells (msgC 0 0 0 (.slice none 0 0)) 70 (0, 0))) := Lib.hid ((b2.block _ (by have := Z1.out; have := BD0.out; omega)).trans HM2.out)
    refine hK.out _ _ s2 (fun _ => ?_)
    clear hK K r2 r3 b2
    try simp only [Act.put, List.getElem_toArray, List.getElem_cons_succ, List.getElem_cons_zero, List.setIfInBounds_toArray, List.set_cons_zero, List.set_cons_succ, Nat.zero_add, List.nil_append]
    have hz6 : (.agg #[.int .i64 0, .int .u64 0, .int .u64 0] : Value).cells.size = 3 := rfl
    refine wpAnyH_ready (rs := [18]) (by kernel_rfl) (by simp) ?_
    refine AllReadyH.cons rfl (fun K hK => ?_) AllReadyH.nil
    rw [if_pos (by rfl)]
    refine wp_append_lies _ (.tmp 22) (.tmp 24) 31 rfl w.heap.size 76 i0 _ 3 24 rfl HI.out HZ0.out HZ1.out HZ2.out hz6 (by decide) (.slice (some ⟨bd, 0, none⟩) 2 2) 2 (pc n h l ++ pc n' h' l') rfl OWN.out
      ⟨bs, 0, none⟩ 1 1 (pc n h l) rfl rfl (fun jj u hu => NEWS.out jj u hu) (by intro u hu; simp at hu; rcases hu with rfl | rfl | rfl <;> rfl) (by decide) (by decide) (by decide) S3.out.size _ rfl ?_
    intro ga ca v4 own4 gr4 at4 lt4
    have b4 : Below (w.heap.size + 1) v3 v4 := ⟨gr4.os, gr4.tape, gr4.output, gr4.size, fun kk hk => gr4.block kk (by have := SZ3.out; omega) (by have := BD.out; simp [Value.ownBlock]; omega)⟩
    have s4 : Below w.heap.size w v4 := S3.out.trans (b4.mono (by omega))
    have HM4 : Hid (v4.heap[w.heap.size]? = some (.cells (msgC 0 0 0 (.slice none 0 0)) 70 (0, 0))) := Lib.hid ((b4.block _ (by omega)).trans HM3.out)
    have S4 := Lib.hid s4
    clear own4 gr4 at4 lt4 b4
    refine hK.out _ _ s4 (fun _ => ?_)
    clear hK K
    try simp only [Act.put, List.getElem_toArray, List.getElem_cons_succ, List.getElem_cons_zero, List.setIfInBounds_toArray, List.set_cons_zero, List.set_cons_succ, Nat.zero_add, List.nil_append]
    refine wpAnyH_take (i := 19) (v := .agg (msgC k n t (.slice (some ⟨ga, 0, none⟩) 3 ca))) rfl (by kernel_rfl) (by kernel_rfl) (by kernel_rfl) (fun _ _ _ h => h) (Or.inl ⟨by rfl, fun w' hw' => by unfold msgC msgL; go_simp⟩) s4 ?_
    try simp only [Act.put, List.getElem_toArray, List.getElem_cons_succ, List.getElem_cons_zero, List.setIfInBounds_toArray, List.set_cons_zero, List.set_cons_succ, Nat.zero_add, List.nil_append]
    refine wpAnyH_ready (rs := [20]) (by kernel_rfl) (by simp) ?_
    refine AllReadyH.cons rfl (fun K hK => ?_) AllReadyH.nil
    rw [if_pos (by rfl)]
    refine wp_store_row 70 (.tmp 6) (.tmp 26) rfl w.heap.size (msgC k n t (.slice (some ⟨ga, 0, none⟩) 3 ca)) rfl rfl 70 (msgC 0 0 0 (.slice none 0 0)) HM4.out (by rw [msgC_size]; exact msg_size) rfl (msgC_one _ _ _ _ _ _) ?_
    have s5 : Below w.heap.size w (v4.setRow w.heap.size (msgC k n t (.slice (some ⟨ga, 0, none⟩) 3 ca))) := S4.out.trans ((Keep.setRow v4 w.heap.size _).below S4.out.size (by simp))
    refine hK.out _ _ s5 (fun _ => ?_)
    clear hK K
    try simp only [Act.put, List.getElem_toArray, List.getElem_cons_succ, List.getElem_cons_zero, List.setIfInBounds_toArray, List.set_cons_zero, List.set_cons_succ, Nat.zero_add, List.nil_append]
    refine wpAnyH_done (by kernel_rfl) ?_ _
    have HM5 : (v4.setRow w.heap.size (msgC k n t (.slice (some ⟨ga, 0, none⟩) 3 ca))).heap[w.heap.size]? = some (.cells (msgC k n t (.slice (some ⟨ga, 0, none⟩) 3 ca)) 70 (0, 0)) := setRow_heap _ _ _ _ _ _ HM4.out
    generalize v4.setRow w.heap.size (msgC k n t (.slice (some ⟨ga, 0, none⟩) 3 ca)) = v5 at *
    go_wp2_with fail
    exact bodyPost_ret (results_cell_row Try.results33 _ _ w.heap.size 70 (msgC k n t (.slice (some ⟨ga, 0, none⟩) 3 ca)) (0, 0) _ rfl HM5 Try.underlying70 rfl (by rw [msgC_size]; exact msg_size)) rfl ⟨⟨_, _, rfl⟩, s5⟩
  · go_simp
    refine (succs_alone w2 (row_keep HR.out (Keep.of_below s0 []) (by simp))).mono ?_
    rintro e v1 ⟨rfl, hv1⟩
    have b1 : Below w2.heap.size w2 v1 := by rw [hv1]; exact below_alloc (Below.refl _ _) _
    have r1 : v1.heap[w2.heap.size]? = some (.cells #[.int .i64 n, .int .u64 h, .int .u64 l] 76 (0, 0)) := by rw [hv1]; exact heap_alloc_new _ _
    have z1 : v1.heap.size = w2.heap.size + 1 := by rw [hv1]; simp
    clear hv1
    have s1 := below_next s0 b1
    have SZ2 : Hid (w.heap.size + 1 ≤ w2.heap.size) := Lib.hid (by have := B1.out.size; have := HS1.out; omega)
    have R1 := Lib.hid r1; have Z1 := Lib.hid z1
    have HM2 : Hid (v1.heap[w.heap.size]? = _) := Lib.hid ((b1.block _ (by have := SZ2.out; omega)).trans ((B1.out.block _ (by have := HS1.out; omega)).trans HM1.out))
    have BD0 := Lib.hid (show w.heap.size < w2.heap.size by have := SZ2.out; omega)
    obtain ⟨bs, hbs⟩ : ∃ q, w2.heap.size = q := ⟨_, rfl⟩
    rw [hbs] at R1 Z1 BD0 ⊢
    clear hbs r1 z1 b1
    refine hK.out _ _ s1 (fun _ => ?_)
    clear hK K
    try simp only [Act.put, List.getElem_toArray, List.getElem_cons_succ, List.getElem_cons_zero, List.setIfInBounds_toArray, List.set_cons_zero, List.set_cons_succ, Nat.zero_add, List.nil_append]
    refine wpAnyH_ready (rs := [15]) (by kernel_rfl) (by simp) ?_
    refine AllReadyH.cons rfl (fun K hK => ?_) AllReadyH.nil
    rw [if_pos (by rfl)]
    go_simp
    have b2 : Below v1.heap.size v1 (v1.alloc (.cells #[.int .i64 n, .int .u64 h, .int .u64 l, .int .i64 n', .int .u64 h', .int .u64 l'] 76)) := below_alloc (Below.refl _ _) _
    have r3 := heap_alloc_new v1 (.cells #[.int .i64 n, .int .u64 h, .int .u64 l, .int .i64 n', .int .u64 h', .int .u64 l'] 76)
    generalize v1.alloc (.cells #[.int .i64 n, .int .u64 h, .int .u64 l, .int .i64 n', .int .u64 h', .int .u64 l'] 76) = v3 at *
    have s2 := below_next s1 b2
    obtain ⟨bd, hbd⟩ : ∃ q, v1.heap.size = q := ⟨_, rfl⟩
    have r2 : v3.heap[bs]? = _ := (b2.block _ (by have := Z1.out; omega)).trans R1.out
    have BD : Hid (w.heap.size + 1 ≤ bd) := Lib.hid (by have := Z1.out; have := BD0.out; omega)
    have SZ3 : Hid (w.heap.size + 1 ≤ v3.heap.size) := Lib.hid (by have := b2.size; have := Z1.out; have := BD0.out; omega)
    have HM3 : Hid (v3.heap[w.heap.size]? = some (.cells (msgC 0 0 0 (.slice none 0 0)) 70 (0, 0))) := Lib.hid ((b2.block _ (by have := Z1.out; have := BD0.out; omega)).trans HM2.out)
    rw [hbd] at r3 ⊢
    have OWN : Hid (v3.ownsRow w.heap.size 76 3 (.slice (some ⟨bd, 0, none⟩) 2 2) 2 (pc n h l ++ pc n' h' l')) := Lib.hid ⟨rfl, .inr ⟨bd, 2, _, rfl, by have := BD.out; omega, r3, by decide, by decide, rfl, rfl⟩⟩
    have NEWS : Hid (∀ (jj : Nat) (u : Value), (pc n h l)[jj]? = some u → v3.cell? ((⟨bs, 0, none⟩ : Addr).add jj) = some u) := Lib.hid (fun jj u hu => by
      have hadd : (⟨bs, 0, none⟩ : Addr).add jj = ⟨bs, jj, none⟩ := by unfold Addr.add; split <;> simp_all
      rw [hadd, cell_of_row v3 bs jj _ _ (0, 0) r2]; simpa using hu)
    have S3 := Lib.hid s2
    refine hK.out _ _ s2 (fun _ => ?_)
    clear hK K r2 r3 b2 hbd
    try simp only [Act.put, List.getElem_toArray, List.getElem_cons_succ, List.getElem_cons_zero, List.setIfInBounds_toArray, List.set_cons_zero, List.set_cons_succ, Nat.zero_add, List.nil_append]
    have hz6 : (.agg #[.int .i64 0, .int .u64 0, .int .u64 0] : Value).cells.size = 3 := rfl
    refine wpAnyH_ready (rs := [18]) (by kernel_rfl) (by simp) ?_
    refine AllReadyH.cons rfl (fun K hK => ?_) AllReadyH.nil
    rw [if_pos (by rfl)]
    refine wp_append_lies _ (.tmp 22) (.tmp 24) 31 rfl w.heap.size 76 i0 _ 3 24 rfl HI.out HZ0.out HZ1.out HZ2.out hz6 (by decide) (.slice (some ⟨bd, 0, none⟩) 2 2) 2 (pc n h l ++ pc n' h' l') rfl OWN.out
      ⟨bs, 0, none⟩ 1 1 (pc n h l) rfl rfl (fun jj u hu => NEWS.out jj u hu) (by intro u hu; simp at hu; rcases hu with rfl | rfl | rfl <;> rfl) (by decide) (by decide) (by decide) S3.out.size _ rfl ?_
    intro ga ca v4 own4 gr4 at4 lt4
    have b4 : Below (w.heap.size + 1) v3 v4 := ⟨gr4.os, gr4.tape, gr4.output, gr4.size, fun kk hk => gr4.block kk (by have := SZ3.out; omega) (by have := BD.out; simp [Value.ownBlock]; omega)⟩
    have s4 : Below w.heap.size w v4 := S3.out.trans (b4.mono (by omega))
    have HM4 : Hid (v4.heap[w.heap.size]? = some (.cells (msgC 0 0 0 (.slice none 0 0)) 70 (0, 0))) := Lib.hid ((b4.block _ (by omega)).trans HM3.out)
    have S4 := Lib.hid s4
    clear own4 gr4 at4 lt4 b4
    refine hK.out _ _ s4 (fun _ => ?_)
    clear hK K
    try simp only [Act.put, List.getElem_toArray, List.getElem_cons_succ, List.getElem_cons_zero, List.setIfInBounds_toArray, List.set_cons_zero, List.set_cons_succ, Nat.zero_add, List.nil_append]
    refine wpAnyH_take (i := 19) (v := .agg (msgC k n t (.slice (some ⟨ga, 0, none⟩) 3 ca))) rfl (by kernel_rfl) (by kernel_rfl) (by kernel_rfl) (fun _ _ _ h => h) (Or.inl ⟨by rfl, fun w' hw' => by unfold msgC msgL; go_simp⟩) s4 ?_
    try simp only [Act.put, List.getElem_toArray, List.getElem_cons_succ, List.getElem_cons_zero, List.setIfInBounds_toArray, List.set_cons_zero, List.set_cons_succ, Nat.zero_add, List.nil_append]
    refine wpAnyH_ready (rs := [20]) (by kernel_rfl) (by simp) ?_
    refine AllReadyH.cons rfl (fun K hK => ?_) AllReadyH.nil
    rw [if_pos (by rfl)]
    refine wp_store_row 70 (.tmp 6) (.tmp 26) rfl w.heap.size (msgC k n t (.slice (some ⟨ga, 0, none⟩) 3 ca)) rfl rfl 70 (msgC 0 0 0 (.slice none 0 0)) HM4.out (by rw [msgC_size]; exact msg_size) rfl (msgC_one _ _ _ _ _ _) ?_
    have s5 : Below w.heap.size w (v4.setRow w.heap.size (msgC k n t (.slice (some ⟨ga, 0, none⟩) 3 ca))) := S4.out.trans ((Keep.setRow v4 w.heap.size _).below S4.out.size (by simp))
    refine hK.out _ _ s5 (fun _ => ?_)
    clear hK K
    try simp only [Act.put, List.getElem_toArray, List.getElem_cons_succ, List.getElem_cons_zero, List.setIfInBounds_toArray, List.set_cons_zero, List.set_cons_succ, Nat.zero_add, List.nil_append]
    refine wpAnyH_done (by kernel_rfl) ?_ _
    have HM5 : (v4.setRow w.heap.size (msgC k n t (.slice (some ⟨ga, 0, none⟩) 3 ca))).heap[w.heap.size]? = some (.cells (msgC k n t (.slice (some ⟨ga, 0, none⟩) 3 ca)) 70 (0, 0)) := setRow_heap _ _ _ _ _ _ HM4.out
    generalize v4.setRow w.heap.size (msgC k n t (.slice (some ⟨ga, 0, none⟩) 3 ca)) = v5 at *
    go_wp2_with fail
    exact bodyPost_ret (results_cell_row Try.results33 _ _ w.heap.size 70 (msgC k n t (.slice (some ⟨ga, 0, none⟩) 3 ca)) (0, 0) _ rfl HM5 Try.underlying70 rfl (by rw [msgC_size]; exact msg_size)) rfl ⟨⟨_, _, rfl⟩, s5⟩
end Go.Proofs.Ythdhpgpdbdjaeaa
