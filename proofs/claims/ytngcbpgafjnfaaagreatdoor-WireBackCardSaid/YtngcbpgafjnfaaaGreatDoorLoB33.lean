/- Operations of a region that draws: an empty slice, an append, a message's variable. The statements' rows of examples. -/
import Derived.Test.YtngcbpgafjnfaaaGreatDoorLoB32
import Derived.Deep.RegionHeld3
import Derived.Deep.DeepAppendWide
import Derived.Test.YtngcbpgafjnfaaaGreatDoorLoB25
set_option linter.unusedSimpArgs false
set_option linter.unusedVariables false

namespace Go.Proofs.YtngcbpgafjnfaaaGreatDoor
open Go.RowKit Go.Sort
set_option linter.unusedVariables false

section
variable {w : World} {o : Oper} {a : Act} {K : Act → World → Prop} {Q : Exit → Act → World → Prop}
theorem wp_build0 (ho : o.op = .buildSlice 54 0 #[]) (h : ∀ w', w' = w.alloc (.cells #[] 5) → K (a.put o.dst (.slice (some ⟨w.heap.size, 0, none⟩) 0 0)) w') : o.wp Tryz.prog a w K Q := by
  have hrun : (execOp a.eval o).run Tryz.prog w = .ok (.value (.slice (some ⟨w.heap.size, 0, none⟩) 0 0)) (w.alloc (.cells #[] 5)) := by
    unfold execOp
    simp only [ho]
    kernel_rfl
  unfold Oper.wp
  simp only [hrun, Oper.upon]
  exact h _ rfl
theorem wp_alloc_msg (ho : o.op = .alloc 52) (h : ∀ w', w' = w.alloc (.cells (noughtCs 0 0 0) 52) → K (a.put o.dst (.pointer (some ⟨w.heap.size, 0, none⟩))) w') : o.wp Tryz.prog a w K Q := by
  have hrun : (execOp a.eval o).run Tryz.prog w = .ok (.value (.pointer (some ⟨w.heap.size, 0, none⟩))) (w.alloc (.cells (noughtCs 0 0 0) 52)) := by
    unfold execOp
    simp only [ho]
    kernel_rfl
  unfold Oper.wp
  simp only [hrun, Oper.upon]
  exact h _ rfl
theorem wp_app (s x : Operand) (ho : o.op = .call { callee := .builtin .append, args := #[s, x], argTypes := #[54, 54] })
    {B : Nat} {ao : Option Addr} {n cap : Nat} {l : List Nat} (hs : a.eval s = .slice ao n cap) (hown : Own w B ao n cap l)
    {xo : Option Addr} {m c : Nat} {ms : List Nat} (hx : a.eval x = .slice xo m c) (hrd : Rd w xo ms) (hm : ms.length = m) (hB : B ≤ w.heap.size) (hbig : n + m ≤ 140737488355328)
    (h : ∀ ao' cap' w', Own w' B ao' (n + m) cap' (l ++ ms) → Keep (blk ao) w w' → (∀ g ∈ blk ao', g ∈ blk ao ∨ w.heap.size ≤ g) → K (a.put o.dst (.slice ao' (n + m) cap')) w') : o.wp Tryz.prog a w K Q := by
  obtain ⟨ao', cap', w', hr, h2, h3, h4, _⟩ := hown.run_app c hrd hm hB hbig o.type
  unfold Oper.wp execOp
  simp only [ho, resolve, invoke, builtin, Sem.run_bind, Sem.run_pure, Result.andThen_ok, List.map_toArray, List.map_cons, List.map_nil, hs, hx, hr]
  exact h ao' cap' w' h2 h3 h4
theorem owns_empty (w : World) (B : Nat) (hB : B ≤ w.heap.size) : (w.alloc (.cells #[] 5)).ownsRow B 5 1 (.slice (some ⟨w.heap.size, 0, none⟩) 0 0) 0 (cs []) :=
  ⟨rfl, .inr ⟨w.heap.size, 0, #[], rfl, hB, heap_alloc_new w _, Nat.le_refl _, by decide, by simp, by simp⟩⟩
theorem owns_keepS {w w' : World} {B e z n : Nat} {v : Value} {xs : List Value} {S : List Nat} (h : w.ownsRow B e z v n xs) (k : Keep S w w') (hn : ∀ g, v.ownBlock = some g → g ∉ S) : w'.ownsRow B e z v n xs := by
  refine ⟨h.1, ?_⟩
  rcases h.2 with h2 | ⟨g, cap, cur, rfl, hb, hg, h3⟩
  · exact .inl h2
  · exact .inr ⟨g, cap, cur, rfl, hb, (k.block g (Array.getElem?_eq_some_iff.1 hg).1 (hn g rfl)).trans hg, h3⟩
theorem keep_grownS {w w' : World} {ao : Option Addr} {n cap : Nat} (h : w.grownBy w' (Value.slice ao n cap).ownBlock) : Keep (blk ao) w w' :=
  ⟨h.os, h.tape, h.output, h.size, fun k hk hn => h.block k hk fun e => by
    cases ao with
    | none => cases e
    | some a => simp [Value.ownBlock] at e; exact hn (by simp [blk, e])⟩
theorem owns_lt {w : World} {B e z n m cap : Nat} {ao : Option Addr} {xs : List Value} (h : w.ownsRow B e z (.slice ao m cap) n xs) : ∀ g ∈ blk ao, B ≤ g ∧ g < w.heap.size := by
  intro g hg
  rcases h.2 with ⟨h2, _⟩ | ⟨g', cap', cur, h2, hb, hg', _⟩
  · cases h2; simp [blk] at hg
  · cases h2
    simp [blk] at hg; subst hg
    exact ⟨hb, (Array.getElem?_eq_some_iff.1 hg').1⟩
/-- bytes do not lie where a message lies -/
theorem owns_type {w : World} {B n m cap s : Nat} {ao : Option Addr} {xs : List Value} {c : Array Value} (h : w.ownsRow B 5 1 (.slice ao m cap) n xs) (hs : s ∈ blk ao) (hr : w.heap[s]? = some (.cells c 52 (0, 0))) : False := by
  rcases h.2 with ⟨h2, _⟩ | ⟨g', cap', cur, h2, hb, hg', _⟩
  · cases h2; simp [blk] at hs
  · cases h2
    simp [blk] at hs; subst hs
    rw [hg'] at hr
    injection hr with hr
    injection hr with _ hr
    exact absurd hr (by decide)
/-- an append to a row of the call's own, up to Go's own bound -/
theorem wp_app_wide (s x : Operand) (ho : o.op = .call { callee := .builtin .append, args := #[s, x], argTypes := #[54, 54] })
    {B : Nat} {ao : Option Addr} {n cap : Nat} {l : List Nat} (hs : a.eval s = .slice ao n cap) (hown : w.ownsRow B 5 1 (.slice ao n cap) n (cs l)) (hlt : ∀ c ∈ l, c < 256)
    {xo : Option Addr} {m c : Nat} {ms : List Nat} (hx : a.eval x = .slice xo m c) (hrd : Rd w xo ms) (hm : ms.length = m) (hB : B ≤ w.heap.size) (hbig : (n + m) + (n + m) / 4 + 192 ≤ 281474976710656)
    (h : ∀ ao' cap' w', w'.ownsRow B 5 1 (.slice ao' (n + m) cap') (n + m) (cs (l ++ ms)) → Own w' B ao' (n + m) cap' (l ++ ms) → Keep (blk ao) w w' → K (a.put o.dst (.slice ao' (n + m) cap')) w') : o.wp Tryz.prog a w K Q := by
  by_cases h0 : m = 0
  · subst h0
    obtain rfl : ms = [] := List.eq_nil_of_length_eq_zero hm
    obtain ⟨ao2, cap2, e, own⟩ := Own.of_owns rfl hown hlt
    cases e
    obtain ⟨i0, hi, hz0, hz1, hz2⟩ := info_parts byte_info
    have hr : (Builtin.append_ #[54, 54] o.type #[.slice ao n cap, .slice xo 0 c]).run Tryz.prog w = .ok (.slice ao n cap) w := by
      refine run_append_nothing w _ _ o.type 5 i0 Tryz.underlying54 hi ao n cap own.le _ ?_
      cases xo with
      | none => exact Src.ofNil w Tryz.underlying54 c
      | some a => exact Src.ofSlice w Tryz.underlying54 a 0 c [] (by simp) (by simp) (by simp)
    unfold Oper.wp execOp
    simp only [ho, resolve, invoke, builtin, Sem.run_bind, Sem.run_pure, Result.andThen_ok, List.map_toArray, List.map_cons, List.map_nil, hs, hx, hr]
    exact h ao cap w (by simpa using hown) (by simpa using own) (Keep.refl _ _)
  · obtain ⟨gx, ox, rfl, _, _⟩ := hrd.at_ 0 (by omega)
    have hnews : ∀ j u, (cs ms)[j]? = some u → w.cell? ((⟨gx, ox, none⟩ : Addr).add j) = some u := by
      intro j u hu
      obtain ⟨hj, rfl⟩ := cs_at hu
      obtain ⟨g, o, e, _, h3⟩ := hrd.at_ j hj
      cases e
      rw [Addr.add_lit]; exact h3
    obtain ⟨i0, hi, hz0, hz1, hz2⟩ := info_parts byte_info
    refine wp_append_own_wide w s x 54 ho B 5 i0 (.int .u8 0) 1 1 Tryz.underlying54 hi hz0 hz1 hz2 rfl (by decide) (.slice ao n cap) n (cs l) hs hown ⟨gx, ox, none⟩ m c (cs ms) hx (by simpa using hm) hnews (cs_one _) (by unfold maxLen; omega) (by omega) hB fun v' w' r1 r2 _ => ?_
    have r1' : w'.ownsRow B 5 1 v' (n + m) (cs (l ++ ms)) := by simpa [cs] using r1
    obtain ⟨ao', cap', rfl, own⟩ := Own.of_owns rfl r1' (fun c hc => by rcases List.mem_append.1 hc with h1 | h1; exact hlt c h1; exact hrd.lt c h1)
    exact h ao' cap' w' r1' own (keep_grownS r2)
end
end Go.Proofs.YtngcbpgafjnfaaaGreatDoor


namespace Go.Proofs.YtngcbpgafjnfaaaGreatDoor
open Go.RowKit
set_option linter.unusedVariables false

theorem beat_body : bodyW (nought 16 1 2) = .ok [16, 1, 2] := by first | kernel_rfl | rfl | decide
theorem beat_frame : encW (nought 16 1 2) = .ok (frameOf [16, 1, 2]) := by
  unfold encW
  rw [beat_body]
  rfl
theorem none_frame : encW (nought 0 0 0) = .error (41, ⟨#[107, 105, 110, 100]⟩) := by
  unfold encW bodyW
  rfl
theorem beat_len : (frameOf [16, 1, 2]).length = 13 := frameOf_length _
theorem beat_at (j : Nat) : bt (frameOf [16, 1, 2]) (10 + j) = bt [16, 1, 2] j := by
  unfold bt
  have : (frameOf [16, 1, 2]) = ([84, 78] ++ (four 3 ++ four (sumOf (sumOf 0 (four 3)) [16, 1, 2]))) ++ [16, 1, 2] := by simp [frameOf]
  rw [this, List.getD_eq_getElem?_getD, List.getD_eq_getElem?_getD, List.getElem?_append_right (by simp [four])]
  simp [four]

set_option maxRecDepth 100000 in
set_option maxHeartbeats 4000000 in
theorem awake_any (w : World) (hE : ErrT w) (hT : Tab w) : Calls Tryz.prog 9 #[] w fun e w' => e = .returned (.bool true) ∧ Below w.heap.size w w' := by
  have E1 := Lib.hid (encode_any (nought 16 1 2) ⟨by decide, by decide⟩ (noughtCs 16 1 2) w hE hT (fun _ => False) rfl (nought_slots 16 1 2 ⟨by decide, by decide⟩ ⟨by decide, by decide⟩ ⟨by decide, by decide⟩ w _) (fun _ h => h.elim) rfl)
  have HE := Lib.hid hE
  have HT := Lib.hid hT
  clear hE hT
  go_enter Tryz.func9, Tryz.ntmps9
  go_wp2_with fail
  refine E1.out.mono ?_
  rintro e w1 ⟨hb, hm⟩
  rw [beat_frame] at hm
  obtain ⟨ao, cap, rfl, ho⟩ := hm
  rw [beat_len] at ho ⊢
  have HB := Lib.hid hb
  have HR := Lib.hid ho.rd
  clear ho hb E1
  have E2 := Lib.hid (encode_any (nought 0 0 0) ⟨by decide, by decide⟩ (noughtCs 0 0 0) w1 (HE.out.below HB.out) (HT.out.below HB.out) (fun _ => False) rfl (nought_slots 0 0 0 ⟨by decide, by decide⟩ ⟨by decide, by decide⟩ ⟨by decide, by decide⟩ w1 _) (fun _ h => h.elim) rfl)
  go_wp2_with fail
  refine E2.out.mono ?_
  rintro e w2 ⟨hb, hm⟩
  rw [none_frame] at hm
  obtain ⟨a, rfl, _, _, _⟩ := hm
  obtain ⟨g, o, rfl, hg, c10⟩ := (HR.out.below hb).at_ (10 + 0) (by rw [beat_len]; omega)
  obtain ⟨_, _, e, _, c11⟩ := (HR.out.below hb).at_ (10 + 1) (by rw [beat_len]; omega)
  cases e
  obtain ⟨_, _, e, _, c12⟩ := (HR.out.below hb).at_ (10 + 2) (by rw [beat_len]; omega)
  cases e
  rw [beat_at] at c10 c11 c12
  have c10 : w2.cell? ⟨g, o + 10, none⟩ = some (.int .u8 16) := c10
  have c11 : w2.cell? ⟨g, o + 11, none⟩ = some (.int .u8 1) := c11
  have c12 : w2.cell? ⟨g, o + 12, none⟩ = some (.int .u8 2) := c12
  have HBB := Lib.hid (HB.out.trans (hb.mono HB.out.size))
  clear hb E2 HR
  go_wp2_with fail
  go_ret
  exact ⟨rfl, HBB.out⟩
end Go.Proofs.YtngcbpgafjnfaaaGreatDoor
