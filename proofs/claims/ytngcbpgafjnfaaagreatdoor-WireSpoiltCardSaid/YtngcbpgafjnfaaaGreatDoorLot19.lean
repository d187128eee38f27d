/- A variable of type api.Msg: laid and stored. The statements' rows of examples. A message that came in, by its reading (gen_open.py). -/
import Derived.Test.YtngcbpgafjnfaaaGreatDoorLot18
import Derived.Deep.MidRow
import Derived.Test.YtngcbpgafjnfaaaGreatDoorLot16
import Derived.Test.YtngcbpgafjnfaaaGreatDoorLot11
import Derived.SizedLaws
import Derived.DataReads
import Derived.MakeChecks
import Derived.Deep.Slices
import Derived.Deep.SlicePairs
import Derived.Deep.Strs
import Derived.Lib.SmallJoins
import Derived.Laws.IdiomArrays

namespace Go.Proofs.YtngcbpgafjnfaaaGreatDoor
open Go.RowKit Go.Sort
set_option linter.unusedVariables false

theorem wpList_alloc_msg {w : World} {ops : Array Oper} {rest : List Oper} {o : Oper} {a : Act} {Q : Exit → Act → World → Prop} (hgd : o.guard = none) (ho : o.op = .alloc 52)
    (h : ∀ w', w' = w.alloc (.cells (noughtCs 0 0 0) 52) → wpList Tryz.prog ops Q rest (a.put o.dst (.pointer (some ⟨w.heap.size, 0, none⟩))) w') : wpList Tryz.prog ops Q (o :: rest) a w := by
  refine wpList_plain hgd fun K hK => ?_
  have hrun : (execOp a.eval o).run Tryz.prog w = .ok (.value (.pointer (some ⟨w.heap.size, 0, none⟩))) (w.alloc (.cells (noughtCs 0 0 0) 52)) := by
    unfold execOp
    simp only [ho]
    kernel_rfl
  unfold Oper.wp
  simp only [hrun, Oper.upon]
  exact hK _ _ (h _ rfl)
theorem wpList_var {w : World} {ops : Array Oper} {rest : List Oper} {o1 o2 : Oper} {a : Act} {Q : Exit → Act → World → Prop} (hg1 : o1.guard = none) (ho1 : o1.op = .alloc 52) (hg2 : o2.guard = none) (p x : Operand) (ho2 : o2.op = .store 52 p x) (hd2 : o2.dst = none)
    (hp : (a.put o1.dst (.pointer (some ⟨w.heap.size, 0, none⟩))).eval p = .pointer (some ⟨w.heap.size, 0, none⟩)) (cs : Array Value) (hx : (a.put o1.dst (.pointer (some ⟨w.heap.size, 0, none⟩))).eval x = .agg cs) (hz : cs.size = 49) (hone : cs.all (·.oneCell') = true)
    (h : ∀ w', Below w.heap.size w w' → wpList Tryz.prog ops Q rest (a.put o1.dst (.pointer (some ⟨w.heap.size, 0, none⟩))) w') : wpList Tryz.prog ops Q (o1 :: o2 :: rest) a w := by
  refine wpList_alloc_msg hg1 ho1 fun w' hw => ?_
  subst hw
  have hrow := heap_alloc_new w (.cells (noughtCs 0 0 0) 52)
  refine wpList_store_row hg2 52 p x ho2 w.heap.size cs hp hx 52 (noughtCs 0 0 0) hrow (by rw [hz]; exact msg_size) (by rw [hz]; rfl) hone ?_
  rw [hd2]
  exact h _ ((below_alloc (Below.refl _ _) _).trans ((Keep.setRow _ w.heap.size cs).below (by simp) (by simp)))
end Go.Proofs.YtngcbpgafjnfaaaGreatDoor


namespace Go.Proofs.YtngcbpgafjnfaaaGreatDoor
open Go.RowKit
set_option linter.unusedVariables false

theorem beat_body : bodyW (nought 16 1 2) = .ok [16, 1, 2] := by first | kernel_rfl | rfl | decide
theorem beat_frame : encW (nought 16 1 2) = .ok (frameOf [16, 1, 2]) := by
  unfold encW
  rw [beat_body]
  rfl
theorem none_frame : encW (nought 0 0 0) = .error (41, ⟨#[107, 105, 110, 100]⟩) := by
  unfold encW bodyW
  rfl
theorem beat_len : (frameOf [16, 1, 2]).length = 13 := frameOf_length _
theorem beat_at (j : Nat) : bt (frameOf [16, 1, 2]) (10 + j) = bt [16, 1, 2] j := by
  unfold bt
  have : (frameOf [16, 1, 2]) = ([84, 78] ++ (four 3 ++ four (sumOf (sumOf 0 (four 3)) [16, 1, 2]))) ++ [16, 1, 2] := by simp [frameOf]
  rw [this, List.getD_eq_getElem?_getD, List.getD_eq_getElem?_getD, List.getElem?_append_right (by simp [four])]
  simp [four]

set_option maxRecDepth 100000 in
set_option maxHeartbeats 4000000 in
theorem awake_any (w : World) (hE : ErrT w) (hT : Tab w) : Calls Tryz.prog 9 #[] w fun e w' => e = .returned (.bool true) ∧ Below w.heap.size w w' := by
  have E1 := Lib.hid (encode_any (nought 16 1 2) ⟨by decide, by decide⟩ (noughtCs 16 1 2) w hE hT (fun _ => False) rfl (nought_slots 16 1 2 ⟨by decide, by decide⟩ ⟨by decide, by decide⟩ ⟨by decide, by decide⟩ w _) (fun _ h => h.elim) rfl)
  have HE := Lib.hid hE
  have HT := Lib.hid hT
  clear hE hT
  go_enter Tryz.func9, Tryz.ntmps9
  go_wp2_with fail
  refine E1.out.mono ?_
  rintro e w1 ⟨hb, hm⟩
  rw [beat_frame] at hm
  obtain ⟨ao, cap, rfl, ho⟩ := hm
  rw [beat_len] at ho ⊢
  have HB := Lib.hid hb
  have HR := Lib.hid ho.rd
  clear ho hb E1
  have E2 := Lib.hid (encode_any (nought 0 0 0) ⟨by decide, by decide⟩ (noughtCs 0 0 0) w1 (HE.out.below HB.out) (HT.out.below HB.out) (fun _ => False) rfl (nought_slots 0 0 0 ⟨by decide, by decide⟩ ⟨by decide, by decide⟩ ⟨by decide, by decide⟩ w1 _) (fun _ h => h.elim) rfl)
  go_wp2_with fail
  refine E2.out.mono ?_
  rintro e w2 ⟨hb, hm⟩
  rw [none_frame] at hm
  obtain ⟨a, rfl, _, _, _⟩ := hm
  obtain ⟨g, o, rfl, hg, c10⟩ := (HR.out.below hb).at_ (10 + 0) (by rw [beat_len]; omega)
  obtain ⟨_, _, e, _, c11⟩ := (HR.out.below hb).at_ (10 + 1) (by rw [beat_len]; omega)
  cases e
  obtain ⟨_, _, e, _, c12⟩ := (HR.out.below hb).at_ (10 + 2) (by rw [beat_len]; omega)
  cases e
  rw [beat_at] at c10 c11 c12
  have c10 : w2.cell? ⟨g, o + 10, none⟩ = some (.int .u8 16) := c10
  have c11 : w2.cell? ⟨g, o + 11, none⟩ = some (.int .u8 1) := c11
  have c12 : w2.cell? ⟨g, o + 12, none⟩ = some (.int .u8 2) := c12
  have HBB := Lib.hid (HB.out.trans (hb.mono HB.out.size))
  clear hb E2 HR
  go_wp2_with fail
  go_ret
  exact ⟨rfl, HBB.out⟩
end Go.Proofs.YtngcbpgafjnfaaaGreatDoor


namespace Go.Proofs.YtngcbpgafjnfaaaGreatDoor
open Go.ChangeShapes Go.WideShapes Go.ChangeAt Go.RowKit Go.Deep
set_option linter.unusedVariables false

theorem cells_each2 {w : World} {base : Nat} {a : Addr} {n : Nat} {cs : List Value} (h : w.cells? base a n = some cs) : cs.length = n ∧ ∀ i, i < n → w.cell? (a.add i) = cs[i]? := by
  unfold World.cells? at h
  split at h
  · constructor
    · have := Lib.mapM_length h; simpa using this
    · intro i hi
      obtain ⟨b, hb, hf⟩ := Lib.mapM_at h i i (by simp [hi])
      rw [hf, hb]
  · cases h
theorem add_zero2 (a : Addr) : a.add 0 = a := by unfold Addr.add; split <;> simp_all
theorem no_spot2 {a : Addr} {w : World} {v : Value} (h : w.cell? a = some v) : ∃ g o, a = ⟨g, o, none⟩ := by
  obtain ⟨b, off, spot⟩ := a
  have hspot : spot = none := by simpa using World.cell?_spot h
  subst hspot
  exact ⟨b, off, rfl⟩

section
variable {H : Type} {enc : TypeId × Value → H} {W : World} {held : Bool}
/-- whatever reads at type t is of kind k, in blocks that are there -/
def Opens {α : Type} (enc : TypeId × Value → H) (W : World) (held : Bool) (k : Kd α) (t : TypeId) : Prop :=
  ∀ (fuel : Nat) (cs : List Value) (x : DataW H × List MemPlace), DataW.trod enc Tryz.prog W 0 (fun _ => true) held fuel t cs = some x → ∃ a, k.is W (fun b => b < W.heap.size) cs a
theorem opens_int (s m : Nat) {t : TypeId} (ht : Tryz.prog.underlying t = some (.int .i64)) : Opens enc W held (intK s m) t := by
  intro fuel cs x h
  obtain ⟨v, e, _, wv⟩ := DataW.trod_int ht h
  exact ⟨v, e, by have := bounds_i64 wv; unfold I64; omega⟩
theorem opens_nat (k : IntKind) (s m : Nat) (hk : k.min = 0) {t : TypeId} (ht : Tryz.prog.underlying t = some (.int k)) : Opens enc W held (natK k s m) t := by
  intro fuel cs x h
  obtain ⟨v, e, _, wv⟩ := DataW.trod_int ht h
  have h2 : k.min ≤ v ∧ v ≤ k.max := by simpa [Lit.wf] using wv
  obtain ⟨n, rfl⟩ : ∃ n : Nat, v = (n : Int) := ⟨v.toNat, by omega⟩
  exact ⟨n, e, h2.2⟩
theorem opens_flag {t : TypeId} (ht : Tryz.prog.underlying t = some .bool) : Opens enc W held flagK t := by
  intro fuel cs x h
  obtain ⟨b, e, _⟩ := DataW.trod_bool ht h
  exact ⟨b, e⟩
theorem opens_text (m : Nat) {t : TypeId} (ht : Tryz.prog.underlying t = some .string) : Opens enc W held (textK m) t := by
  intro fuel cs x h
  obtain ⟨s, e, _, hs⟩ := DataW.trod_string ht h
  exact ⟨s, e, hs⟩
theorem opens_mans : Opens enc W held mansK 31 := by
  intro fuel cs x h
  obtain ⟨xs, m, _, _, hl, _⟩ := DataW.trod_array Tryz.underlying31 h
  obtain ⟨c0, c1, c2, rfl⟩ := list3 cs (hl.trans (by kernel_rfl))
  obtain ⟨y0, y1, y2, n, _, t0, t1, t2⟩ := trod_array3 Tryz.underlying31 (by kernel_rfl) h
  obtain ⟨v0, e0, _, w0⟩ := DataW.trod_int Tryz.underlying3 t0
  obtain ⟨v1, e1, _, w1⟩ := DataW.trod_int Tryz.underlying3 t1
  obtain ⟨v2, e2, _, w2⟩ := DataW.trod_int Tryz.underlying3 t2
  simp only [List.cons.injEq, and_true] at e0 e1 e2
  subst e0 e1 e2
  refine ⟨[v0, v1, v2], rfl, rfl, fun x hx => ?_⟩
  have b0 := bounds_i64 w0; have b1 := bounds_i64 w1; have b2 := bounds_i64 w2
  simp at hx
  unfold I64
  rcases hx with rfl | rfl | rfl <;> omega
theorem opens_incs : Opens enc W held incsK 41 := by
  intro fuel cs x h
  obtain ⟨xs, m, _, _, hl, _⟩ := DataW.trod_array Tryz.underlying41 h
  obtain ⟨c0, c1, c2, c3, rfl⟩ := list4 cs (hl.trans (by kernel_rfl))
  obtain ⟨y0, y1, y2, y3, n, _, t0, t1, t2, t3⟩ := trod_array4 Tryz.underlying41 (by kernel_rfl) h
  obtain ⟨v0, e0, _, w0⟩ := DataW.trod_int Tryz.underlying24 t0
  obtain ⟨v1, e1, _, w1⟩ := DataW.trod_int Tryz.underlying24 t1
  obtain ⟨v2, e2, _, w2⟩ := DataW.trod_int Tryz.underlying24 t2
  obtain ⟨v3, e3, _, w3⟩ := DataW.trod_int Tryz.underlying24 t3
  simp only [List.cons.injEq, and_true] at e0 e1 e2 e3
  subst e0 e1 e2 e3
  have b0 : (IntKind.u32).min ≤ v0 ∧ v0 ≤ IntKind.u32.max := by simpa [Lit.wf] using w0
  have b1 : (IntKind.u32).min ≤ v1 ∧ v1 ≤ IntKind.u32.max := by simpa [Lit.wf] using w1
  have b2 : (IntKind.u32).min ≤ v2 ∧ v2 ≤ IntKind.u32.max := by simpa [Lit.wf] using w2
  have b3 : (IntKind.u32).min ≤ v3 ∧ v3 ≤ IntKind.u32.max := by simpa [Lit.wf] using w3
  have hm : IntKind.u32.min = 0 := by decide
  obtain ⟨n0, rfl⟩ : ∃ n : Nat, v0 = (n : Int) := ⟨v0.toNat, by omega⟩
  obtain ⟨n1, rfl⟩ : ∃ n : Nat, v1 = (n : Int) := ⟨v1.toNat, by omega⟩
  obtain ⟨n2, rfl⟩ : ∃ n : Nat, v2 = (n : Int) := ⟨v2.toNat, by omega⟩
  obtain ⟨n3, rfl⟩ : ∃ n : Nat, v3 = (n : Int) := ⟨v3.toNat, by omega⟩
  refine ⟨[n0, n1, n2, n3], rfl, rfl, fun x hx => ?_⟩
  simp at hx
  rcases hx with rfl | rfl | rfl | rfl
  · exact b0.2
  · exact b1.2
  · exact b2.2
  · exact b3.2
theorem opens_list {α : Type} {k : Kd α} (max : Nat) {t e : TypeId} (ht : Tryz.prog.underlying t = some (.slice e)) (hz : Tryz.prog.cellsOf e = k.sz) (hk : Opens enc W held k e) (hpos : 0 < k.sz := by decide) : Opens enc W held (listK k max) t := by
  intro fuel cs x h
  rcases open_slice ht h with ⟨hcs, hx⟩ | ⟨a, len, cap, m, f, D, Pl, hcs, hb, hl, hm, hmm, hx, hall⟩
  · exact ⟨[], none, 0, 0, hcs, rfl, Nat.le_refl _, Nat.zero_le _, fun i a hi => by simp at hi⟩
  · simp only [if_true] at hmm
    rw [hz] at hall
    by_cases h0 : len = 0
    · subst h0
      exact ⟨[], some a, 0, cap, hcs, rfl, Nat.zero_le _, hm, fun i a hi => by simp at hi⟩
    · obtain ⟨g, o, rfl⟩ : ∃ g o, a = ⟨g, o, none⟩ := by
        obtain ⟨cs', h1, h2⟩ := hall 0 (by omega)
        rw [Nat.zero_mul, add_zero2] at h1
        obtain ⟨hl2, hce⟩ := cells_each2 h1
        have h7 := hce 0 hpos
        rw [add_zero2, List.getElem?_eq_getElem (by omega)] at h7
        exact no_spot2 h7
      have each : ∀ i, i < len → ∃ a cs', k.is W (fun b => b < W.heap.size) cs' a ∧ ∀ j u, cs'[j]? = some u → W.cell? ⟨g, o + i * k.sz + j, none⟩ = some u := fun i hi => by
        obtain ⟨cs', h1, h2⟩ := hall i (by omega)
        obtain ⟨hl2, hce⟩ := cells_each2 h1
        obtain ⟨a, ha⟩ := hk _ _ _ h2
        refine ⟨a, cs', ha, fun j u hu => ?_⟩
        have hj := (List.getElem?_eq_some_iff.1 hu).1
        have := hce j (by omega)
        rw [Addr.add_lit, Addr.add_lit] at this
        rw [this, hu]
      have hg : g < W.heap.size := by
        obtain ⟨cs', h1, h2⟩ := hall 0 (by omega)
        obtain ⟨hl2, hce⟩ := cells_each2 h1
        have h7 := hce 0 hpos
        rw [List.getElem?_eq_getElem (by omega), Addr.add_lit, Addr.add_lit] at h7
        exact World.block_lt_of_cell? W _ h7
      refine ⟨(List.finRange len).map fun i => Classical.choose (each i.1 i.2), some ⟨g, o, none⟩, len, cap, hcs, by simp, hl, hm, fun i a hi => ?_⟩
      rw [List.getElem?_map, Option.map_eq_some_iff] at hi
      obtain ⟨q, hq, rfl⟩ := hi
      have hlt : i < len := by have := (List.getElem?_eq_some_iff.1 hq).1; simpa using this
      have e : q = ⟨i, hlt⟩ := by
        have := (List.getElem?_eq_some_iff.1 hq).2
        rw [← this]
        simp
      subst e
      obtain ⟨cs', h1, h2⟩ := Classical.choose_spec (each i hlt)
      exact ⟨g, o, cs', rfl, hg, h1, h2⟩
set_option maxRecDepth 100000 in
theorem opens_ent : Opens enc W held entK 193 := by
  intro fuel cs x h
  obtain ⟨xs, n2, _, _, hl, hlen, hf⟩ := DataW.trod_struct Tryz.underlying193 h
  obtain ⟨u0, u1, rfl⟩ := list2 cs (hl.trans (by kernel_rfl))
  obtain ⟨y0, y1, rfl⟩ := list2 xs hlen
  have t0 : DataW.trod enc Tryz.prog W 0 (fun _ => true) held n2 9 [u0] = some y0 := hf 0 _ rfl
  obtain ⟨a0, h0⟩ := (opens_text 32 Tryz.underlying9) _ _ _ t0
  have t1 : DataW.trod enc Tryz.prog W 0 (fun _ => true) held n2 9 [u1] = some y1 := hf 1 _ rfl
  obtain ⟨a1, h1⟩ := (opens_text 64 Tryz.underlying9) _ _ _ t1
  exact ⟨⟨a0, a1⟩, [u0], [u1], rfl, h0, h1⟩
set_option maxRecDepth 100000 in
theorem opens_pos : Opens enc W held posK 49 := by
  intro fuel cs x h
  obtain ⟨xs, n2, _, _, hl, hlen, hf⟩ := DataW.trod_struct Tryz.underlying49 h
  obtain ⟨u0, u1, rfl⟩ := list2 cs (hl.trans (by kernel_rfl))
  obtain ⟨y0, y1, rfl⟩ := list2 xs hlen
  have t0 : DataW.trod enc Tryz.prog W 0 (fun _ => true) held n2 23 [u0] = some y0 := hf 0 _ rfl
  obtain ⟨a0, h0⟩ := (opens_nat .u64 8 18446744073709551615 (by decide) Tryz.underlying23) _ _ _ t0
  have t1 : DataW.trod enc Tryz.prog W 0 (fun _ => true) held n2 23 [u1] = some y1 := hf 1 _ rfl
  obtain ⟨a1, h1⟩ := (opens_nat .u64 8 18446744073709551615 (by decide) Tryz.underlying23) _ _ _ t1
  exact ⟨⟨a0, a1⟩, [u0], [u1], rfl, h0, h1⟩
set_option maxRecDepth 100000 in
theorem opens_per : Opens enc W held perK 135 := by
  intro fuel cs x h
  obtain ⟨xs, n2, _, _, hl, hlen, hf⟩ := DataW.trod_struct Tryz.underlying135 h
  obtain ⟨u0, u1, u2, rfl⟩ := list3 cs (hl.trans (by kernel_rfl))
  obtain ⟨y0, y1, rfl⟩ := list2 xs hlen
  have t0 : DataW.trod enc Tryz.prog W 0 (fun _ => true) held n2 3 [u0] = some y0 := hf 0 _ rfl
  obtain ⟨a0, h0⟩ := (opens_int 1 255 Tryz.underlying3) _ _ _ t0
  have t1 : DataW.trod enc Tryz.prog W 0 (fun _ => true) held n2 49 [u1, u2] = some y1 := hf 1 _ rfl
  obtain ⟨a1, h1⟩ := (opens_pos) _ _ _ t1
  exact ⟨⟨a0, a1⟩, [u0], [u1, u2], rfl, h0, h1⟩
set_option maxRecDepth 100000 in
theorem opens_arc : Opens enc W held arcK 46 := by
  intro fuel cs x h
  obtain ⟨xs, n2, _, _, hl, hlen, hf⟩ := DataW.trod_struct Tryz.underlying46 h
  obtain ⟨u0, u1, rfl⟩ := list2 cs (hl.trans (by kernel_rfl))
  obtain ⟨y0, y1, rfl⟩ := list2 xs hlen
  have t0 : DataW.trod enc Tryz.prog W 0 (fun _ => true) held n2 3 [u0] = some y0 := hf 0 _ rfl
  obtain ⟨a0, h0⟩ := (opens_int 1 63 Tryz.underlying3) _ _ _ t0
  have t1 : DataW.trod enc Tryz.prog W 0 (fun _ => true) held n2 3 [u1] = some y1 := hf 1 _ rfl
  obtain ⟨a1, h1⟩ := (opens_int 1 64 Tryz.underlying3) _ _ _ t1
  exact ⟨⟨a0, a1⟩, [u0], [u1], rfl, h0, h1⟩
set_option maxRecDepth 100000 in
theorem opens_vtd : Opens enc W held vtdK 191 := by
  intro fuel cs x h
  obtain ⟨xs, n2, _, _, hl, hlen, hf⟩ := DataW.trod_struct Tryz.underlying191 h
  obtain ⟨u0, u1, rfl⟩ := list2 cs (hl.trans (by kernel_rfl))
  obtain ⟨y0, y1, rfl⟩ := list2 xs hlen
  have t0 : DataW.trod enc Tryz.prog W 0 (fun _ => true) held n2 23 [u0] = some y0 := hf 0 _ rfl
  obtain ⟨a0, h0⟩ := (opens_nat .u64 8 18446744073709551615 (by decide) Tryz.underlying23) _ _ _ t0
  have t1 : DataW.trod enc Tryz.prog W 0 (fun _ => true) held n2 35 [u1] = some y1 := hf 1 _ rfl
  obtain ⟨a1, h1⟩ := (opens_int 1 2 Tryz.underlying35) _ _ _ t1
  exact ⟨⟨a0, a1⟩, [u0], [u1], rfl, h0, h1⟩
set_option maxRecDepth 100000 in
theorem opens_bal : Opens enc W held balK 28 := by
  intro fuel cs x h
  obtain ⟨xs, n2, _, _, hl, hlen, hf⟩ := DataW.trod_struct Tryz.underlying28 h
  obtain ⟨u0, u1, rfl⟩ := list2 cs (hl.trans (by kernel_rfl))
  obtain ⟨y0, y1, rfl⟩ := list2 xs hlen
  have t0 : DataW.trod enc Tryz.prog W 0 (fun _ => true) held n2 24 [u0] = some y0 := hf 0 _ rfl
  obtain ⟨a0, h0⟩ := (opens_nat .u32 4 4294967295 (by decide) Tryz.underlying24) _ _ _ t0
  have t1 : DataW.trod enc Tryz.prog W 0 (fun _ => true) held n2 5 [u1] = some y1 := hf 1 _ rfl
  obtain ⟨a1, h1⟩ := (opens_nat .u8 1 255 (by decide) Tryz.underlying5) _ _ _ t1
  exact ⟨⟨a0, a1⟩, [u0], [u1], rfl, h0, h1⟩
set_option maxRecDepth 100000 in
theorem opens_ins : Opens enc W held insK 26 := by
  intro fuel cs x h
  obtain ⟨xs, n2, _, _, hl, hlen, hf⟩ := DataW.trod_struct Tryz.underlying26 h
  obtain ⟨u0, u1, u2, u3, rfl⟩ := list4 cs (hl.trans (by kernel_rfl))
  obtain ⟨y0, y1, y2, y3, rfl⟩ := list4 xs hlen
  have t0 : DataW.trod enc Tryz.prog W 0 (fun _ => true) held n2 23 [u0] = some y0 := hf 0 _ rfl
  obtain ⟨a0, h0⟩ := (opens_nat .u64 8 18446744073709551615 (by decide) Tryz.underlying23) _ _ _ t0
  have t1 : DataW.trod enc Tryz.prog W 0 (fun _ => true) held n2 3 [u1] = some y1 := hf 1 _ rfl
  obtain ⟨a1, h1⟩ := (opens_int 1 63 Tryz.underlying3) _ _ _ t1
  have t2 : DataW.trod enc Tryz.prog W 0 (fun _ => true) held n2 3 [u2] = some y2 := hf 2 _ rfl
  obtain ⟨a2, h2⟩ := (opens_int 1 3 Tryz.underlying3) _ _ _ t2
  have t3 : DataW.trod enc Tryz.prog W 0 (fun _ => true) held n2 24 [u3] = some y3 := hf 3 _ rfl
  obtain ⟨a3, h3⟩ := (opens_nat .u32 4 4294967295 (by decide) Tryz.underlying24) _ _ _ t3
  exact ⟨⟨a0, a1, a2, a3⟩, [u0], [u1], [u2], [u3], rfl, h0, h1, h2, h3⟩
set_option maxRecDepth 100000 in
theorem opens_ans : Opens enc W held ansK 38 := by
  intro fuel cs x h
  obtain ⟨xs, n2, _, _, hl, hlen, hf⟩ := DataW.trod_struct Tryz.underlying38 h
  obtain ⟨u0, u1, u2, u3, rfl⟩ := list4 cs (hl.trans (by kernel_rfl))
  obtain ⟨y0, y1, y2, y3, rfl⟩ := list4 xs hlen
  have t0 : DataW.trod enc Tryz.prog W 0 (fun _ => true) held n2 24 [u0] = some y0 := hf 0 _ rfl
  obtain ⟨a0, h0⟩ := (opens_nat .u32 4 4294967295 (by decide) Tryz.underlying24) _ _ _ t0
  have t1 : DataW.trod enc Tryz.prog W 0 (fun _ => true) held n2 24 [u1] = some y1 := hf 1 _ rfl
  obtain ⟨a1, h1⟩ := (opens_nat .u32 4 4294967295 (by decide) Tryz.underlying24) _ _ _ t1
  have t2 : DataW.trod enc Tryz.prog W 0 (fun _ => true) held n2 24 [u2] = some y2 := hf 2 _ rfl
  obtain ⟨a2, h2⟩ := (opens_nat .u32 4 4294967295 (by decide) Tryz.underlying24) _ _ _ t2
  have t3 : DataW.trod enc Tryz.prog W 0 (fun _ => true) held n2 36 [u3] = some y3 := hf 3 _ rfl
  obtain ⟨a3, h3⟩ := (opens_list 8 Tryz.underlying36 (by kernel_rfl) (opens_ent)) _ _ _ t3
  exact ⟨⟨a0, a1, a2, a3⟩, [u0], [u1], [u2], [u3], rfl, h0, h1, h2, h3⟩
set_option maxRecDepth 100000 in
theorem opens_itm : Opens enc W held itmK 187 := by
  intro fuel cs x h
  obtain ⟨xs, n2, _, _, hl, hlen, hf⟩ := DataW.trod_struct Tryz.underlying187 h
  obtain ⟨u0, u1, u2, u3, u4, u5, u6, u7, rfl⟩ := list8 cs (hl.trans (by kernel_rfl))
  obtain ⟨y0, y1, y2, y3, y4, rfl⟩ := list5 xs hlen
  have t0 : DataW.trod enc Tryz.prog W 0 (fun _ => true) held n2 3 [u0] = some y0 := hf 0 _ rfl
  obtain ⟨a0, h0⟩ := (opens_int 1 63 Tryz.underlying3) _ _ _ t0
  have t1 : DataW.trod enc Tryz.prog W 0 (fun _ => true) held n2 24 [u1] = some y1 := hf 1 _ rfl
  obtain ⟨a1, h1⟩ := (opens_nat .u32 4 4294967295 (by decide) Tryz.underlying24) _ _ _ t1
  have t2 : DataW.trod enc Tryz.prog W 0 (fun _ => true) held n2 4 [u2] = some y2 := hf 2 _ rfl
  obtain ⟨a2, h2⟩ := (opens_flag Tryz.underlying4) _ _ _ t2
  have t3 : DataW.trod enc Tryz.prog W 0 (fun _ => true) held n2 36 [u3] = some y3 := hf 3 _ rfl
  obtain ⟨a3, h3⟩ := (opens_list 8 Tryz.underlying36 (by kernel_rfl) (opens_ent)) _ _ _ t3
  have t4 : DataW.trod enc Tryz.prog W 0 (fun _ => true) held n2 41 [u4, u5, u6, u7] = some y4 := hf 4 _ rfl
  obtain ⟨a4, h4⟩ := (opens_incs) _ _ _ t4
  exact ⟨⟨a0, a1, a2, a3, a4⟩, [u0], [u1], [u2], [u3], [u4, u5, u6, u7], rfl, h0, h1, h2, h3, h4⟩
set_option maxRecDepth 100000 in
theorem opens_tx : Opens enc W held txK 34 := by
  intro fuel cs x h
  obtain ⟨xs, n2, _, _, hl, hlen, hf⟩ := DataW.trod_struct Tryz.underlying34 h
  obtain ⟨u0, u1, u2, u3, u4, u5, rfl⟩ := list6 cs (hl.trans (by kernel_rfl))
  obtain ⟨y0, y1, y2, y3, rfl⟩ := list4 xs hlen
  have t0 : DataW.trod enc Tryz.prog W 0 (fun _ => true) held n2 23 [u0] = some y0 := hf 0 _ rfl
  obtain ⟨a0, h0⟩ := (opens_nat .u64 8 18446744073709551615 (by decide) Tryz.underlying23) _ _ _ t0
  have t1 : DataW.trod enc Tryz.prog W 0 (fun _ => true) held n2 3 [u1] = some y1 := hf 1 _ rfl
  obtain ⟨a1, h1⟩ := (opens_int 4 2147483647 Tryz.underlying3) _ _ _ t1
  have t2 : DataW.trod enc Tryz.prog W 0 (fun _ => true) held n2 31 [u2, u3, u4] = some y2 := hf 2 _ rfl
  obtain ⟨a2, h2⟩ := (opens_mans) _ _ _ t2
  have t3 : DataW.trod enc Tryz.prog W 0 (fun _ => true) held n2 32 [u5] = some y3 := hf 3 _ rfl
  obtain ⟨a3, h3⟩ := (opens_list 8 Tryz.underlying32 (by kernel_rfl) (opens_itm)) _ _ _ t3
  exact ⟨⟨a0, a1, a2, a3⟩, [u0], [u1], [u2, u3, u4], [u5], rfl, h0, h1, h2, h3⟩
set_option maxRecDepth 100000 in
theorem opens_lck : Opens enc W held lckK 189 := by
  intro fuel cs x h
  obtain ⟨xs, n2, _, _, hl, hlen, hf⟩ := DataW.trod_struct Tryz.underlying189 h
  obtain ⟨u0, u1, u2, u3, u4, u5, u6, u7, u8, u9, u10, u11, rfl⟩ := list12 cs (hl.trans (by kernel_rfl))
  obtain ⟨y0, y1, y2, rfl⟩ := list3 xs hlen
  have t0 : DataW.trod enc Tryz.prog W 0 (fun _ => true) held n2 23 [u0] = some y0 := hf 0 _ rfl
  obtain ⟨a0, h0⟩ := (opens_nat .u64 8 18446744073709551615 (by decide) Tryz.underlying23) _ _ _ t0
  have t1 : DataW.trod enc Tryz.prog W 0 (fun _ => true) held n2 31 [u1, u2, u3] = some y1 := hf 1 _ rfl
  obtain ⟨a1, h1⟩ := (opens_mans) _ _ _ t1
  have t2 : DataW.trod enc Tryz.prog W 0 (fun _ => true) held n2 187 [u4, u5, u6, u7, u8, u9, u10, u11] = some y2 := hf 2 _ rfl
  obtain ⟨a2, h2⟩ := (opens_itm) _ _ _ t2
  exact ⟨⟨a0, a1, a2⟩, [u0], [u1, u2, u3], [u4, u5, u6, u7, u8, u9, u10, u11], rfl, h0, h1, h2⟩
set_option maxRecDepth 100000 in
theorem opens_cpy : Opens enc W held cpyK 44 := by
  intro fuel cs x h
  obtain ⟨xs, n2, _, _, hl, hlen, hf⟩ := DataW.trod_struct Tryz.underlying44 h
  obtain ⟨u0, u1, u2, u3, u4, u5, u6, u7, u8, u9, rfl⟩ := list10 cs (hl.trans (by kernel_rfl))
  obtain ⟨y0, y1, y2, y3, y4, y5, y6, rfl⟩ := list7 xs hlen
  have t0 : DataW.trod enc Tryz.prog W 0 (fun _ => true) held n2 39 [u0] = some y0 := hf 0 _ rfl
  obtain ⟨a0, h0⟩ := (opens_int 1 2 Tryz.underlying39) _ _ _ t0
  have t1 : DataW.trod enc Tryz.prog W 0 (fun _ => true) held n2 24 [u1] = some y1 := hf 1 _ rfl
  obtain ⟨a1, h1⟩ := (opens_nat .u32 4 4294967295 (by decide) Tryz.underlying24) _ _ _ t1
  have t2 : DataW.trod enc Tryz.prog W 0 (fun _ => true) held n2 24 [u2] = some y2 := hf 2 _ rfl
  obtain ⟨a2, h2⟩ := (opens_nat .u32 4 4294967295 (by decide) Tryz.underlying24) _ _ _ t2
  have t3 : DataW.trod enc Tryz.prog W 0 (fun _ => true) held n2 36 [u3] = some y3 := hf 3 _ rfl
  obtain ⟨a3, h3⟩ := (opens_list 8 Tryz.underlying36 (by kernel_rfl) (opens_ent)) _ _ _ t3
  have t4 : DataW.trod enc Tryz.prog W 0 (fun _ => true) held n2 40 [u4] = some y4 := hf 4 _ rfl
  obtain ⟨a4, h4⟩ := (opens_list 64 Tryz.underlying40 (by kernel_rfl) (opens_lck)) _ _ _ t4
  have t5 : DataW.trod enc Tryz.prog W 0 (fun _ => true) held n2 41 [u5, u6, u7, u8] = some y5 := hf 5 _ rfl
  obtain ⟨a5, h5⟩ := (opens_incs) _ _ _ t5
  have t6 : DataW.trod enc Tryz.prog W 0 (fun _ => true) held n2 42 [u9] = some y6 := hf 6 _ rfl
  obtain ⟨a6, h6⟩ := (opens_list 64 Tryz.underlying42 (by kernel_rfl) (opens_vtd)) _ _ _ t6
  exact ⟨⟨a0, a1, a2, a3, a4, a5, a6⟩, [u0], [u1], [u2], [u3], [u4], [u5, u6, u7, u8], [u9], rfl, h0, h1, h2, h3, h4, h5, h6⟩
set_option maxRecDepth 100000 in
theorem opens_acc : Opens enc W held accK 30 := by
  intro fuel cs x h
  obtain ⟨xs, n2, _, _, hl, hlen, hf⟩ := DataW.trod_struct Tryz.underlying30 h
  obtain ⟨u0, u1, u2, u3, rfl⟩ := list4 cs (hl.trans (by kernel_rfl))
  obtain ⟨y0, y1, y2, rfl⟩ := list3 xs hlen
  have t0 : DataW.trod enc Tryz.prog W 0 (fun _ => true) held n2 4 [u0] = some y0 := hf 0 _ rfl
  obtain ⟨a0, h0⟩ := (opens_flag Tryz.underlying4) _ _ _ t0
  have t1 : DataW.trod enc Tryz.prog W 0 (fun _ => true) held n2 28 [u1, u2] = some y1 := hf 1 _ rfl
  obtain ⟨a1, h1⟩ := (opens_bal) _ _ _ t1
  have t2 : DataW.trod enc Tryz.prog W 0 (fun _ => true) held n2 9 [u3] = some y2 := hf 2 _ rfl
  obtain ⟨a2, h2⟩ := (opens_text 64 Tryz.underlying9) _ _ _ t2
  exact ⟨⟨a0, a1, a2⟩, [u0], [u1, u2], [u3], rfl, h0, h1, h2⟩
/-- the parts lie in these cells -/
def SlIn (w : World) (N : Nat → Prop) (cs : List Value) : List Slot → Prop
  | [] => True
  | s :: L => s.p w N ((cs.drop s.off).take s.sz) ∧ SlIn w N cs L
theorem SlIn.slots {w w' : World} {N P : Nat → Prop} {cs : List Value} {g : Nat} (hs : Safe P w w') (hN : ∀ b, N b → P b) (hc : ∀ j u, cs[j]? = some u → w'.cell? ⟨g, j, none⟩ = some u) : ∀ {L : List Slot}, SlIn w N cs L → AllFine L → Slots w' N g 0 L
  | [], _, _ => trivial
  | s :: L, h, hf => ⟨⟨_, hf.1.safe _ _ _ _ _ h.1 hs hN, fun j u hu => by
      rw [Nat.zero_add]
      rw [List.getElem?_take] at hu
      split at hu
      · rw [List.getElem?_drop] at hu; exact hc _ _ hu
      · cases hu⟩, SlIn.slots hs hN hc h.2 hf.2⟩
/-- the blocks that were there -/
abbrev Old (W : World) : Nat → Prop := fun b => b < W.heap.size
set_option maxRecDepth 100000 in
set_option maxHeartbeats 2000000 in
theorem msg_open {fuel : Nat} {cs : List Value} {x : DataW H × List MemPlace} (h : DataW.trod enc Tryz.prog W 0 (fun _ => true) held fuel 52 cs = some x) :
    ∃ m : Ms, I64 m.kind ∧ cs[0]? = some (.int .i64 m.kind) ∧ cs.length = 49 ∧ SlIn W (Old W) cs (slotsOf m) := by
  obtain ⟨xs, n2, _, _, hl, hlen, hf⟩ := DataW.trod_struct Tryz.underlying52 h
  have hl2 : cs.length = 49 := hl.trans (by kernel_rfl)
  have hlt : ∀ i, i < 23 → i < xs.length := fun i hi => by rw [hlen]; exact hi
  have t0 : DataW.trod enc Tryz.prog W 0 (fun _ => true) held n2 22 ((cs.drop 0).take (Tryz.prog.cellsOf 22)) = some (xs[0]'(hlt 0 (by decide))) := (hf 0 _ rfl).trans (List.getElem?_eq_getElem (hlt 0 (by decide)))
  rw [show Tryz.prog.cellsOf 22 = 1 by kernel_rfl] at t0
  obtain ⟨a0, h0⟩ := (show Opens enc W held (intK 8 0) 22 from opens_int 8 0 Tryz.underlying22) _ _ _ t0
  have t1 : DataW.trod enc Tryz.prog W 0 (fun _ => true) held n2 3 ((cs.drop 1).take (Tryz.prog.cellsOf 3)) = some (xs[1]'(hlt 1 (by decide))) := (hf 1 _ rfl).trans (List.getElem?_eq_getElem (hlt 1 (by decide)))
  rw [show Tryz.prog.cellsOf 3 = 1 by kernel_rfl] at t1
  obtain ⟨a1, h1⟩ := (show Opens enc W held (intK 1 255) 3 from opens_int 1 255 Tryz.underlying3) _ _ _ t1
  have t2 : DataW.trod enc Tryz.prog W 0 (fun _ => true) held n2 3 ((cs.drop 2).take (Tryz.prog.cellsOf 3)) = some (xs[2]'(hlt 2 (by decide))) := (hf 2 _ rfl).trans (List.getElem?_eq_getElem (hlt 2 (by decide)))
  rw [show Tryz.prog.cellsOf 3 = 1 by kernel_rfl] at t2
  obtain ⟨a2, h2⟩ := (show Opens enc W held (intK 1 255) 3 from opens_int 1 255 Tryz.underlying3) _ _ _ t2
  have t3 : DataW.trod enc Tryz.prog W 0 (fun _ => true) held n2 26 ((cs.drop 3).take (Tryz.prog.cellsOf 26)) = some (xs[3]'(hlt 3 (by decide))) := (hf 3 _ rfl).trans (List.getElem?_eq_getElem (hlt 3 (by decide)))
  rw [show Tryz.prog.cellsOf 26 = 4 by kernel_rfl] at t3
  obtain ⟨a3, h3⟩ := (show Opens enc W held insK 26 from opens_ins) _ _ _ t3
  have t4 : DataW.trod enc Tryz.prog W 0 (fun _ => true) held n2 28 ((cs.drop 7).take (Tryz.prog.cellsOf 28)) = some (xs[4]'(hlt 4 (by decide))) := (hf 4 _ rfl).trans (List.getElem?_eq_getElem (hlt 4 (by decide)))
  rw [show Tryz.prog.cellsOf 28 = 2 by kernel_rfl] at t4
  obtain ⟨a4, h4⟩ := (show Opens enc W held balK 28 from opens_bal) _ _ _ t4
  have t5 : DataW.trod enc Tryz.prog W 0 (fun _ => true) held n2 30 ((cs.drop 9).take (Tryz.prog.cellsOf 30)) = some (xs[5]'(hlt 5 (by decide))) := (hf 5 _ rfl).trans (List.getElem?_eq_getElem (hlt 5 (by decide)))
  rw [show Tryz.prog.cellsOf 30 = 4 by kernel_rfl] at t5
  obtain ⟨a5, h5⟩ := (show Opens enc W held accK 30 from opens_acc) _ _ _ t5
  have t6 : DataW.trod enc Tryz.prog W 0 (fun _ => true) held n2 9 ((cs.drop 13).take (Tryz.prog.cellsOf 9)) = some (xs[6]'(hlt 6 (by decide))) := (hf 6 _ rfl).trans (List.getElem?_eq_getElem (hlt 6 (by decide)))
  rw [show Tryz.prog.cellsOf 9 = 1 by kernel_rfl] at t6
  obtain ⟨a6, h6⟩ := (show Opens enc W held (textK 64) 9 from opens_text 64 Tryz.underlying9) _ _ _ t6
  have t7 : DataW.trod enc Tryz.prog W 0 (fun _ => true) held n2 34 ((cs.drop 14).take (Tryz.prog.cellsOf 34)) = some (xs[7]'(hlt 7 (by decide))) := (hf 7 _ rfl).trans (List.getElem?_eq_getElem (hlt 7 (by decide)))
  rw [show Tryz.prog.cellsOf 34 = 6 by kernel_rfl] at t7
  obtain ⟨a7, h7⟩ := (show Opens enc W held txK 34 from opens_tx) _ _ _ t7
  have t8 : DataW.trod enc Tryz.prog W 0 (fun _ => true) held n2 23 ((cs.drop 20).take (Tryz.prog.cellsOf 23)) = some (xs[8]'(hlt 8 (by decide))) := (hf 8 _ rfl).trans (List.getElem?_eq_getElem (hlt 8 (by decide)))
  rw [show Tryz.prog.cellsOf 23 = 1 by kernel_rfl] at t8
  obtain ⟨a8, h8⟩ := (show Opens enc W held (natK .u64 8 18446744073709551615) 23 from opens_nat .u64 8 18446744073709551615 (by decide) Tryz.underlying23) _ _ _ t8
  have t9 : DataW.trod enc Tryz.prog W 0 (fun _ => true) held n2 24 ((cs.drop 21).take (Tryz.prog.cellsOf 24)) = some (xs[9]'(hlt 9 (by decide))) := (hf 9 _ rfl).trans (List.getElem?_eq_getElem (hlt 9 (by decide)))
  rw [show Tryz.prog.cellsOf 24 = 1 by kernel_rfl] at t9
  obtain ⟨a9, h9⟩ := (show Opens enc W held (natK .u32 4 4294967295) 24 from opens_nat .u32 4 4294967295 (by decide) Tryz.underlying24) _ _ _ t9
  have t10 : DataW.trod enc Tryz.prog W 0 (fun _ => true) held n2 24 ((cs.drop 22).take (Tryz.prog.cellsOf 24)) = some (xs[10]'(hlt 10 (by decide))) := (hf 10 _ rfl).trans (List.getElem?_eq_getElem (hlt 10 (by decide)))
  rw [show Tryz.prog.cellsOf 24 = 1 by kernel_rfl] at t10
  obtain ⟨a10, h10⟩ := (show Opens enc W held (natK .u32 4 4294967295) 24 from opens_nat .u32 4 4294967295 (by decide) Tryz.underlying24) _ _ _ t10
  have t11 : DataW.trod enc Tryz.prog W 0 (fun _ => true) held n2 3 ((cs.drop 23).take (Tryz.prog.cellsOf 3)) = some (xs[11]'(hlt 11 (by decide))) := (hf 11 _ rfl).trans (List.getElem?_eq_getElem (hlt 11 (by decide)))
  rw [show Tryz.prog.cellsOf 3 = 1 by kernel_rfl] at t11
  obtain ⟨a11, h11⟩ := (show Opens enc W held (intK 1 63) 3 from opens_int 1 63 Tryz.underlying3) _ _ _ t11
  have t12 : DataW.trod enc Tryz.prog W 0 (fun _ => true) held n2 3 ((cs.drop 24).take (Tryz.prog.cellsOf 3)) = some (xs[12]'(hlt 12 (by decide))) := (hf 12 _ rfl).trans (List.getElem?_eq_getElem (hlt 12 (by decide)))
  rw [show Tryz.prog.cellsOf 3 = 1 by kernel_rfl] at t12
  obtain ⟨a12, h12⟩ := (show Opens enc W held (intK 1 3) 3 from opens_int 1 3 Tryz.underlying3) _ _ _ t12
  have t13 : DataW.trod enc Tryz.prog W 0 (fun _ => true) held n2 3 ((cs.drop 25).take (Tryz.prog.cellsOf 3)) = some (xs[13]'(hlt 13 (by decide))) := (hf 13 _ rfl).trans (List.getElem?_eq_getElem (hlt 13 (by decide)))
  rw [show Tryz.prog.cellsOf 3 = 1 by kernel_rfl] at t13
  obtain ⟨a13, h13⟩ := (show Opens enc W held (intK 1 255) 3 from opens_int 1 255 Tryz.underlying3) _ _ _ t13
  have t14 : DataW.trod enc Tryz.prog W 0 (fun _ => true) held n2 24 ((cs.drop 26).take (Tryz.prog.cellsOf 24)) = some (xs[14]'(hlt 14 (by decide))) := (hf 14 _ rfl).trans (List.getElem?_eq_getElem (hlt 14 (by decide)))
  rw [show Tryz.prog.cellsOf 24 = 1 by kernel_rfl] at t14
  obtain ⟨a14, h14⟩ := (show Opens enc W held (natK .u32 4 4294967295) 24 from opens_nat .u32 4 4294967295 (by decide) Tryz.underlying24) _ _ _ t14
  have t15 : DataW.trod enc Tryz.prog W 0 (fun _ => true) held n2 35 ((cs.drop 27).take (Tryz.prog.cellsOf 35)) = some (xs[15]'(hlt 15 (by decide))) := (hf 15 _ rfl).trans (List.getElem?_eq_getElem (hlt 15 (by decide)))
  rw [show Tryz.prog.cellsOf 35 = 1 by kernel_rfl] at t15
  obtain ⟨a15, h15⟩ := (show Opens enc W held (intK 1 2) 35 from opens_int 1 2 Tryz.underlying35) _ _ _ t15
  have t16 : DataW.trod enc Tryz.prog W 0 (fun _ => true) held n2 38 ((cs.drop 28).take (Tryz.prog.cellsOf 38)) = some (xs[16]'(hlt 16 (by decide))) := (hf 16 _ rfl).trans (List.getElem?_eq_getElem (hlt 16 (by decide)))
  rw [show Tryz.prog.cellsOf 38 = 4 by kernel_rfl] at t16
  obtain ⟨a16, h16⟩ := (show Opens enc W held ansK 38 from opens_ans) _ _ _ t16
  have t17 : DataW.trod enc Tryz.prog W 0 (fun _ => true) held n2 44 ((cs.drop 32).take (Tryz.prog.cellsOf 44)) = some (xs[17]'(hlt 17 (by decide))) := (hf 17 _ rfl).trans (List.getElem?_eq_getElem (hlt 17 (by decide)))
  rw [show Tryz.prog.cellsOf 44 = 10 by kernel_rfl] at t17
  obtain ⟨a17, h17⟩ := (show Opens enc W held cpyK 44 from opens_cpy) _ _ _ t17
  have t18 : DataW.trod enc Tryz.prog W 0 (fun _ => true) held n2 46 ((cs.drop 42).take (Tryz.prog.cellsOf 46)) = some (xs[18]'(hlt 18 (by decide))) := (hf 18 _ rfl).trans (List.getElem?_eq_getElem (hlt 18 (by decide)))
  rw [show Tryz.prog.cellsOf 46 = 2 by kernel_rfl] at t18
  obtain ⟨a18, h18⟩ := (show Opens enc W held arcK 46 from opens_arc) _ _ _ t18
  have t19 : DataW.trod enc Tryz.prog W 0 (fun _ => true) held n2 47 ((cs.drop 44).take (Tryz.prog.cellsOf 47)) = some (xs[19]'(hlt 19 (by decide))) := (hf 19 _ rfl).trans (List.getElem?_eq_getElem (hlt 19 (by decide)))
  rw [show Tryz.prog.cellsOf 47 = 1 by kernel_rfl] at t19
  obtain ⟨a19, h19⟩ := (show Opens enc W held (listK cpyK 64) 47 from opens_list 64 Tryz.underlying47 (by kernel_rfl) (opens_cpy)) _ _ _ t19
  have t20 : DataW.trod enc Tryz.prog W 0 (fun _ => true) held n2 49 ((cs.drop 45).take (Tryz.prog.cellsOf 49)) = some (xs[20]'(hlt 20 (by decide))) := (hf 20 _ rfl).trans (List.getElem?_eq_getElem (hlt 20 (by decide)))
  rw [show Tryz.prog.cellsOf 49 = 2 by kernel_rfl] at t20
  obtain ⟨a20, h20⟩ := (show Opens enc W held posK 49 from opens_pos) _ _ _ t20
  have t21 : DataW.trod enc Tryz.prog W 0 (fun _ => true) held n2 3 ((cs.drop 47).take (Tryz.prog.cellsOf 3)) = some (xs[21]'(hlt 21 (by decide))) := (hf 21 _ rfl).trans (List.getElem?_eq_getElem (hlt 21 (by decide)))
  rw [show Tryz.prog.cellsOf 3 = 1 by kernel_rfl] at t21
  obtain ⟨a21, h21⟩ := (show Opens enc W held (intK 1 255) 3 from opens_int 1 255 Tryz.underlying3) _ _ _ t21
  have t22 : DataW.trod enc Tryz.prog W 0 (fun _ => true) held n2 50 ((cs.drop 48).take (Tryz.prog.cellsOf 50)) = some (xs[22]'(hlt 22 (by decide))) := (hf 22 _ rfl).trans (List.getElem?_eq_getElem (hlt 22 (by decide)))
  rw [show Tryz.prog.cellsOf 50 = 1 by kernel_rfl] at t22
  obtain ⟨a22, h22⟩ := (show Opens enc W held (listK perK 32) 50 from opens_list 32 Tryz.underlying50 (by kernel_rfl) (opens_per)) _ _ _ t22
  have e0 := h0.1
  refine ⟨⟨a0, a1, a2, a3, a4, a5, a6, a7, a8, a9, a10, a11, a12, a13, a14, a15, a16, a17, a18, a19, a20, a21, a22⟩, h0.2, ?_, hl2, h0, h1, h2, h3, h4, h5, h6, h7, h8, h9, h10, h11, h12, h13, h14, h15, h16, h17, h18, h19, h20, h21, h22, trivial⟩
  have := congrArg (fun l => l[0]?) e0
  simpa [List.getElem?_take] using this
end
end Go.Proofs.YtngcbpgafjnfaaaGreatDoor
