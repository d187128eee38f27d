/- A message that came in, by its reading (gen_open.py). A message's cells, laid out (gen_same.py). -/
import Derived.Test.YtngcbpgafjnfaaaGreatDoorLoB16
import Derived.SizedLaws
import Derived.DataReads
import Derived.MakeChecks
import Derived.Deep.Slices
import Derived.Deep.SlicePairs
import Derived.Deep.Strs
import Derived.Lib.SmallJoins
import Derived.Laws.IdiomArrays
import Derived.Test.YtngcbpgafjnfaaaGreatDoorLoB27
set_option linter.unusedSimpArgs false
set_option linter.unusedVariables false

namespace Go.Proofs.YtngcbpgafjnfaaaGreatDoor
open Go.ChangeShapes Go.WideShapes Go.ChangeAt Go.RowKit Go.Deep
set_option linter.unusedVariables false

theorem cells_each2 {w : World} {base : Nat} {a : Addr} {n : Nat} {cs : List Value} (h : w.cells? base a n = some cs) : cs.length = n ∧ ∀ i, i < n → w.cell? (a.add i) = cs[i]? := by
  unfold World.cells? at h
  split at h
  · constructor
    · have := Lib.mapM_length h; simpa using this
    · intro i hi
      obtain ⟨b, hb, hf⟩ := Lib.mapM_at h i i (by simp [hi])
      rw [hf, hb]
  · cases h
theorem add_zero2 (a : Addr) : a.add 0 = a := by unfold Addr.add; split <;> simp_all
theorem no_spot2 {a : Addr} {w : World} {v : Value} (h : w.cell? a = some v) : ∃ g o, a = ⟨g, o, none⟩ := by
  obtain ⟨b, off, spot⟩ := a
  have hspot : spot = none := by simpa using World.cell?_spot h
  subst hspot
  exact ⟨b, off, rfl⟩

section
variable {H : Type} {enc : TypeId × Value → H} {W : World} {held : Bool}
/-- whatever reads at type t is of kind k, in blocks that are there -/
def Opens {α : Type} (enc : TypeId × Value → H) (W : World) (held : Bool) (k : Kd α) (t : TypeId) : Prop :=
  ∀ (fuel : Nat) (cs : List Value) (x : DataW H × List MemPlace), DataW.trod enc Tryz.prog W 0 (fun _ => true) held fuel t cs = some x → ∃ a, k.is W (fun b => b < W.heap.size) cs a
theorem opens_int (s m : Nat) {t : TypeId} (ht : Tryz.prog.underlying t = some (.int .i64)) : Opens enc W held (intK s m) t := by
  intro fuel cs x h
  obtain ⟨v, e, _, wv⟩ := DataW.trod_int ht h
  exact ⟨v, e, by have := bounds_i64 wv; unfold I64; omega⟩
theorem opens_nat (k : IntKind) (s m : Nat) (hk : k.min = 0) {t : TypeId} (ht : Tryz.prog.underlying t = some (.int k)) : Opens enc W held (natK k s m) t := by
  intro fuel cs x h
  obtain ⟨v, e, _, wv⟩ := DataW.trod_int ht h
  have h2 : k.min ≤ v ∧ v ≤ k.max := by simpa [Lit.wf] using wv
  obtain ⟨n, rfl⟩ : ∃ n : Nat, v = (n : Int) := ⟨v.toNat, by omega⟩
  exact ⟨n, e, h2.2⟩
theorem opens_flag {t : TypeId} (ht : Tryz.prog.underlying t = some .bool) : Opens enc W held flagK t := by
  intro fuel cs x h
  obtain ⟨b, e, _⟩ := DataW.trod_bool ht h
  exact ⟨b, e⟩
theorem opens_text (m : Nat) {t : TypeId} (ht : Tryz.prog.underlying t = some .string) : Opens enc W held (textK m) t := by
  intro fuel cs x h
  obtain ⟨s, e, _, hs⟩ := DataW.trod_string ht h
  exact ⟨s, e, hs⟩
theorem opens_mans : Opens enc W held mansK 31 := by
  intro fuel cs x h
  obtain ⟨xs, m, _, _, hl, _⟩ := DataW.trod_array Tryz.underlying31 h
  obtain ⟨c0, c1, c2, rfl⟩ := list3 cs (hl.trans (by kernel_rfl))
  obtain ⟨y0, y1, y2, n, _, t0, t1, t2⟩ := trod_array3 Tryz.underlying31 (by kernel_rfl) h
  obtain ⟨v0, e0, _, w0⟩ := DataW.trod_int Tryz.underlying3 t0
  obtain ⟨v1, e1, _, w1⟩ := DataW.trod_int Tryz.underlying3 t1
  obtain ⟨v2, e2, _, w2⟩ := DataW.trod_int Tryz.underlying3 t2
  simp only [List.cons.injEq, and_true] at e0 e1 e2
  subst e0 e1 e2
  refine ⟨[v0, v1, v2], rfl, rfl, fun x hx => ?_⟩
  have b0 := bounds_i64 w0; have b1 := bounds_i64 w1; have b2 := bounds_i64 w2
  simp at hx
  unfold I64
  rcases hx with rfl | rfl | rfl <;> omega
theorem opens_incs : Opens enc W held incsK 41 := by
  intro fuel cs x h
  obtain ⟨xs, m, _, _, hl, _⟩ := DataW.trod_array Tryz.underlying41 h
  obtain ⟨c0, c1, c2, c3, rfl⟩ := list4 cs (hl.trans (by kernel_rfl))
  obtain ⟨y0, y1, y2, y3, n, _, t0, t1, t2, t3⟩ := trod_array4 Tryz.underlying41 (by kernel_rfl) h
  obtain ⟨v0, e0, _, w0⟩ := DataW.trod_int Tryz.underlying24 t0
  obtain ⟨v1, e1, _, w1⟩ := DataW.trod_int Tryz.underlying24 t1
  obtain ⟨v2, e2, _, w2⟩ := DataW.trod_int Tryz.underlying24 t2
  obtain ⟨v3, e3, _, w3⟩ := DataW.trod_int Tryz.underlying24 t3
  simp only [List.cons.injEq, and_true] at e0 e1 e2 e3
  subst e0 e1 e2 e3
  have b0 : (IntKind.u32).min ≤ v0 ∧ v0 ≤ IntKind.u32.max := by simpa [Lit.wf] using w0
  have b1 : (IntKind.u32).min ≤ v1 ∧ v1 ≤ IntKind.u32.max := by simpa [Lit.wf] using w1
  have b2 : (IntKind.u32).min ≤ v2 ∧ v2 ≤ IntKind.u32.max := by simpa [Lit.wf] using w2
  have b3 : (IntKind.u32).min ≤ v3 ∧ v3 ≤ IntKind.u32.max := by simpa [Lit.wf] using w3
  have hm : IntKind.u32.min = 0 := by decide
  obtain ⟨n0, rfl⟩ : ∃ n : Nat, v0 = (n : Int) := ⟨v0.toNat, by omega⟩
  obtain ⟨n1, rfl⟩ : ∃ n : Nat, v1 = (n : Int) := ⟨v1.toNat, by omega⟩
  obtain ⟨n2, rfl⟩ : ∃ n : Nat, v2 = (n : Int) := ⟨v2.toNat, by omega⟩
  obtain ⟨n3, rfl⟩ : ∃ n : Nat, v3 = (n : Int) := ⟨v3.toNat, by omega⟩
  refine ⟨[n0, n1, n2, n3], rfl, rfl, fun x hx => ?_⟩
  simp at hx
  rcases hx with rfl | rfl | rfl | rfl
  · exact b0.2
  · exact b1.2
  · exact b2.2
  · exact b3.2
theorem opens_list {α : Type} {k : Kd α} (max : Nat) {t e : TypeId} (ht : Tryz.prog.underlying t = some (.slice e)) (hz : Tryz.prog.cellsOf e = k.sz) (hk : Opens enc W held k e) (hpos : 0 < k.sz := by decide) : Opens enc W held (listK k max) t := by
  intro fuel cs x h
  rcases open_slice ht h with ⟨hcs, hx⟩ | ⟨a, len, cap, m, f, D, Pl, hcs, hb, hl, hm, hmm, hx, hall⟩
  · exact ⟨[], none, 0, 0, hcs, rfl, Nat.le_refl _, Nat.zero_le _, fun i a hi => by simp at hi⟩
  · simp only [if_true] at hmm
    rw [hz] at hall
    by_cases h0 : len = 0
    · subst h0
      exact ⟨[], some a, 0, cap, hcs, rfl, Nat.zero_le _, hm, fun i a hi => by simp at hi⟩
    · obtain ⟨g, o, rfl⟩ : ∃ g o, a = ⟨g, o, none⟩ := by
        obtain ⟨cs', h1, h2⟩ := hall 0 (by omega)
        rw [Nat.zero_mul, add_zero2] at h1
        obtain ⟨hl2, hce⟩ := cells_each2 h1
        have h7 := hce 0 hpos
        rw [add_zero2, List.getElem?_eq_getElem (by omega)] at h7
        exact no_spot2 h7
      have each : ∀ i, i < len → ∃ a cs', k.is W (fun b => b < W.heap.size) cs' a ∧ ∀ j u, cs'[j]? = some u → W.cell? ⟨g, o + i * k.sz + j, none⟩ = some u := fun i hi => by
        obtain ⟨cs', h1, h2⟩ := hall i (by omega)
        obtain ⟨hl2, hce⟩ := cells_each2 h1
        obtain ⟨a, ha⟩ := hk _ _ _ h2
        refine ⟨a, cs', ha, fun j u hu => ?_⟩
        have hj := (List.getElem?_eq_some_iff.1 hu).1
        have := hce j (by omega)
        rw [Addr.add_lit, Addr.add_lit] at this
        rw [this, hu]
      have hg : g < W.heap.size := by
        obtain ⟨cs', h1, h2⟩ := hall 0 (by omega)
        obtain ⟨hl2, hce⟩ := cells_each2 h1
        have h7 := hce 0 hpos
        rw [List.getElem?_eq_getElem (by omega), Addr.add_lit, Addr.add_lit] at h7
        exact World.block_lt_of_cell? W _ h7
      refine ⟨(List.finRange len).map fun i => Classical.choose (each i.1 i.2), some ⟨g, o, none⟩, len, cap, hcs, by simp, hl, hm, fun i a hi => ?_⟩
      rw [List.getElem?_map, Option.map_eq_some_iff] at hi
      obtain ⟨q, hq, rfl⟩ := hi
      have hlt : i < len := by have := (List.getElem?_eq_some_iff.1 hq).1; simpa using this
      have e : q = ⟨i, hlt⟩ := by
        have := (List.getElem?_eq_some_iff.1 hq).2
        rw [← this]
        simp
      subst e
      obtain ⟨cs', h1, h2⟩ := Classical.choose_spec (each i hlt)
      exact ⟨g, o, cs', rfl, hg, h1, h2⟩
set_option maxRecDepth 100000 in
theorem opens_ent : Opens enc W held entK 193 := by
  intro fuel cs x h
  obtain ⟨xs, n2, _, _, hl, hlen, hf⟩ := DataW.trod_struct Tryz.underlying193 h
  obtain ⟨u0, u1, rfl⟩ := list2 cs (hl.trans (by kernel_rfl))
  obtain ⟨y0, y1, rfl⟩ := list2 xs hlen
  have t0 : DataW.trod enc Tryz.prog W 0 (fun _ => true) held n2 9 [u0] = some y0 := hf 0 _ rfl
  obtain ⟨a0, h0⟩ := (opens_text 32 Tryz.underlying9) _ _ _ t0
  have t1 : DataW.trod enc Tryz.prog W 0 (fun _ => true) held n2 9 [u1] = some y1 := hf 1 _ rfl
  obtain ⟨a1, h1⟩ := (opens_text 64 Tryz.underlying9) _ _ _ t1
  exact ⟨⟨a0, a1⟩, [u0], [u1], rfl, h0, h1⟩
set_option maxRecDepth 100000 in
theorem opens_pos : Opens enc W held posK 49 := by
  intro fuel cs x h
  obtain ⟨xs, n2, _, _, hl, hlen, hf⟩ := DataW.trod_struct Tryz.underlying49 h
  obtain ⟨u0, u1, rfl⟩ := list2 cs (hl.trans (by kernel_rfl))
  obtain ⟨y0, y1, rfl⟩ := list2 xs hlen
  have t0 : DataW.trod enc Tryz.prog W 0 (fun _ => true) held n2 23 [u0] = some y0 := hf 0 _ rfl
  obtain ⟨a0, h0⟩ := (opens_nat .u64 8 18446744073709551615 (by decide) Tryz.underlying23) _ _ _ t0
  have t1 : DataW.trod enc Tryz.prog W 0 (fun _ => true) held n2 23 [u1] = some y1 := hf 1 _ rfl
  obtain ⟨a1, h1⟩ := (opens_nat .u64 8 18446744073709551615 (by decide) Tryz.underlying23) _ _ _ t1
  exact ⟨⟨a0, a1⟩, [u0], [u1], rfl, h0, h1⟩
set_option maxRecDepth 100000 in
theorem opens_per : Opens enc W held perK 135 := by
  intro fuel cs x h
  obtain ⟨xs, n2, _, _, hl, hlen, hf⟩ := DataW.trod_struct Tryz.underlying135 h
  obtain ⟨u0, u1, u2, rfl⟩ := list3 cs (hl.trans (by kernel_rfl))
  obtain ⟨y0, y1, rfl⟩ := list2 xs hlen
  have t0 : DataW.trod enc Tryz.prog W 0 (fun _ => true) held n2 3 [u0] = some y0 := hf 0 _ rfl
  obtain ⟨a0, h0⟩ := (opens_int 1 255 Tryz.underlying3) _ _ _ t0
  have t1 : DataW.trod enc Tryz.prog W 0 (fun _ => true) held n2 49 [u1, u2] = some y1 := hf 1 _ rfl
  obtain ⟨a1, h1⟩ := (opens_pos) _ _ _ t1
  exact ⟨⟨a0, a1⟩, [u0], [u1, u2], rfl, h0, h1⟩
set_option maxRecDepth 100000 in
theorem opens_arc : Opens enc W held arcK 46 := by
  intro fuel cs x h
  obtain ⟨xs, n2, _, _, hl, hlen, hf⟩ := DataW.trod_struct Tryz.underlying46 h
  obtain ⟨u0, u1, rfl⟩ := list2 cs (hl.trans (by kernel_rfl))
  obtain ⟨y0, y1, rfl⟩ := list2 xs hlen
  have t0 : DataW.trod enc Tryz.prog W 0 (fun _ => true) held n2 3 [u0] = some y0 := hf 0 _ rfl
  obtain ⟨a0, h0⟩ := (opens_int 1 63 Tryz.underlying3) _ _ _ t0
  have t1 : DataW.trod enc Tryz.prog W 0 (fun _ => true) held n2 3 [u1] = some y1 := hf 1 _ rfl
  obtain ⟨a1, h1⟩ := (opens_int 1 64 Tryz.underlying3) _ _ _ t1
  exact ⟨⟨a0, a1⟩, [u0], [u1], rfl, h0, h1⟩
set_option maxRecDepth 100000 in
theorem opens_vtd : Opens enc W held vtdK 191 := by
  intro fuel cs x h
  obtain ⟨xs, n2, _, _, hl, hlen, hf⟩ := DataW.trod_struct Tryz.underlying191 h
  obtain ⟨u0, u1, rfl⟩ := list2 cs (hl.trans (by kernel_rfl))
  obtain ⟨y0, y1, rfl⟩ := list2 xs hlen
  have t0 : DataW.trod enc Tryz.prog W 0 (fun _ => true) held n2 23 [u0] = some y0 := hf 0 _ rfl
  obtain ⟨a0, h0⟩ := (opens_nat .u64 8 18446744073709551615 (by decide) Tryz.underlying23) _ _ _ t0
  have t1 : DataW.trod enc Tryz.prog W 0 (fun _ => true) held n2 35 [u1] = some y1 := hf 1 _ rfl
  obtain ⟨a1, h1⟩ := (opens_int 1 2 Tryz.underlying35) _ _ _ t1
  exact ⟨⟨a0, a1⟩, [u0], [u1], rfl, h0, h1⟩
set_option maxRecDepth 100000 in
theorem opens_bal : Opens enc W held balK 28 := by
  intro fuel cs x h
  obtain ⟨xs, n2, _, _, hl, hlen, hf⟩ := DataW.trod_struct Tryz.underlying28 h
  obtain ⟨u0, u1, rfl⟩ := list2 cs (hl.trans (by kernel_rfl))
  obtain ⟨y0, y1, rfl⟩ := list2 xs hlen
  have t0 : DataW.trod enc Tryz.prog W 0 (fun _ => true) held n2 24 [u0] = some y0 := hf 0 _ rfl
  obtain ⟨a0, h0⟩ := (opens_nat .u32 4 4294967295 (by decide) Tryz.underlying24) _ _ _ t0
  have t1 : DataW.trod enc Tryz.prog W 0 (fun _ => true) held n2 5 [u1] = some y1 := hf 1 _ rfl
  obtain ⟨a1, h1⟩ := (opens_nat .u8 1 255 (by decide) Tryz.underlying5) _ _ _ t1
  exact ⟨⟨a0, a1⟩, [u0], [u1], rfl, h0, h1⟩
set_option maxRecDepth 100000 in
theorem opens_ins : Opens enc W held insK 26 := by
  intro fuel cs x h
  obtain ⟨xs, n2, _, _, hl, hlen, hf⟩ := DataW.trod_struct Tryz.underlying26 h
  obtain ⟨u0, u1, u2, u3, rfl⟩ := list4 cs (hl.trans (by kernel_rfl))
  obtain ⟨y0, y1, y2, y3, rfl⟩ := list4 xs hlen
  have t0 : DataW.trod enc Tryz.prog W 0 (fun _ => true) held n2 23 [u0] = some y0 := hf 0 _ rfl
  obtain ⟨a0, h0⟩ := (opens_nat .u64 8 18446744073709551615 (by decide) Tryz.underlying23) _ _ _ t0
  have t1 : DataW.trod enc Tryz.prog W 0 (fun _ => true) held n2 3 [u1] = some y1 := hf 1 _ rfl
  obtain ⟨a1, h1⟩ := (opens_int 1 63 Tryz.underlying3) _ _ _ t1
  have t2 : DataW.trod enc Tryz.prog W 0 (fun _ => true) held n2 3 [u2] = some y2 := hf 2 _ rfl
  obtain ⟨a2, h2⟩ := (opens_int 1 3 Tryz.underlying3) _ _ _ t2
  have t3 : DataW.trod enc Tryz.prog W 0 (fun _ => true) held n2 24 [u3] = some y3 := hf 3 _ rfl
  obtain ⟨a3, h3⟩ := (opens_nat .u32 4 4294967295 (by decide) Tryz.underlying24) _ _ _ t3
  exact ⟨⟨a0, a1, a2, a3⟩, [u0], [u1], [u2], [u3], rfl, h0, h1, h2, h3⟩
set_option maxRecDepth 100000 in
theorem opens_ans : Opens enc W held ansK 38 := by
  intro fuel cs x h
  obtain ⟨xs, n2, _, _, hl, hlen, hf⟩ := DataW.trod_struct Tryz.underlying38 h
  obtain ⟨u0, u1, u2, u3, rfl⟩ := list4 cs (hl.trans (by kernel_rfl))
  obtain ⟨y0, y1, y2, y3, rfl⟩ := list4 xs hlen
  have t0 : DataW.trod enc Tryz.prog W 0 (fun _ => true) held n2 24 [u0] = some y0 := hf 0 _ rfl
  obtain ⟨a0, h0⟩ := (opens_nat .u32 4 4294967295 (by decide) Tryz.underlying24) _ _ _ t0
  have t1 : DataW.trod enc Tryz.prog W 0 (fun _ => true) held n2 24 [u1] = some y1 := hf 1 _ rfl
  obtain ⟨a1, h1⟩ := (opens_nat .u32 4 4294967295 (by decide) Tryz.underlying24) _ _ _ t1
  have t2 : DataW.trod enc Tryz.prog W 0 (fun _ => true) held n2 24 [u2] = some y2 := hf 2 _ rfl
  obtain ⟨a2, h2⟩ := (opens_nat .u32 4 4294967295 (by decide) Tryz.underlying24) _ _ _ t2
  have t3 : DataW.trod enc Tryz.prog W 0 (fun _ => true) held n2 36 [u3] = some y3 := hf 3 _ rfl
  obtain ⟨a3, h3⟩ := (opens_list 8 Tryz.underlying36 (by kernel_rfl) (opens_ent)) _ _ _ t3
  exact ⟨⟨a0, a1, a2, a3⟩, [u0], [u1], [u2], [u3], rfl, h0, h1, h2, h3⟩
set_option maxRecDepth 100000 in
theorem opens_itm : Opens enc W held itmK 187 := by
  intro fuel cs x h
  obtain ⟨xs, n2, _, _, hl, hlen, hf⟩ := DataW.trod_struct Tryz.underlying187 h
  obtain ⟨u0, u1, u2, u3, u4, u5, u6, u7, rfl⟩ := list8 cs (hl.trans (by kernel_rfl))
  obtain ⟨y0, y1, y2, y3, y4, rfl⟩ := list5 xs hlen
  have t0 : DataW.trod enc Tryz.prog W 0 (fun _ => true) held n2 3 [u0] = some y0 := hf 0 _ rfl
  obtain ⟨a0, h0⟩ := (opens_int 1 63 Tryz.underlying3) _ _ _ t0
  have t1 : DataW.trod enc Tryz.prog W 0 (fun _ => true) held n2 24 [u1] = some y1 := hf 1 _ rfl
  obtain ⟨a1, h1⟩ := (opens_nat .u32 4 4294967295 (by decide) Tryz.underlying24) _ _ _ t1
  have t2 : DataW.trod enc Tryz.prog W 0 (fun _ => true) held n2 4 [u2] = some y2 := hf 2 _ rfl
  obtain ⟨a2, h2⟩ := (opens_flag Tryz.underlying4) _ _ _ t2
  have t3 : DataW.trod enc Tryz.prog W 0 (fun _ => true) held n2 36 [u3] = some y3 := hf 3 _ rfl
  obtain ⟨a3, h3⟩ := (opens_list 8 Tryz.underlying36 (by kernel_rfl) (opens_ent)) _ _ _ t3
  have t4 : DataW.trod enc Tryz.prog W 0 (fun _ => true) held n2 41 [u4, u5, u6, u7] = some y4 := hf 4 _ rfl
  obtain ⟨a4, h4⟩ := (opens_incs) _ _ _ t4
  exact ⟨⟨a0, a1, a2, a3, a4⟩, [u0], [u1], [u2], [u3], [u4, u5, u6, u7], rfl, h0, h1, h2, h3, h4⟩
set_option maxRecDepth 100000 in
theorem opens_tx : Opens enc W held txK 34 := by
  intro fuel cs x h
  obtain ⟨xs, n2, _, _, hl, hlen, hf⟩ := DataW.trod_struct Tryz.underlying34 h
  obtain ⟨u0, u1, u2, u3, u4, u5, rfl⟩ := list6 cs (hl.trans (by kernel_rfl))
  obtain ⟨y0, y1, y2, y3, rfl⟩ := list4 xs hlen
  have t0 : DataW.trod enc Tryz.prog W 0 (fun _ => true) held n2 23 [u0] = some y0 := hf 0 _ rfl
  obtain ⟨a0, h0⟩ := (opens_nat .u64 8 18446744073709551615 (by decide) Tryz.underlying23) _ _ _ t0
  have t1 : DataW.trod enc Tryz.prog W 0 (fun _ => true) held n2 3 [u1] = some y1 := hf 1 _ rfl
  obtain ⟨a1, h1⟩ := (opens_int 4 2147483647 Tryz.underlying3) _ _ _ t1
  have t2 : DataW.trod enc Tryz.prog W 0 (fun _ => true) held n2 31 [u2, u3, u4] = some y2 := hf 2 _ rfl
  obtain ⟨a2, h2⟩ := (opens_mans) _ _ _ t2
  have t3 : DataW.trod enc Tryz.prog W 0 (fun _ => true) held n2 32 [u5] = some y3 := hf 3 _ rfl
  obtain ⟨a3, h3⟩ := (opens_list 8 Tryz.underlying32 (by kernel_rfl) (opens_itm)) _ _ _ t3
  exact ⟨⟨a0, a1, a2, a3⟩, [u0], [u1], [u2, u3, u4], [u5], rfl, h0, h1, h2, h3⟩
set_option maxRecDepth 100000 in
theorem opens_lck : Opens enc W held lckK 189 := by
  intro fuel cs x h
  obtain ⟨xs, n2, _, _, hl, hlen, hf⟩ := DataW.trod_struct Tryz.underlying189 h
  obtain ⟨u0, u1, u2, u3, u4, u5, u6, u7, u8, u9, u10, u11, rfl⟩ := list12 cs (hl.trans (by kernel_rfl))
  obtain ⟨y0, y1, y2, rfl⟩ := list3 xs hlen
  have t0 : DataW.trod enc Tryz.prog W 0 (fun _ => true) held n2 23 [u0] = some y0 := hf 0 _ rfl
  obtain ⟨a0, h0⟩ := (opens_nat .u64 8 18446744073709551615 (by decide) Tryz.underlying23) _ _ _ t0
  have t1 : DataW.trod enc Tryz.prog W 0 (fun _ => true) held n2 31 [u1, u2, u3] = some y1 := hf 1 _ rfl
  obtain ⟨a1, h1⟩ := (opens_mans) _ _ _ t1
  have t2 : DataW.trod enc Tryz.prog W 0 (fun _ => true) held n2 187 [u4, u5, u6, u7, u8, u9, u10, u11] = some y2 := hf 2 _ rfl
  obtain ⟨a2, h2⟩ := (opens_itm) _ _ _ t2
  exact ⟨⟨a0, a1, a2⟩, [u0], [u1, u2, u3], [u4, u5, u6, u7, u8, u9, u10, u11], rfl, h0, h1, h2⟩
set_option maxRecDepth 100000 in
theorem opens_cpy : Opens enc W held cpyK 44 := by
  intro fuel cs x h
  obtain ⟨xs, n2, _, _, hl, hlen, hf⟩ := DataW.trod_struct Tryz.underlying44 h
  obtain ⟨u0, u1, u2, u3, u4, u5, u6, u7, u8, u9, rfl⟩ := list10 cs (hl.trans (by kernel_rfl))
  obtain ⟨y0, y1, y2, y3, y4, y5, y6, rfl⟩ := list7 xs hlen
  have t0 : DataW.trod enc Tryz.prog W 0 (fun _ => true) held n2 39 [u0] = some y0 := hf 0 _ rfl
  obtain ⟨a0, h0⟩ := (opens_int 1 2 Tryz.underlying39) _ _ _ t0
  have t1 : DataW.trod enc Tryz.prog W 0 (fun _ => true) held n2 24 [u1] = some y1 := hf 1 _ rfl
  obtain ⟨a1, h1⟩ := (opens_nat .u32 4 4294967295 (by decide) Tryz.underlying24) _ _ _ t1
  have t2 : DataW.trod enc Tryz.prog W 0 (fun _ => true) held n2 24 [u2] = some y2 := hf 2 _ rfl
  obtain ⟨a2, h2⟩ := (opens_nat .u32 4 4294967295 (by decide) Tryz.underlying24) _ _ _ t2
  have t3 : DataW.trod enc Tryz.prog W 0 (fun _ => true) held n2 36 [u3] = some y3 := hf 3 _ rfl
  obtain ⟨a3, h3⟩ := (opens_list 8 Tryz.underlying36 (by kernel_rfl) (opens_ent)) _ _ _ t3
  have t4 : DataW.trod enc Tryz.prog W 0 (fun _ => true) held n2 40 [u4] = some y4 := hf 4 _ rfl
  obtain ⟨a4, h4⟩ := (opens_list 64 Tryz.underlying40 (by kernel_rfl) (opens_lck)) _ _ _ t4
  have t5 : DataW.trod enc Tryz.prog W 0 (fun _ => true) held n2 41 [u5, u6, u7, u8] = some y5 := hf 5 _ rfl
  obtain ⟨a5, h5⟩ := (opens_incs) _ _ _ t5
  have t6 : DataW.trod enc Tryz.prog W 0 (fun _ => true) held n2 42 [u9] = some y6 := hf 6 _ rfl
  obtain ⟨a6, h6⟩ := (opens_list 64 Tryz.underlying42 (by kernel_rfl) (opens_vtd)) _ _ _ t6
  exact ⟨⟨a0, a1, a2, a3, a4, a5, a6⟩, [u0], [u1], [u2], [u3], [u4], [u5, u6, u7, u8], [u9], rfl, h0, h1, h2, h3, h4, h5, h6⟩
set_option maxRecDepth 100000 in
theorem opens_acc : Opens enc W held accK 30 := by
  intro fuel cs x h
  obtain ⟨xs, n2, _, _, hl, hlen, hf⟩ := DataW.trod_struct Tryz.underlying30 h
  obtain ⟨u0, u1, u2, u3, rfl⟩ := list4 cs (hl.trans (by kernel_rfl))
  obtain ⟨y0, y1, y2, rfl⟩ := list3 xs hlen
  have t0 : DataW.trod enc Tryz.prog W 0 (fun _ => true) held n2 4 [u0] = some y0 := hf 0 _ rfl
  obtain ⟨a0, h0⟩ := (opens_flag Tryz.underlying4) _ _ _ t0
  have t1 : DataW.trod enc Tryz.prog W 0 (fun _ => true) held n2 28 [u1, u2] = some y1 := hf 1 _ rfl
  obtain ⟨a1, h1⟩ := (opens_bal) _ _ _ t1
  have t2 : DataW.trod enc Tryz.prog W 0 (fun _ => true) held n2 9 [u3] = some y2 := hf 2 _ rfl
  obtain ⟨a2, h2⟩ := (opens_text 64 Tryz.underlying9) _ _ _ t2
  exact ⟨⟨a0, a1, a2⟩, [u0], [u1, u2], [u3], rfl, h0, h1, h2⟩
/-- the parts lie in these cells -/
def SlIn (w : World) (N : Nat → Prop) (cs : List Value) : List Slot → Prop
  | [] => True
  | s :: L => s.p w N ((cs.drop s.off).take s.sz) ∧ SlIn w N cs L
theorem SlIn.slots {w w' : World} {N P : Nat → Prop} {cs : List Value} {g : Nat} (hs : Safe P w w') (hN : ∀ b, N b → P b) (hc : ∀ j u, cs[j]? = some u → w'.cell? ⟨g, j, none⟩ = some u) : ∀ {L : List Slot}, SlIn w N cs L → AllFine L → Slots w' N g 0 L
  | [], _, _ => trivial
  | s :: L, h, hf => ⟨⟨_, hf.1.safe _ _ _ _ _ h.1 hs hN, fun j u hu => by
      rw [Nat.zero_add]
      rw [List.getElem?_take] at hu
      split at hu
      · rw [List.getElem?_drop] at hu; exact hc _ _ hu
      · cases hu⟩, SlIn.slots hs hN hc h.2 hf.2⟩
/-- the blocks that were there -/
abbrev Old (W : World) : Nat → Prop := fun b => b < W.heap.size
set_option maxRecDepth 100000 in
set_option maxHeartbeats 2000000 in
theorem msg_open {fuel : Nat} {cs : List Value} {x : DataW H × List MemPlace} (h : DataW.trod enc Tryz.prog W 0 (fun _ => true) held fuel 52 cs = some x) :
    ∃ m : Ms, I64 m.kind ∧ cs[0]? = some (.int .i64 m.kind) ∧ cs.length = 49 ∧ SlIn W (Old W) cs (slotsOf m) := by
  obtain ⟨xs, n2, _, _, hl, hlen, hf⟩ := DataW.trod_struct Tryz.underlying52 h
  have hl2 : cs.length = 49 := hl.trans (by kernel_rfl)
  have hlt : ∀ i, i < 23 → i < xs.length := fun i hi => by rw [hlen]; exact hi
  have t0 : DataW.trod enc Tryz.prog W 0 (fun _ => true) held n2 22 ((cs.drop 0).take (Tryz.prog.cellsOf 22)) = some (xs[0]'(hlt 0 (by decide))) := (hf 0 _ rfl).trans (List.getElem?_eq_getElem (hlt 0 (by decide)))
  rw [show Tryz.prog.cellsOf 22 = 1 by kernel_rfl] at t0
  obtain ⟨a0, h0⟩ := (show Opens enc W held (intK 8 0) 22 from opens_int 8 0 Tryz.underlying22) _ _ _ t0
  have t1 : DataW.trod enc Tryz.prog W 0 (fun _ => true) held n2 3 ((cs.drop 1).take (Tryz.prog.cellsOf 3)) = some (xs[1]'(hlt 1 (by decide))) := (hf 1 _ rfl).trans (List.getElem?_eq_getElem (hlt 1 (by decide)))
  rw [show Tryz.prog.cellsOf 3 = 1 by kernel_rfl] at t1
  obtain ⟨a1, h1⟩ := (show Opens enc W held (intK 1 255) 3 from opens_int 1 255 Tryz.underlying3) _ _ _ t1
  have t2 : DataW.trod enc Tryz.prog W 0 (fun _ => true) held n2 3 ((cs.drop 2).take (Tryz.prog.cellsOf 3)) = some (xs[2]'(hlt 2 (by decide))) := (hf 2 _ rfl).trans (List.getElem?_eq_getElem (hlt 2 (by decide)))
  rw [show Tryz.prog.cellsOf 3 = 1 by kernel_rfl] at t2
  obtain ⟨a2, h2⟩ := (show Opens enc W held (intK 1 255) 3 from opens_int 1 255 Tryz.underlying3) _ _ _ t2
  have t3 : DataW.trod enc Tryz.prog W 0 (fun _ => true) held n2 26 ((cs.drop 3).take (Tryz.prog.cellsOf 26)) = some (xs[3]'(hlt 3 (by decide))) := (hf 3 _ rfl).trans (List.getElem?_eq_getElem (hlt 3 (by decide)))
  rw [show Tryz.prog.cellsOf 26 = 4 by kernel_rfl] at t3
  obtain ⟨a3, h3⟩ := (show Opens enc W held insK 26 from opens_ins) _ _ _ t3
  have t4 : DataW.trod enc Tryz.prog W 0 (fun _ => true) held n2 28 ((cs.drop 7).take (Tryz.prog.cellsOf 28)) = some (xs[4]'(hlt 4 (by decide))) := (hf 4 _ rfl).trans (List.getElem?_eq_getElem (hlt 4 (by decide)))
  rw [show Tryz.prog.cellsOf 28 = 2 by kernel_rfl] at t4
  obtain ⟨a4, h4⟩ := (show Opens enc W held balK 28 from opens_bal) _ _ _ t4
  have t5 : DataW.trod enc Tryz.prog W 0 (fun _ => true) held n2 30 ((cs.drop 9).take (Tryz.prog.cellsOf 30)) = some (xs[5]'(hlt 5 (by decide))) := (hf 5 _ rfl).trans (List.getElem?_eq_getElem (hlt 5 (by decide)))
  rw [show Tryz.prog.cellsOf 30 = 4 by kernel_rfl] at t5
  obtain ⟨a5, h5⟩ := (show Opens enc W held accK 30 from opens_acc) _ _ _ t5
  have t6 : DataW.trod enc Tryz.prog W 0 (fun _ => true) held n2 9 ((cs.drop 13).take (Tryz.prog.cellsOf 9)) = some (xs[6]'(hlt 6 (by decide))) := (hf 6 _ rfl).trans (List.getElem?_eq_getElem (hlt 6 (by decide)))
  rw [show Tryz.prog.cellsOf 9 = 1 by kernel_rfl] at t6
  obtain ⟨a6, h6⟩ := (show Opens enc W held (textK 64) 9 from opens_text 64 Tryz.underlying9) _ _ _ t6
  have t7 : DataW.trod enc Tryz.prog W 0 (fun _ => true) held n2 34 ((cs.drop 14).take (Tryz.prog.cellsOf 34)) = some (xs[7]'(hlt 7 (by decide))) := (hf 7 _ rfl).trans (List.getElem?_eq_getElem (hlt 7 (by decide)))
  rw [show Tryz.prog.cellsOf 34 = 6 by kernel_rfl] at t7
  obtain ⟨a7, h7⟩ := (show Opens enc W held txK 34 from opens_tx) _ _ _ t7
  have t8 : DataW.trod enc Tryz.prog W 0 (fun _ => true) held n2 23 ((cs.drop 20).take (Tryz.prog.cellsOf 23)) = some (xs[8]'(hlt 8 (by decide))) := (hf 8 _ rfl).trans (List.getElem?_eq_getElem (hlt 8 (by decide)))
  rw [show Tryz.prog.cellsOf 23 = 1 by kernel_rfl] at t8
  obtain ⟨a8, h8⟩ := (show Opens enc W held (natK .u64 8 18446744073709551615) 23 from opens_nat .u64 8 18446744073709551615 (by decide) Tryz.underlying23) _ _ _ t8
  have t9 : DataW.trod enc Tryz.prog W 0 (fun _ => true) held n2 24 ((cs.drop 21).take (Tryz.prog.cellsOf 24)) = some (xs[9]'(hlt 9 (by decide))) := (hf 9 _ rfl).trans (List.getElem?_eq_getElem (hlt 9 (by decide)))
  rw [show Tryz.prog.cellsOf 24 = 1 by kernel_rfl] at t9
  obtain ⟨a9, h9⟩ := (show Opens enc W held (natK .u32 4 4294967295) 24 from opens_nat .u32 4 4294967295 (by decide) Tryz.underlying24) _ _ _ t9
  have t10 : DataW.trod enc Tryz.prog W 0 (fun _ => true) held n2 24 ((cs.drop 22).take (Tryz.prog.cellsOf 24)) = some (xs[10]'(hlt 10 (by decide))) := (hf 10 _ rfl).trans (List.getElem?_eq_getElem (hlt 10 (by decide)))
  rw [show Tryz.prog.cellsOf 24 = 1 by kernel_rfl] at t10
  obtain ⟨a10, h10⟩ := (show Opens enc W held (natK .u32 4 4294967295) 24 from opens_nat .u32 4 4294967295 (by decide) Tryz.underlying24) _ _ _ t10
  have t11 : DataW.trod enc Tryz.prog W 0 (fun _ => true) held n2 3 ((cs.drop 23).take (Tryz.prog.cellsOf 3)) = some (xs[11]'(hlt 11 (by decide))) := (hf 11 _ rfl).trans (List.getElem?_eq_getElem (hlt 11 (by decide)))
  rw [show Tryz.prog.cellsOf 3 = 1 by kernel_rfl] at t11
  obtain ⟨a11, h11⟩ := (show Opens enc W held (intK 1 63) 3 from opens_int 1 63 Tryz.underlying3) _ _ _ t11
  have t12 : DataW.trod enc Tryz.prog W 0 (fun _ => true) held n2 3 ((cs.drop 24).take (Tryz.prog.cellsOf 3)) = some (xs[12]'(hlt 12 (by decide))) := (hf 12 _ rfl).trans (List.getElem?_eq_getElem (hlt 12 (by decide)))
  rw [show Tryz.prog.cellsOf 3 = 1 by kernel_rfl] at t12
  obtain ⟨a12, h12⟩ := (show Opens enc W held (intK 1 3) 3 from opens_int 1 3 Tryz.underlying3) _ _ _ t12
  have t13 : DataW.trod enc Tryz.prog W 0 (fun _ => true) held n2 3 ((cs.drop 25).take (Tryz.prog.cellsOf 3)) = some (xs[13]'(hlt 13 (by decide))) := (hf 13 _ rfl).trans (List.getElem?_eq_getElem (hlt 13 (by decide)))
  rw [show Tryz.prog.cellsOf 3 = 1 by kernel_rfl] at t13
  obtain ⟨a13, h13⟩ := (show Opens enc W held (intK 1 255) 3 from opens_int 1 255 Tryz.underlying3) _ _ _ t13
  have t14 : DataW.trod enc Tryz.prog W 0 (fun _ => true) held n2 24 ((cs.drop 26).take (Tryz.prog.cellsOf 24)) = some (xs[14]'(hlt 14 (by decide))) := (hf 14 _ rfl).trans (List.getElem?_eq_getElem (hlt 14 (by decide)))
  rw [show Tryz.prog.cellsOf 24 = 1 by kernel_rfl] at t14
  obtain ⟨a14, h14⟩ := (show Opens enc W held (natK .u32 4 4294967295) 24 from opens_nat .u32 4 4294967295 (by decide) Tryz.underlying24) _ _ _ t14
  have t15 : DataW.trod enc Tryz.prog W 0 (fun _ => true) held n2 35 ((cs.drop 27).take (Tryz.prog.cellsOf 35)) = some (xs[15]'(hlt 15 (by decide))) := (hf 15 _ rfl).trans (List.getElem?_eq_getElem (hlt 15 (by decide)))
  rw [show Tryz.prog.cellsOf 35 = 1 by kernel_rfl] at t15
  obtain ⟨a15, h15⟩ := (show Opens enc W held (intK 1 2) 35 from opens_int 1 2 Tryz.underlying35) _ _ _ t15
  have t16 : DataW.trod enc Tryz.prog W 0 (fun _ => true) held n2 38 ((cs.drop 28).take (Tryz.prog.cellsOf 38)) = some (xs[16]'(hlt 16 (by decide))) := (hf 16 _ rfl).trans (List.getElem?_eq_getElem (hlt 16 (by decide)))
  rw [show Tryz.prog.cellsOf 38 = 4 by kernel_rfl] at t16
  obtain ⟨a16, h16⟩ := (show Opens enc W held ansK 38 from opens_ans) _ _ _ t16
  have t17 : DataW.trod enc Tryz.prog W 0 (fun _ => true) held n2 44 ((cs.drop 32).take (Tryz.prog.cellsOf 44)) = some (xs[17]'(hlt 17 (by decide))) := (hf 17 _ rfl).trans (List.getElem?_eq_getElem (hlt 17 (by decide)))
  rw [show Tryz.prog.cellsOf 44 = 10 by kernel_rfl] at t17
  obtain ⟨a17, h17⟩ := (show Opens enc W held cpyK 44 from opens_cpy) _ _ _ t17
  have t18 : DataW.trod enc Tryz.prog W 0 (fun _ => true) held n2 46 ((cs.drop 42).take (Tryz.prog.cellsOf 46)) = some (xs[18]'(hlt 18 (by decide))) := (hf 18 _ rfl).trans (List.getElem?_eq_getElem (hlt 18 (by decide)))
  rw [show Tryz.prog.cellsOf 46 = 2 by kernel_rfl] at t18
  obtain ⟨a18, h18⟩ := (show Opens enc W held arcK 46 from opens_arc) _ _ _ t18
  have t19 : DataW.trod enc Tryz.prog W 0 (fun _ => true) held n2 47 ((cs.drop 44).take (Tryz.prog.cellsOf 47)) = some (xs[19]'(hlt 19 (by decide))) := (hf 19 _ rfl).trans (List.getElem?_eq_getElem (hlt 19 (by decide)))
  rw [show Tryz.prog.cellsOf 47 = 1 by kernel_rfl] at t19
  obtain ⟨a19, h19⟩ := (show Opens enc W held (listK cpyK 64) 47 from opens_list 64 Tryz.underlying47 (by kernel_rfl) (opens_cpy)) _ _ _ t19
  have t20 : DataW.trod enc Tryz.prog W 0 (fun _ => true) held n2 49 ((cs.drop 45).take (Tryz.prog.cellsOf 49)) = some (xs[20]'(hlt 20 (by decide))) := (hf 20 _ rfl).trans (List.getElem?_eq_getElem (hlt 20 (by decide)))
  rw [show Tryz.prog.cellsOf 49 = 2 by kernel_rfl] at t20
  obtain ⟨a20, h20⟩ := (show Opens enc W held posK 49 from opens_pos) _ _ _ t20
  have t21 : DataW.trod enc Tryz.prog W 0 (fun _ => true) held n2 3 ((cs.drop 47).take (Tryz.prog.cellsOf 3)) = some (xs[21]'(hlt 21 (by decide))) := (hf 21 _ rfl).trans (List.getElem?_eq_getElem (hlt 21 (by decide)))
  rw [show Tryz.prog.cellsOf 3 = 1 by kernel_rfl] at t21
  obtain ⟨a21, h21⟩ := (show Opens enc W held (intK 1 255) 3 from opens_int 1 255 Tryz.underlying3) _ _ _ t21
  have t22 : DataW.trod enc Tryz.prog W 0 (fun _ => true) held n2 50 ((cs.drop 48).take (Tryz.prog.cellsOf 50)) = some (xs[22]'(hlt 22 (by decide))) := (hf 22 _ rfl).trans (List.getElem?_eq_getElem (hlt 22 (by decide)))
  rw [show Tryz.prog.cellsOf 50 = 1 by kernel_rfl] at t22
  obtain ⟨a22, h22⟩ := (show Opens enc W held (listK perK 32) 50 from opens_list 32 Tryz.underlying50 (by kernel_rfl) (opens_per)) _ _ _ t22
  have e0 := h0.1
  refine ⟨⟨a0, a1, a2, a3, a4, a5, a6, a7, a8, a9, a10, a11, a12, a13, a14, a15, a16, a17, a18, a19, a20, a21, a22⟩, h0.2, ?_, hl2, h0, h1, h2, h3, h4, h5, h6, h7, h8, h9, h10, h11, h12, h13, h14, h15, h16, h17, h18, h19, h20, h21, h22, trivial⟩
  have := congrArg (fun l => l[0]?) e0
  simpa [List.getElem?_take] using this
end
end Go.Proofs.YtngcbpgafjnfaaaGreatDoor


namespace Go.Proofs.YtngcbpgafjnfaaaGreatDoor
open Go.RowKit Go.Sort
set_option linter.unusedVariables false
set_option linter.unusedSimpArgs false

theorem drop_step {α : Type} (cs : List α) (a s : Nat) : cs.drop a = (cs.drop a).take s ++ cs.drop (a + s) := by rw [← List.drop_drop, List.take_append_drop]
theorem msg_parts {w : World} {N : Nat → Prop} {cs : List Value} {m : Ms} (hz : cs.length = 49) (h : SlIn w N cs (slotsOf m)) :
    ∃ L0 L1 L2 L3 L4 L5 L6 L7 L8 L9 L10 L11 L12 L13 L14 L15 L16 L17 L18 L19 L20 L21 L22 : List Value, cs = L0 ++ (L1 ++ (L2 ++ (L3 ++ (L4 ++ (L5 ++ (L6 ++ (L7 ++ (L8 ++ (L9 ++ (L10 ++ (L11 ++ (L12 ++ (L13 ++ (L14 ++ (L15 ++ (L16 ++ (L17 ++ (L18 ++ (L19 ++ (L20 ++ (L21 ++ (L22)))))))))))))))))))))) ∧ kindK.is w N L0 m.kind ∧ (intK 1 255).is w N L1 m.fr ∧ (intK 1 255).is w N L2 m.to ∧ insK.is w N L3 m.inst ∧ balK.is w N L4 m.ballot ∧ accK.is w N L5 m.accepted ∧ (textK 64).is w N L6 m.value ∧ txK.is w N L7 m.tx ∧ (natK .u64 8 18446744073709551615).is w N L8 m.id ∧ (natK .u32 4 4294967295).is w N L9 m.index ∧ (natK .u32 4 4294967295).is w N L10 m.round ∧ (intK 1 63).is w N L11 m.bucket ∧ (intK 1 3).is w N L12 m.replica ∧ (intK 1 3).is w N L13 m.of ∧ (natK .u32 4 4294967295).is w N L14 m.inc ∧ (intK 1 2).is w N L15 m.vote ∧ ansK.is w N L16 m.answer ∧ cpyK.is w N L17 m.copy ∧ arcK.is w N L18 m.arc ∧ (listK cpyK 64).is w N L19 m.copies ∧ posK.is w N L20 m.pos ∧ (intK 1 255).is w N L21 m.hops ∧ (listK perK 12).is w N L22 m.peers := by
  refine ⟨(cs.drop 0).take 1, (cs.drop 1).take 1, (cs.drop 2).take 1, (cs.drop 3).take 4, (cs.drop 7).take 2, (cs.drop 9).take 4, (cs.drop 13).take 1, (cs.drop 14).take 6, (cs.drop 20).take 1, (cs.drop 21).take 1, (cs.drop 22).take 1, (cs.drop 23).take 1, (cs.drop 24).take 1, (cs.drop 25).take 1, (cs.drop 26).take 1, (cs.drop 27).take 1, (cs.drop 28).take 4, (cs.drop 32).take 10, (cs.drop 42).take 2, (cs.drop 44).take 1, (cs.drop 45).take 2, (cs.drop 47).take 1, (cs.drop 48).take 1, ?_, h.1, h.2.1, h.2.2.1, h.2.2.2.1, h.2.2.2.2.1, h.2.2.2.2.2.1, h.2.2.2.2.2.2.1, h.2.2.2.2.2.2.2.1, h.2.2.2.2.2.2.2.2.1, h.2.2.2.2.2.2.2.2.2.1, h.2.2.2.2.2.2.2.2.2.2.1, h.2.2.2.2.2.2.2.2.2.2.2.1, h.2.2.2.2.2.2.2.2.2.2.2.2.1, h.2.2.2.2.2.2.2.2.2.2.2.2.2.1, h.2.2.2.2.2.2.2.2.2.2.2.2.2.2.1, h.2.2.2.2.2.2.2.2.2.2.2.2.2.2.2.1, h.2.2.2.2.2.2.2.2.2.2.2.2.2.2.2.2.1, h.2.2.2.2.2.2.2.2.2.2.2.2.2.2.2.2.2.1, h.2.2.2.2.2.2.2.2.2.2.2.2.2.2.2.2.2.2.1, h.2.2.2.2.2.2.2.2.2.2.2.2.2.2.2.2.2.2.2.1, h.2.2.2.2.2.2.2.2.2.2.2.2.2.2.2.2.2.2.2.2.1, h.2.2.2.2.2.2.2.2.2.2.2.2.2.2.2.2.2.2.2.2.2.1, h.2.2.2.2.2.2.2.2.2.2.2.2.2.2.2.2.2.2.2.2.2.2.1⟩
  have e0 : cs = cs.drop 0 := rfl
  have e49 : cs.drop 49 = [] := List.drop_eq_nil_of_le (by omega)
  have s0 : cs.drop 0 = (cs.drop 0).take 1 ++ cs.drop 1 := drop_step cs 0 1
  have s1 : cs.drop 1 = (cs.drop 1).take 1 ++ cs.drop 2 := drop_step cs 1 1
  have s2 : cs.drop 2 = (cs.drop 2).take 1 ++ cs.drop 3 := drop_step cs 2 1
  have s3 : cs.drop 3 = (cs.drop 3).take 4 ++ cs.drop 7 := drop_step cs 3 4
  have s4 : cs.drop 7 = (cs.drop 7).take 2 ++ cs.drop 9 := drop_step cs 7 2
  have s5 : cs.drop 9 = (cs.drop 9).take 4 ++ cs.drop 13 := drop_step cs 9 4
  have s6 : cs.drop 13 = (cs.drop 13).take 1 ++ cs.drop 14 := drop_step cs 13 1
  have s7 : cs.drop 14 = (cs.drop 14).take 6 ++ cs.drop 20 := drop_step cs 14 6
  have s8 : cs.drop 20 = (cs.drop 20).take 1 ++ cs.drop 21 := drop_step cs 20 1
  have s9 : cs.drop 21 = (cs.drop 21).take 1 ++ cs.drop 22 := drop_step cs 21 1
  have s10 : cs.drop 22 = (cs.drop 22).take 1 ++ cs.drop 23 := drop_step cs 22 1
  have s11 : cs.drop 23 = (cs.drop 23).take 1 ++ cs.drop 24 := drop_step cs 23 1
  have s12 : cs.drop 24 = (cs.drop 24).take 1 ++ cs.drop 25 := drop_step cs 24 1
  have s13 : cs.drop 25 = (cs.drop 25).take 1 ++ cs.drop 26 := drop_step cs 25 1
  have s14 : cs.drop 26 = (cs.drop 26).take 1 ++ cs.drop 27 := drop_step cs 26 1
  have s15 : cs.drop 27 = (cs.drop 27).take 1 ++ cs.drop 28 := drop_step cs 27 1
  have s16 : cs.drop 28 = (cs.drop 28).take 4 ++ cs.drop 32 := drop_step cs 28 4
  have s17 : cs.drop 32 = (cs.drop 32).take 10 ++ cs.drop 42 := drop_step cs 32 10
  have s18 : cs.drop 42 = (cs.drop 42).take 2 ++ cs.drop 44 := drop_step cs 42 2
  have s19 : cs.drop 44 = (cs.drop 44).take 1 ++ cs.drop 45 := drop_step cs 44 1
  have s20 : cs.drop 45 = (cs.drop 45).take 2 ++ cs.drop 47 := drop_step cs 45 2
  have s21 : cs.drop 47 = (cs.drop 47).take 1 ++ cs.drop 48 := drop_step cs 47 1
  have s22 : cs.drop 48 = (cs.drop 48).take 1 ++ cs.drop 49 := drop_step cs 48 1
  rw [e49, List.append_nil] at s22
  rw [s22] at s21
  rw [s21] at s20
  rw [s20] at s19
  rw [s19] at s18
  rw [s18] at s17
  rw [s17] at s16
  rw [s16] at s15
  rw [s15] at s14
  rw [s14] at s13
  rw [s13] at s12
  rw [s12] at s11
  rw [s11] at s10
  rw [s10] at s9
  rw [s9] at s8
  rw [s8] at s7
  rw [s7] at s6
  rw [s6] at s5
  rw [s5] at s4
  rw [s4] at s3
  rw [s3] at s2
  rw [s2] at s1
  rw [s1] at s0
  exact e0.trans s0
theorem get_two {l : List Int} (h : l.length = 3) : l = [l.getD 0 0, l.getD 1 0, l.getD 2 0] := by
  obtain ⟨a, b, c, rfl⟩ := list3 l h; rfl
theorem get_three {l : List Nat} (h : l.length = 4) : l = [l.getD 0 0, l.getD 1 0, l.getD 2 0, l.getD 3 0] := by
  obtain ⟨a, b, c, d, rfl⟩ := list4 l h; rfl
/-- a message by its cells -/
def msgCs (m : Ms) (io : Option Addr) (iN ic : Nat) (dO : Option Addr) (dn dc : Nat) (eo : Option Addr) (en ec : Nat) (lo : Option Addr) (ln lc : Nat) (vo : Option Addr) (vn vc : Nat) (co : Option Addr) (cn cc : Nat) (po : Option Addr) (pn pc : Nat) : List Value := [.int .i64 m.kind, .int .i64 m.fr, .int .i64 m.to, .int .u64 ((m.inst.tx : Nat) : Int), .int .i64 m.inst.bucket, .int .i64 m.inst.replica, .int .u32 ((m.inst.index : Nat) : Int), .int .u32 ((m.ballot.round : Nat) : Int), .int .u8 ((m.ballot.node : Nat) : Int), .bool m.accepted.is, .int .u32 ((m.accepted.b.round : Nat) : Int), .int .u8 ((m.accepted.b.node : Nat) : Int), .string m.accepted.value, .string m.value, .int .u64 ((m.tx.id : Nat) : Int), .int .i64 m.tx.client, .int .i64 (m.tx.mans.getD 0 0), .int .i64 (m.tx.mans.getD 1 0), .int .i64 (m.tx.mans.getD 2 0), .slice io iN ic, .int .u64 ((m.id : Nat) : Int), .int .u32 ((m.index : Nat) : Int), .int .u32 ((m.round : Nat) : Int), .int .i64 m.bucket, .int .i64 m.replica, .int .i64 m.of, .int .u32 ((m.inc : Nat) : Int), .int .i64 m.vote, .int .u32 ((m.answer.round : Nat) : Int), .int .u32 ((m.answer.inc : Nat) : Int), .int .u32 ((m.answer.ver : Nat) : Int), .slice dO dn dc, .int .i64 m.copy.state, .int .u32 ((m.copy.inc : Nat) : Int), .int .u32 ((m.copy.ver : Nat) : Int), .slice eo en ec, .slice lo ln lc, .int .u32 (((m.copy.fences.getD 0 0) : Nat) : Int), .int .u32 (((m.copy.fences.getD 1 0) : Nat) : Int), .int .u32 (((m.copy.fences.getD 2 0) : Nat) : Int), .int .u32 (((m.copy.fences.getD 3 0) : Nat) : Int), .slice vo vn vc, .int .i64 m.arc.size0, .int .i64 m.arc.size, .slice co cn cc, .int .u64 ((m.pos.hi : Nat) : Int), .int .u64 ((m.pos.lo : Nat) : Int), .int .i64 m.hops, .slice po pn pc]
theorem msg_cells {w : World} {N : Nat → Prop} {cs : List Value} {m : Ms} (hz : cs.length = 49) (h : SlIn w N cs (slotsOf m)) :
    ∃ (io : Option Addr) (iN ic : Nat) (dO : Option Addr) (dn dc : Nat) (eo : Option Addr) (en ec : Nat) (lo : Option Addr) (ln lc : Nat) (vo : Option Addr) (vn vc : Nat) (co : Option Addr) (cn cc : Nat) (po : Option Addr) (pn pc : Nat), cs = msgCs m io iN ic dO dn dc eo en ec lo ln lc vo vn vc co cn cc po pn pc ∧ txK.is w N [.int .u64 ((m.tx.id : Nat) : Int), .int .i64 m.tx.client, .int .i64 (m.tx.mans.getD 0 0), .int .i64 (m.tx.mans.getD 1 0), .int .i64 (m.tx.mans.getD 2 0), .slice io iN ic] m.tx ∧ cpyK.is w N [.int .i64 m.copy.state, .int .u32 ((m.copy.inc : Nat) : Int), .int .u32 ((m.copy.ver : Nat) : Int), .slice eo en ec, .slice lo ln lc, .int .u32 (((m.copy.fences.getD 0 0) : Nat) : Int), .int .u32 (((m.copy.fences.getD 1 0) : Nat) : Int), .int .u32 (((m.copy.fences.getD 2 0) : Nat) : Int), .int .u32 (((m.copy.fences.getD 3 0) : Nat) : Int), .slice vo vn vc] m.copy ∧ SlIs entK.sz entK.is w N dO dn dc m.answer.data ∧ SlIs cpyK.sz cpyK.is w N co cn cc m.copies ∧ SlIs perK.sz perK.is w N po pn pc m.peers := by
  obtain ⟨L0, L1, L2, L3, L4, L5, L6, L7, L8, L9, L10, L11, L12, L13, L14, L15, L16, L17, L18, L19, L20, L21, L22, rfl, h0, h1, h2, h3, h4, h5, h6, h7, h8, h9, h10, h11, h12, h13, h14, h15, h16, h17, h18, h19, h20, h21, h22⟩ := msg_parts hz h
  have T := h7
  have K := h17
  obtain ⟨rfl, _⟩ := h0
  obtain ⟨rfl, _⟩ := h1
  obtain ⟨rfl, _⟩ := h2
  obtain ⟨rfl, _⟩ := h6
  obtain ⟨rfl, _⟩ := h8
  obtain ⟨rfl, _⟩ := h9
  obtain ⟨rfl, _⟩ := h10
  obtain ⟨rfl, _⟩ := h11
  obtain ⟨rfl, _⟩ := h12
  obtain ⟨rfl, _⟩ := h13
  obtain ⟨rfl, _⟩ := h14
  obtain ⟨rfl, _⟩ := h15
  obtain ⟨rfl, _⟩ := h21
  obtain ⟨u0, u1, u2, u3, rfl, ⟨rfl, _⟩, ⟨rfl, _⟩, ⟨rfl, _⟩, ⟨rfl, _⟩⟩ := h3
  obtain ⟨u0, u1, rfl, ⟨rfl, _⟩, ⟨rfl, _⟩⟩ := h4
  obtain ⟨u0, u1, u2, rfl, rfl, ⟨v0, v1, rfl, ⟨rfl, _⟩, ⟨rfl, _⟩⟩, ⟨rfl, _⟩⟩ := h5
  obtain ⟨u0, u1, u2, u3, rfl, ⟨rfl, _⟩, ⟨rfl, _⟩, ⟨q1, rfl, _⟩, ⟨io, iN, ic, rfl, _⟩⟩ := h7
  obtain ⟨u0, u1, u2, u3, rfl, ⟨rfl, _⟩, ⟨rfl, _⟩, ⟨rfl, _⟩, ⟨ao, an, ac, rfl, hd⟩⟩ := h16
  obtain ⟨u0, u1, u2, u3, u4, u5, u6, rfl, ⟨rfl, _⟩, ⟨rfl, _⟩, ⟨rfl, _⟩, ⟨eo, en, ec, rfl, _⟩, ⟨lo, ln, lc, rfl, _⟩, ⟨q2, rfl, _⟩, ⟨vo, vn, vc, rfl, _⟩⟩ := h17
  obtain ⟨u0, u1, rfl, ⟨rfl, _⟩, ⟨rfl, _⟩⟩ := h18
  obtain ⟨co, cn, cc, rfl, hc⟩ := h19
  obtain ⟨u0, u1, rfl, ⟨rfl, _⟩, ⟨rfl, _⟩⟩ := h20
  obtain ⟨po, pn, pc, rfl, hp⟩ := h22
  have g1 := get_two q1
  have g2 := get_three q2
  rw [g1] at T ⊢
  rw [g2] at K ⊢
  exact ⟨io, iN, ic, ao, an, ac, eo, en, ec, lo, ln, lc, vo, vn, vc, co, cn, cc, po, pn, pc, rfl, T, K, hd, hc, hp⟩
end Go.Proofs.YtngcbpgafjnfaaaGreatDoor
