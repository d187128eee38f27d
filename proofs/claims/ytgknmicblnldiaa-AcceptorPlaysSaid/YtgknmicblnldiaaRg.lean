/- The document's Forget. -/
import Derived.Test.YtgknmicblnldiaaRa
namespace Go.Proofs.Ytgknmicblnldiaa
open Go.RowKit Go.Sort
set_option linter.unusedVariables false

theorem ent_elem : Try.prog.underlying 29 = some (.slice (Try.prog.elem 29)) := by kernel_rfl
theorem ent_size (w : World) : (sizeOf (Try.prog.elem 29)).run Try.prog w = .ok 10 w := by kernel_rfl
theorem run_cuth (w : World) (g n cap hi : Nat) (h : hi ≤ cap) : (Instr.sliceAt 29 (.slice (some ⟨g, 0, none⟩) n cap) none (some (.int .i64 (hi : Int))) none).run Try.prog w = .ok (.slice (some ⟨g, 0, none⟩) hi cap) w := by
  rw [run_sliceAt_slice _ _ _ _ _ _ ent_elem, run_slice_h w _ _ n cap ent_elem .i64 (hi : Int) (by omega) (by omega), ent_size]
  simp [Result.andThen, sliced, Addr.add_lit]
/-- where a slice begins that was cut -/
def cutA (g cap lo : Nat) : Addr := if cap = lo then ⟨g, 0, none⟩ else ⟨g, lo * 10, none⟩
theorem run_cutl (w : World) (g n cap lo : Nat) (h : lo ≤ n) : (Instr.sliceAt 29 (.slice (some ⟨g, 0, none⟩) n cap) (some (.int .i64 (lo : Int))) none none).run Try.prog w = .ok (.slice (some (cutA g cap lo)) (n - lo) (cap - lo)) w := by
  rw [run_sliceAt_slice _ _ _ _ _ _ ent_elem, run_slice_l w _ _ n cap ent_elem .i64 (lo : Int) (by omega) (by omega), ent_size]
  unfold cutA
  simp [Result.andThen, sliced, Addr.add_lit]
  split <;> rfl
section
variable {w w' : World} {B hb cap most : Nat} {ao : Option Addr} {S : List En} {Bs : List Nat}
theorem drop_next {α : Type} {l : List α} {k : Nat} {x : α} (h : l[k]? = some x) : l.drop k = x :: l.drop (k + 1) := by
  obtain ⟨hk, rfl⟩ := List.getElem?_eq_some_iff.1 h
  exact List.drop_eq_getElem_cons hk
theorem look_cut (h : One S) {j : Nat} {e : En} (hj : S[j]? = some e) (k : In) : look (S.take j ++ S.drop (j + 1)) k = if k = e.i then none else look S k := by
  have hs : S = S.take j ++ e :: S.drop (j + 1) := by rw [← drop_next hj, List.take_append_drop]
  have h2 : One (S.take j ++ e :: S.drop (j + 1)) := by rw [← hs]; exact h
  obtain ⟨_, h3, h4⟩ := List.pairwise_append.1 h2
  obtain ⟨h5, _⟩ := List.pairwise_cons.1 h3
  by_cases hk : k = e.i
  · rw [if_pos hk]
    refine look_none_of fun x hx => ?_
    rw [hk]
    rcases List.mem_append.1 hx with hx | hx
    · exact h4 x hx e (by simp)
    · exact fun hh => h5 x hx hh.symm
  · rw [if_neg hk]
    have e1 : look S k = look (S.take j ++ e :: S.drop (j + 1)) k := by rw [← hs]
    rw [e1]
    unfold look
    rw [List.find?_append, List.find?_append, List.find?_cons_of_neg (by simpa using fun h => hk h.symm)]
theorem One.cut (h : One S) (j : Nat) : One (S.take j ++ S.drop (j + 1)) := by
  have hs : (S.take j ++ S.drop (j + 1)).Sublist S := by
    have h1 : S.take j ++ S.drop j = S := List.take_append_drop j S
    conv => rhs; rw [← h1]
    exact List.Sublist.append (List.Sublist.refl _) (by rw [← List.drop_drop]; exact List.drop_sublist _ _)
  exact h.sublist hs
/-- a new row is laid -/
theorem RfW.newL {w2 : World} {ao2 : Option Addr} {cap2 : Nat} {S2 : List En} (h : RfW w B hb ao cap S most) (b : Below w.heap.size w w2) (hown : w2.ownsRow w.heap.size 61 10 (.slice ao2 S2.length cap2) S2.length (fl c10 S2)) (hone : One S2) (hfew : S2.length ≤ most) :
    RfW (w2.setCell ⟨hb, 1, none⟩ (.slice ao2 S2.length cap2)) B hb ao2 cap2 S2 most ∧ Turned (hb :: blk ao) (hb :: blk ao2) w (w2.setCell ⟨hb, 1, none⟩ (.slice ao2 S2.length cap2)) := by
  have hlt := h.hlt
  have hbs := owns_blk hown
  have k := Keep.setCell w2 ⟨hb, 1, none⟩ (.slice ao2 S2.length cap2)
  have hne : ∀ q ∈ blk ao2, q ∉ [hb] := fun q hq hm => by have := (hbs q hq).1; simp at hm; omega
  refine ⟨⟨heap_setCell_same w2 hb 1 _ _ _ ((b.block hb hlt).trans h.row), owns_base (owns_keep hown k (blk_own _ _ _ hne)) (by have := h.base; omega), h.base, fun hm => by have := (hbs hb hm).1; omega, hone, hfew, h.m2⟩, ⟨(Keep.of_below b _).trans (k.mono fun q hq => .inl (by simp at hq ⊢; exact .inl hq)), fun q hq => ?_⟩⟩
  rcases List.mem_cons.1 hq with rfl | hq
  · exact .inl (by simp)
  · exact .inr (hbs q hq).1
theorem part_cells {g lo : Nat} (h : RfW w B hb (some ⟨g, 0, none⟩) cap S most) (b : Below w.heap.size w w') (hlo : lo ≤ S.length) : ∀ (i : Nat) (u : Value), (fl c10 (S.drop lo))[i]? = some u → w'.cell? ((cutA g cap lo).add i) = some u := by
  intro i u hu
  have hi : i < (fl c10 (S.drop lo)).length := (List.getElem?_eq_some_iff.1 hu).1
  rw [fl_len c10_len, List.length_drop] at hi
  obtain ⟨g', v, e, hg, _, hv, hc, _⟩ := owns_at h.own (lo * 10 + i) (by omega)
  cases e
  have hcap := (h.own.2).resolve_left (by intro hh; have := hh.2; omega)
  obtain ⟨_, _, _, e, _, _, hle, _⟩ := hcap
  cases e
  have he : cutA g cap lo = ⟨g, lo * 10, none⟩ := by unfold cutA; rw [if_neg (by omega)]
  rw [he, Go.WideShapes.add_plain, b.cell (p := ⟨g, lo * 10 + i, none⟩) hg, hc]
  have hs : (fl c10 S)[lo * 10 + i]? = (fl c10 (S.drop lo))[i]? := by
    have h1 : fl c10 S = fl c10 (S.take lo) ++ fl c10 (S.drop lo) := by rw [← fl_app, List.take_append_drop]
    rw [h1, List.getElem?_append_right (by rw [fl_len c10_len, List.length_take]; omega), fl_len c10_len, List.length_take, Nat.min_eq_left hlo]
    congr 1; omega
  rw [hv] at hs
  rw [hs]; exact hu
theorem head_cells {g j : Nat} (h : RfW w B hb (some ⟨g, 0, none⟩) cap S most) (b : Below w.heap.size w w') (hj : j ≤ S.length) : ∀ (i : Nat) (u : Value), (fl c10 (S.take j))[i]? = some u → w'.cell? ((⟨g, 0, none⟩ : Addr).add i) = some u := by
  intro i u hu
  have hi : i < (fl c10 (S.take j)).length := (List.getElem?_eq_some_iff.1 hu).1
  rw [fl_len c10_len, List.length_take] at hi
  obtain ⟨g', v, e, hg, _, hv, hc, _⟩ := owns_at h.own i (by omega)
  cases e
  rw [Go.WideShapes.add_plain, Nat.zero_add, b.cell (p := ⟨g, i, none⟩) hg, hc]
  have hs : (fl c10 S)[i]? = (fl c10 (S.take j))[i]? := by
    have h1 : fl c10 S = fl c10 (S.take j) ++ fl c10 (S.drop j) := by rw [← fl_app, List.take_append_drop]
    rw [h1, List.getElem?_append_left (by rw [fl_len c10_len, List.length_take]; omega)]
  rw [hv] at hs
  rw [hs]; exact hu
theorem c10_one (L : List En) : ∀ u ∈ fl c10 L, u.oneCell' = true := by
  intro u hu
  obtain ⟨n, _, h⟩ := List.mem_flatMap.1 hu
  simp only [List.mem_cons, List.not_mem_nil, or_false] at h
  rcases h with rfl | rfl | rfl | rfl | rfl | rfl | rfl | rfl | rfl | rfl <;> rfl
set_option maxRecDepth 100000 in
set_option maxHeartbeats 4000000 in
theorem rforget_no (i : In) (w : World) (h : Rf w B hb Bs S most) (hl : look S i = none) : Calls Try.prog 21 #[.pointer (some ⟨hb, 0, none⟩), i.ag] w fun e w' => e = .returned (.int .i64 102) ∧ Below w.heap.size w w' := by
  obtain ⟨ao, cap, rfl, h⟩ := h
  have bW : Below w.heap.size w (w.alloc i.obj) := below_alloc (Below.refl _ _) _
  have P1 := Lib.hid (rfind_any i _ (h.below bW))
  have HB := Lib.hid bW
  have HL := Lib.hid hl
  clear h hl bW
  obtain ⟨tx, ib, ir, ix⟩ := i
  simp only [In.ag, In.obj] at P1 ⊢
  go_enter Try.func21, Try.ntmps21
  go_wp2_with fail
  refine P1.out.mono ?_; rintro e w1 ⟨x, rfl, hx, b1⟩
  obtain rfl : x = -1 := by
    rcases hx with ⟨h1, _⟩ | ⟨_, n, _, _, _, h1⟩
    · exact h1
    · rw [HL.out] at h1; cases h1
  have B1 := Lib.hid (below_next HB.out b1)
  clear hx P1 b1
  go_wp2_with fail
  go_ret
  exact ⟨rfl, B1.out⟩
set_option maxRecDepth 100000 in
set_option maxHeartbeats 8000000 in
theorem rforget_yes (i : In) (w : World) (hB : B ≤ w.heap.size) (h : Rf w B hb Bs S most) {r : Rw} (hl : look S i = some r) : Calls Try.prog 21 #[.pointer (some ⟨hb, 0, none⟩), i.ag] w fun e w' => e = .returned (.int .i64 0) ∧ ∃ (j : Nat) (e2 : En) (Bs' : List Nat), S[j]? = some e2 ∧ e2.i = i ∧ One S ∧ Rf w' B hb Bs' (S.take j ++ S.drop (j + 1)) most ∧ Turned Bs Bs' w w' := by
  obtain ⟨ao, cap, rfl, h⟩ := h
  have bW : Below w.heap.size w (w.alloc i.obj) := below_alloc (Below.refl _ _) _
  have P1 := Lib.hid (rfind_any i _ (h.below bW))
  have HL := Lib.hid hl
  have HB := Lib.hid bW
  have H0 := Lib.hid h
  obtain ⟨i0, hi0, hz0, hz1, hz2⟩ := info_parts ent_info
  have HI := Lib.hid hi0; have HZ0 := Lib.hid hz0; have HZ1 := Lib.hid hz1; have HZ2 := Lib.hid hz2
  clear h hl hi0 hz0 hz1 hz2 bW
  obtain ⟨tx, ib, ir, ix⟩ := i
  simp only [In.ag, In.obj] at P1 ⊢
  go_enter Try.func21, Try.ntmps21
  go_wp2_with fail
  refine P1.out.mono ?_; rintro e w1 ⟨x, rfl, hx, b1⟩
  obtain ⟨j, e2, rfl, hj, hnid⟩ : ∃ (j : Nat) (e2 : En), x = j ∧ S[j]? = some e2 ∧ e2.i = ⟨tx, ib, ir, ix⟩ := by
    rcases hx with ⟨_, h1⟩ | ⟨j, n', h1, h2, h3, h4⟩
    · rw [HL.out] at h1; cases h1
    · exact ⟨j, n', h1, h2, h3⟩
  have BB1 := Lib.hid (below_next HB.out b1)
  have H := Lib.hid (H0.out.below BB1.out)
  have c1 := H.out.at1
  have hhb := H.out.hlt
  have hfew := H.out.few
  have hm2 := H.out.m2
  clear hx P1 b1
  have hjl := (List.getElem?_eq_some_iff.1 hj).1
  obtain ⟨m, hm⟩ : ∃ m, S.length = m := ⟨_, rfl⟩
  have HM := Lib.hid hm
  obtain ⟨g, rfl, hg, hgB, _⟩ := H.out.ent hj
  have hcap : m ≤ cap := by
    have hc := (H.out.own.2).resolve_left (by intro hh; have := hh.2; omega)
    obtain ⟨_, _, _, e, _, _, hle, _⟩ := hc
    cases e; omega
  have HJ := Lib.hid (And.intro hj hnid)
  have HC1 := Lib.hid (run_cuth w1 g m cap j (by omega))
  have HLEN := Lib.hid (show (fl c10 (S.take j)).length = j * 10 by rw [fl_len c10_len, List.length_take]; congr 1; omega)
  have HLEN2 := Lib.hid (show (fl c10 (S.drop (j + 1))).length = (m - (j + 1)) * 10 by rw [fl_len c10_len, List.length_drop, hm])
  have hjm : j < m := by omega
  have hji : (0 : Int) ≤ (j : Int) := by omega
  have hji2 : (j : Int) < (m : Int) := by omega
  have hmi : (m : Int) ≤ 4096 := by omega
  rw [hm] at c1
  have hn0 := World.ownsRow_nil w1 w1.heap.size 61 10
  have hj0 : decide ((j : Int) < 0) = false := by simp
  clear hj hm hnid hjl hfew hm2
  go_upto_region 6 with (first
    | (refine wpList_value rfl _ (exec_slice (w := w1) (vx := .slice (some ⟨g, 0, none⟩) m cap) (lv := none) (hv := some (.int .i64 (j : Int))) 29 (.tmp 16) none (some (.tmp 17)) rfl rfl rfl rfl HC1.out) ?_)
    | (at_builtin; refine wpList_append_own _ rfl (.tmp 12) (.tmp 18) 29 rfl w1.heap.size 61 i0 (.agg #[.int .u64 0, .int .i64 0, .int .i64 0, .int .u32 0, .int .u32 0, .int .u8 0, .bool false, .int .u32 0, .int .u8 0, .string ⟨#[]⟩]) 10 72 Try.underlying29 HI.out HZ0.out HZ1.out HZ2.out rfl (by omega) (.slice none 0 0) 0 [] rfl hn0 ⟨g, 0, none⟩ j cap (fl c10 (S.take j)) rfl HLEN.out (head_cells H.out (Below.refl _ _) (by have := HM.out; omega)) (c10_one _) (by unfold maxLen; omega) (by omega) (Nat.le_refl _) ?_; intro v2 w2 hown2 hg2 hv2))
  have hb2 : Below w1.heap.size w1 w2 := ⟨hg2.os, hg2.tape, hg2.output, hg2.size, fun k hk => hg2.block k hk (by simp [Value.ownBlock])⟩
  have hown2' : w2.ownsRow w1.heap.size 61 10 v2 j (fl c10 (S.take j)) := by simpa using hown2
  have c2 := (hb2.cell (p := ⟨hb, 1, none⟩) hhb).trans c1
  have hhb2 : hb < w2.heap.size := Nat.lt_of_lt_of_le hhb hb2.size
  have hcut := run_cutl w2 g m cap (j + 1) (by omega)
  rw [show ((j + 1 : Nat) : Int) = (j : Int) + 1 by omega] at hcut
  have HC2 := Lib.hid hcut
  have HB2 := Lib.hid hb2
  have hsz2 : w1.heap.size ≤ w2.heap.size := hb2.size
  have HG2 := Lib.hid (fun g hg => (hown2'.lt g hg).1)
  have hf2 : w2.frozen? ⟨hb, 1, none⟩ = false := (hb2.frozen (p := ⟨hb, 1, none⟩) hhb).trans (H.out.fr 1)
  clear hg2 hv2 hb2 hcut hown2 c1
  go_wp2_with (first
    | (refine wpList_value rfl _ (exec_slice (w := w2) (vx := .slice (some ⟨g, 0, none⟩) m cap) (lv := some (.int .i64 ((j : Int) + 1))) (hv := none) 29 (.tmp 25) (some (.tmp 27)) none rfl rfl rfl rfl HC2.out) ?_)
    | (at_builtin; refine wpList_append_own _ rfl (.tmp 21) (.tmp 28) 29 rfl w1.heap.size 61 i0 (.agg #[.int .u64 0, .int .i64 0, .int .i64 0, .int .u32 0, .int .u32 0, .int .u8 0, .bool false, .int .u32 0, .int .u8 0, .string ⟨#[]⟩]) 10 72 Try.underlying29 HI.out HZ0.out HZ1.out HZ2.out rfl (by omega) v2 j (fl c10 (S.take j)) rfl hown2' (cutA g cap (j + 1)) (m - (j + 1)) (cap - (j + 1)) (fl c10 (S.drop (j + 1))) rfl HLEN2.out (part_cells H.out HB2.out (by have := HM.out; omega)) (c10_one _) (by unfold maxLen; omega) (by omega) hsz2 ?_; intro v3 w3 hown3 hg3 hv3; have hb3 : Below w1.heap.size w1 w3 := below_grown HB2.out hsz2 hg3 HG2.out; have hf3 : w3.frozen? ⟨hb, 1, none⟩ = false := (hb3.frozen (p := ⟨hb, 1, none⟩) hhb).trans (H.out.fr 1); have d3 : w3.cell? ⟨hb, 1, none⟩ = some (.slice (some ⟨g, 0, none⟩) S.length cap) := (hb3.cell (p := ⟨hb, 1, none⟩) hhb).trans H.out.at1; obtain ⟨a3, p3, rfl, _, _⟩ := owns_shape hown3))
  go_ret
  rw [← fl_app] at hown3
  have hlw : (S.take j ++ S.drop (j + 1)).length = j + (m - (j + 1)) := by rw [List.length_append, List.length_take, List.length_drop, HM.out]; omega
  rw [← hlw] at hown3 ⊢
  have hx := H.out.newL hb3 hown3 (H.out.one.cut j) (by rw [hlw]; have := H.out.few; have := HM.out; omega)
  exact ⟨rfl, j, e2, _, HJ.out.1, HJ.out.2, H.out.one, ⟨a3, p3, rfl, hx.1⟩, Turned.first BB1.out hx.2⟩
end
end Go.Proofs.Ytgknmicblnldiaa
