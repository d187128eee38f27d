/- The document's Leave. -/
import Derived.Test.YtlfnkplgjlpaaaaRfB
namespace Go.Proofs.Ytlfnkplgjlpaaaa
open Go.RowKit Go.Sort
set_option linter.unusedVariables false

theorem peer_elem : Try.prog.underlying 30 = some (.slice (Try.prog.elem 30)) := by kernel_rfl
theorem peer_size (w : World) : (sizeOf (Try.prog.elem 30)).run Try.prog w = .ok 5 w := by kernel_rfl
theorem peer_info : (Try.prog.info? 71).map (fun i => (i.zero, i.size, i.bytes)) = some (some (.agg #[.int .i64 0, .int .i64 0, .int .i64 0, .int .i64 0, .bool false]), 5, 40) := by kernel_rfl
theorem run_cuth (w : World) (g n cap hi : Nat) (h : hi ≤ cap) : (Instr.sliceAt 30 (.slice (some ⟨g, 0, none⟩) n cap) none (some (.int .i64 (hi : Int))) none).run Try.prog w = .ok (.slice (some ⟨g, 0, none⟩) hi cap) w := by
  rw [run_sliceAt_slice _ _ _ _ _ _ peer_elem, run_slice_h w _ _ n cap peer_elem .i64 (hi : Int) (by omega) (by omega), peer_size]
  simp [Result.andThen, sliced, Addr.add_lit]
/-- where a slice begins that was cut -/
def cutA (g cap lo : Nat) : Addr := if cap = lo then ⟨g, 0, none⟩ else ⟨g, lo * 5, none⟩
theorem run_cutl (w : World) (g n cap lo : Nat) (h : lo ≤ n) : (Instr.sliceAt 30 (.slice (some ⟨g, 0, none⟩) n cap) (some (.int .i64 (lo : Int))) none none).run Try.prog w = .ok (.slice (some (cutA g cap lo)) (n - lo) (cap - lo)) w := by
  rw [run_sliceAt_slice _ _ _ _ _ _ peer_elem, run_slice_l w _ _ n cap peer_elem .i64 (lo : Int) (by omega) (by omega), peer_size]
  unfold cutA
  simp [Result.andThen, sliced, Addr.add_lit]
  split <;> rfl
section
variable {w w' : World} {B hb cap guess : Nat} {ao : Option Addr} {S : List Nd} {Bs : List Nat}
theorem wo_split {j : Nat} {n : Nd} (hS : Inc S) (hj : S[j]? = some n) : wo S n.id = S.take j ++ S.drop (j + 1) := by
  have hs : S = S.take j ++ n :: S.drop (j + 1) := by rw [← drop_next hj, List.take_append_drop]
  have hi : Inc (S.take j ++ n :: S.drop (j + 1)) := by rw [← hs]; exact hS
  obtain ⟨_, h2, h3⟩ := List.pairwise_append.1 hi
  obtain ⟨h4, _⟩ := List.pairwise_cons.1 h2
  have e : wo S n.id = wo (S.take j ++ n :: S.drop (j + 1)) n.id := by rw [← hs]
  rw [e]
  unfold wo
  rw [List.filter_append, List.filter_cons_of_neg (by simp)]
  congr 1
  · refine List.filter_eq_self.2 fun x hx => ?_
    have := h3 x hx n (by simp)
    simp; omega
  · refine List.filter_eq_self.2 fun x hx => ?_
    have := h4 x hx
    simp; omega
/-- a new row is laid -/
theorem RfW.newL {w2 : World} {ao2 : Option Addr} {cap2 : Nat} {S2 : List Nd} (h : RfW w B hb ao cap S guess) (b : Below w.heap.size w w2) (hown : w2.ownsRow w.heap.size 71 5 (.slice ao2 S2.length cap2) S2.length (fl c5 S2)) (hinc : Inc S2) (hok : ∀ x ∈ S2, x.Ok) (hfew : S2.length ≤ 12) :
    RfW (w2.setCell ⟨hb, 1, none⟩ (.slice ao2 S2.length cap2)) B hb ao2 cap2 S2 guess ∧ Turned (hb :: blk ao) (hb :: blk ao2) w (w2.setCell ⟨hb, 1, none⟩ (.slice ao2 S2.length cap2)) := by
  have hlt := h.hlt
  have hbs := owns_blk hown
  have k := Keep.setCell w2 ⟨hb, 1, none⟩ (.slice ao2 S2.length cap2)
  have hne : ∀ q ∈ blk ao2, q ∉ [hb] := fun q hq hm => by have := (hbs q hq).1; simp at hm; omega
  refine ⟨⟨heap_setCell_same w2 hb 1 _ _ _ ((b.block hb hlt).trans h.row), owns_base (owns_keep hown k (blk_own _ _ _ hne)) (by have := h.base; omega), h.base, fun hm => by have := (hbs hb hm).1; omega, hinc, hok, hfew, h.g⟩, ⟨(Keep.of_below b _).trans (k.mono fun q hq => .inl (by simp at hq ⊢; exact .inl hq)), fun q hq => ?_⟩⟩
  rcases List.mem_cons.1 hq with rfl | hq
  · exact .inl (by simp)
  · exact .inr (hbs q hq).1
set_option maxHeartbeats 800000 in
theorem rleave_no (id : Int) (w : World) (h : Rf w B hb Bs S guess) (hl : look S id = none) : Calls Try.prog 25 #[.pointer (some ⟨hb, 0, none⟩), .int .i64 id] w fun e w' => e = .returned (.int .i64 92) ∧ w = w' := by
  obtain ⟨ao, cap, rfl, h⟩ := h
  have P1 := Lib.hid (rplace_any id w h)
  have HL := Lib.hid hl
  clear h hl
  go_enter Try.func25, Try.ntmps25
  go_wp2_with fail
  refine P1.out.mono ?_; rintro e w1 ⟨x, rfl, hx, rfl⟩
  obtain rfl : x = -1 := by
    rcases hx with ⟨h1, _⟩ | ⟨_, n, _, _, _, h1⟩
    · exact h1
    · rw [HL.out] at h1; cases h1
  clear hx P1
  go_wp2_with fail
  go_ret
  exact ⟨rfl, rfl⟩
/-- the cells of a part of a row -/
theorem part_cells {g lo : Nat} (h : RfW w B hb (some ⟨g, 0, none⟩) cap S guess) (b : Below w.heap.size w w') (hlo : lo ≤ S.length) : ∀ (i : Nat) (u : Value), (fl c5 (S.drop lo))[i]? = some u → w'.cell? ((cutA g cap lo).add i) = some u := by
  intro i u hu
  have hi : i < (fl c5 (S.drop lo)).length := (List.getElem?_eq_some_iff.1 hu).1
  rw [fl_len c5_len, List.length_drop] at hi
  obtain ⟨g', v, e, hg, _, hv, hc⟩ := owns_at h.own (lo * 5 + i) (by omega)
  cases e
  have hcap := (h.own.2).resolve_left (by intro hh; have := hh.2; omega)
  obtain ⟨_, _, _, e, _, _, hle, _⟩ := hcap
  cases e
  have he : cutA g cap lo = ⟨g, lo * 5, none⟩ := by unfold cutA; rw [if_neg (by omega)]
  rw [he, Go.WideShapes.add_plain, b.cell (p := ⟨g, lo * 5 + i, none⟩) hg, hc]
  have hs : (fl c5 S)[lo * 5 + i]? = (fl c5 (S.drop lo))[i]? := by
    have h1 : fl c5 S = fl c5 (S.take lo) ++ fl c5 (S.drop lo) := by rw [← fl_app, List.take_append_drop]
    rw [h1, List.getElem?_append_right (by rw [fl_len c5_len, List.length_take]; omega), fl_len c5_len, List.length_take, Nat.min_eq_left hlo]
    congr 1; omega
  rw [hv] at hs
  rw [hs]; exact hu
theorem head_cells {g j : Nat} (h : RfW w B hb (some ⟨g, 0, none⟩) cap S guess) (b : Below w.heap.size w w') (hj : j ≤ S.length) : ∀ (i : Nat) (u : Value), (fl c5 (S.take j))[i]? = some u → w'.cell? ((⟨g, 0, none⟩ : Addr).add i) = some u := by
  intro i u hu
  have hi : i < (fl c5 (S.take j)).length := (List.getElem?_eq_some_iff.1 hu).1
  rw [fl_len c5_len, List.length_take] at hi
  obtain ⟨g', v, e, hg, _, hv, hc⟩ := owns_at h.own i (by omega)
  cases e
  rw [Go.WideShapes.add_plain, Nat.zero_add, b.cell (p := ⟨g, i, none⟩) hg, hc]
  have hs : (fl c5 S)[i]? = (fl c5 (S.take j))[i]? := by
    have h1 : fl c5 S = fl c5 (S.take j) ++ fl c5 (S.drop j) := by rw [← fl_app, List.take_append_drop]
    rw [h1, List.getElem?_append_left (by rw [fl_len c5_len, List.length_take]; omega)]
  rw [hv] at hs
  rw [hs]; exact hu
theorem c5_one (L : List Nd) : ∀ u ∈ fl c5 L, u.oneCell' = true := by
  intro u hu
  obtain ⟨n, _, h⟩ := List.mem_flatMap.1 hu
  simp only [List.mem_cons, List.not_mem_nil, or_false] at h
  rcases h with rfl | rfl | rfl | rfl | rfl <;> rfl
set_option maxRecDepth 100000 in
set_option maxHeartbeats 4000000 in
theorem rleave_yes (id : Int) (w : World) (h : Rf w B hb Bs S guess) {n : Nd} (hl : look S id = some n) : Calls Try.prog 25 #[.pointer (some ⟨hb, 0, none⟩), .int .i64 id] w fun e w' => ∃ Bs', e = .returned (.int .i64 0) ∧ Rf w' B hb Bs' (wo S id) guess ∧ Turned Bs Bs' w w' := by
  obtain ⟨ao, cap, rfl, h⟩ := h
  have P1 := Lib.hid (rplace_any id w h)
  have HL := Lib.hid hl
  have H := Lib.hid h
  have c1 := h.at1
  have f1 := h.fr 1
  have hhb := h.hlt
  have hfew := h.few
  obtain ⟨i0, hi0, hz0, hz1, hz2⟩ := info_parts peer_info
  have HI := Lib.hid hi0; have HZ0 := Lib.hid hz0; have HZ1 := Lib.hid hz1; have HZ2 := Lib.hid hz2
  clear h hl hi0 hz0 hz1 hz2
  go_enter Try.func25, Try.ntmps25
  go_wp2_with fail
  refine P1.out.mono ?_; rintro e w1 ⟨x, rfl, hx, rfl⟩
  obtain ⟨j, rfl, hj, hnid⟩ : ∃ j : Nat, x = j ∧ S[j]? = some n ∧ n.id = id := by
    rcases hx with ⟨_, h1⟩ | ⟨j, n', h1, h2, h3, h4⟩
    · rw [HL.out] at h1; cases h1
    · rw [HL.out] at h4; cases h4; exact ⟨j, h1, h2, h3⟩
  clear hx P1
  have hjl := (List.getElem?_eq_some_iff.1 hj).1
  obtain ⟨m, hm⟩ : ∃ m, S.length = m := ⟨_, rfl⟩
  have HM := Lib.hid hm
  obtain ⟨g, rfl, hg, hgB, _⟩ := H.out.node hj
  have hcap : m ≤ cap := by
    have hc := (H.out.own.2).resolve_left (by intro hh; have := hh.2; omega)
    obtain ⟨_, _, _, e, _, _, hle, _⟩ := hc
    cases e; omega
  have HWO := Lib.hid (wo_split H.out.inc hj)
  rw [hnid] at HWO
  have HC1 := Lib.hid (run_cuth w1 g m cap j (by omega))
  have HLEN := Lib.hid (show (fl c5 (S.take j)).length = j * 5 by rw [fl_len c5_len, List.length_take]; congr 1; omega)
  have HLEN2 := Lib.hid (show (fl c5 (S.drop (j + 1))).length = (m - (j + 1)) * 5 by rw [fl_len c5_len, List.length_drop, hm])
  have hjm : j < m := by omega
  have hji : (0 : Int) ≤ (j : Int) := by omega
  have hji2 : (j : Int) < (m : Int) := by omega
  have hmi : (m : Int) ≤ 12 := by omega
  rw [hm] at c1
  have hn0 := World.ownsRow_nil w1 w1.heap.size 71 5
  clear hj hm hnid hjl
  go_upto_region 6 with (first
    | (refine wpList_value rfl _ (exec_slice (w := w1) (vx := .slice (some ⟨g, 0, none⟩) m cap) (lv := none) (hv := some (.int .i64 (j : Int))) 30 (.tmp 16) none (some (.tmp 17)) rfl rfl rfl rfl HC1.out) ?_)
    | (at_builtin; refine wpList_append_own _ rfl (.tmp 12) (.tmp 18) 30 rfl w1.heap.size 71 i0 (.agg #[.int .i64 0, .int .i64 0, .int .i64 0, .int .i64 0, .bool false]) 5 40 Try.underlying30 HI.out HZ0.out HZ1.out HZ2.out rfl (by omega) (.slice none 0 0) 0 [] rfl hn0 ⟨g, 0, none⟩ j cap (fl c5 (S.take j)) rfl HLEN.out (head_cells H.out (Below.refl _ _) (by have := HM.out; omega)) (c5_one _) (by unfold maxLen; omega) (by omega) (Nat.le_refl _) ?_; intro v2 w2 hown2 hg2 hv2))
  have hb2 : Below w1.heap.size w1 w2 := ⟨hg2.os, hg2.tape, hg2.output, hg2.size, fun k hk => hg2.block k hk (by simp [Value.ownBlock])⟩
  have hown2' : w2.ownsRow w1.heap.size 71 5 v2 j (fl c5 (S.take j)) := by simpa using hown2
  have c2 := (hb2.cell (p := ⟨hb, 1, none⟩) hhb).trans c1
  have hhb2 : hb < w2.heap.size := Nat.lt_of_lt_of_le hhb hb2.size
  have hcut := run_cutl w2 g m cap (j + 1) (by omega)
  rw [show ((j + 1 : Nat) : Int) = (j : Int) + 1 by omega] at hcut
  have HC2 := Lib.hid hcut
  have HB2 := Lib.hid hb2
  have hsz2 : w1.heap.size ≤ w2.heap.size := hb2.size
  have HG2 := Lib.hid (fun g hg => (hown2'.lt g hg).1)
  have hf2 : w2.frozen? ⟨hb, 1, none⟩ = false := (hb2.frozen (p := ⟨hb, 1, none⟩) hhb).trans f1
  clear hg2 hv2 hb2 hcut hown2 c1 f1
  go_wp2_with (first
    | (refine wpList_value rfl _ (exec_slice (w := w2) (vx := .slice (some ⟨g, 0, none⟩) m cap) (lv := some (.int .i64 ((j : Int) + 1))) (hv := none) 30 (.tmp 25) (some (.tmp 27)) none rfl rfl rfl rfl HC2.out) ?_)
    | (at_builtin; refine wpList_append_own _ rfl (.tmp 21) (.tmp 28) 30 rfl w1.heap.size 71 i0 (.agg #[.int .i64 0, .int .i64 0, .int .i64 0, .int .i64 0, .bool false]) 5 40 Try.underlying30 HI.out HZ0.out HZ1.out HZ2.out rfl (by omega) v2 j (fl c5 (S.take j)) rfl hown2' (cutA g cap (j + 1)) (m - (j + 1)) (cap - (j + 1)) (fl c5 (S.drop (j + 1))) rfl HLEN2.out (part_cells H.out HB2.out (by have := HM.out; omega)) (c5_one _) (by unfold maxLen; omega) (by omega) hsz2 ?_; intro v3 w3 hown3 hg3 hv3; have hb3 : Below w1.heap.size w1 w3 := below_grown HB2.out hsz2 hg3 HG2.out; have hf3 : w3.frozen? ⟨hb, 1, none⟩ = false := (hb3.frozen (p := ⟨hb, 1, none⟩) hhb).trans (H.out.fr 1); have d3 : w3.cell? ⟨hb, 1, none⟩ = some (.slice (some ⟨g, 0, none⟩) S.length cap) := (hb3.cell (p := ⟨hb, 1, none⟩) hhb).trans H.out.at1; obtain ⟨a3, p3, rfl, _, _⟩ := owns_shape hown3))
  go_ret
  rw [← fl_app, ← HWO.out] at hown3
  have hlw : (wo S id).length = j + (m - (j + 1)) := by rw [HWO.out, List.length_append, List.length_take, List.length_drop, HM.out]; omega
  rw [← hlw] at hown3 ⊢
  have hx := H.out.newL hb3 hown3 (wo_inc H.out.inc id) (fun x hx => H.out.ok x (wo_mem.1 hx).1) (by rw [hlw]; omega)
  exact ⟨_, rfl, ⟨a3, p3, rfl, hx.1⟩, hx.2⟩
end
end Go.Proofs.Ytlfnkplgjlpaaaa
