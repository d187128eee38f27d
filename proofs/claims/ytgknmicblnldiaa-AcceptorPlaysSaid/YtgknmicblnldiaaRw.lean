/- The document's row. -/
import Derived.Test.YtgknmicblnldiaaRf
import Derived.Deep.RegionLaw
import Derived.Deep.AppendLies
namespace Go.Proofs.Ytgknmicblnldiaa
open Go.RowKit Go.Sort
set_option linter.unusedVariables false

theorem ent_info : (Try.prog.info? 61).map (fun i => (i.zero, i.size, i.bytes)) = some (some (.agg #[.int .u64 0, .int .i64 0, .int .i64 0, .int .u32 0, .int .u32 0, .int .u8 0, .bool false, .int .u32 0, .int .u8 0, .string ⟨#[]⟩]), 10, 72) := by kernel_rfl
theorem look_app {S : List En} {i : In} (h : look S i = none) (r : Rw) (k : In) : look (S ++ [⟨i, r⟩]) k = if k = i then some r else look S k := by
  unfold look at h ⊢
  rw [List.find?_append]
  by_cases e : k = i
  · subst e
    rw [if_pos rfl]
    have h2 : S.find? (fun e => decide (e.i = k)) = none := by simpa using h
    rw [h2]; simp
  · rw [if_neg e]
    have h2 : List.find? (fun e : En => decide (e.i = k)) [⟨i, r⟩] = none := by simp; exact fun h => e h.symm
    rw [h2, Option.or_none]
theorem look_none_mem {S : List En} {i : In} (h : look S i = none) : ∀ e ∈ S, e.i ≠ i := by
  intro e he hi
  unfold look at h
  have h2 : S.find? (fun e => decide (e.i = i)) = none := by simpa using h
  have := List.find?_eq_none.1 h2 e he
  simp [hi] at this
section
variable {w w' : World} {B hb cap most : Nat} {ao : Option Addr} {S : List En} {Bs : List Nat}
theorem RfW.lts (h : RfW w B hb ao cap S most) : ∀ q ∈ hb :: blk ao, q < w.heap.size := fun q hq => (h.blocks q hq).2
theorem One.app (h : One S) {i : In} (hl : Ytgknmicblnldiaa.look S i = none) (r : Rw) : One (S ++ [⟨i, r⟩]) := by
  unfold One
  rw [List.pairwise_append]
  refine ⟨h, by simp, fun x hx y hy => ?_⟩
  rw [List.mem_singleton] at hy
  rw [hy]
  exact look_none_mem hl x hx
theorem RfW.app {W5 w6 : World} {N gg cap1 : Nat} {e : En} (h : RfW w B hb ao cap S most) (hB : B ≤ w.heap.size) (hN : S.length = N) (hf : N < most) (hl : look S e.i = none) (bW : Below w.heap.size w W5) (kg : Keep (blk ao) W5 w6)
    (ho : w6.ownsRow B 61 10 (.slice (some ⟨gg, 0, none⟩) (N + 1) cap1) (N + 1) (fl c10 S ++ c10 e)) (hat : (Value.slice ao N cap).ownBlock = some gg ∨ gg = W5.heap.size + 1) :
    RfW (w6.setCell ⟨hb, 1, none⟩ (.slice (some ⟨gg, 0, none⟩) (N + 1) cap1)) B hb (some ⟨gg, 0, none⟩) cap1 (S ++ [e]) most ∧ Turned (hb :: blk ao) (hb :: blk (some ⟨gg, 0, none⟩)) w (w6.setCell ⟨hb, 1, none⟩ (.slice (some ⟨gg, 0, none⟩) (N + 1) cap1)) := by
  have k6 := Keep.setCell w6 ⟨hb, 1, none⟩ (.slice (some ⟨gg, 0, none⟩) (N + 1) cap1)
  have hs5 := bW.size
  have hlt := h.hlt
  have hgg : gg ∈ blk ao ∨ gg = W5.heap.size + 1 := by
    rcases hat with h1 | h1
    · left
      cases ao with
      | none => cases h1
      | some a => simp [Value.ownBlock] at h1; simp [blk, h1]
    · exact .inr h1
  have hne : gg ≠ hb := by
    rcases hgg with h1 | h1
    · intro e; exact h.apart (e ▸ h1)
    · omega
  have hlen : (S ++ [e]).length = N + 1 := by rw [List.length_append, hN]; rfl
  have hrow : w6.heap[hb]? = some (.cells #[.int .i64 (most : Int), .slice ao S.length cap] 31 (0, 0)) :=
    (kg.block hb (by omega) h.apart).trans ((bW.block hb hlt).trans h.row)
  refine ⟨⟨?_, ?_, h.base, ?_, h.one.app hl e.r, by rw [hlen]; omega, h.m2⟩, ⟨?_, ?_⟩⟩
  · rw [hlen]; exact heap_setCell_same w6 hb 1 _ _ _ hrow
  · rw [hlen, fl_app, fl_one]
    exact owns_keep ho k6 (by intro q hq; simp [Value.ownBlock] at hq; simp; omega)
  · simp [blk]; omega
  · exact ((Keep.of_below bW (hb :: blk ao)).trans (kg.mono (fun q hq => .inl (by simp [hq])))).trans (k6.mono (fun q hq => .inl (by simp at hq; simp [hq])))
  · intro q hq
    rcases List.mem_cons.1 hq with rfl | hq
    · exact .inl (by simp)
    · simp [blk] at hq
      subst hq
      rcases hgg with h1 | h1
      · exact .inl (by simp [h1])
      · exact .inr (by omega)
/-- what row comes to -/
def RowIs (S S' : List En) (most : Nat) (i : In) (x : Int) : Prop := match stt (look S i) S.length most with
  | none => x = -1 ∧ S' = S
  | some r => ∃ j : Nat, x = (j : Int) ∧ S'[j]? = some ⟨i, r⟩ ∧ S' = if (look S i).isSome then S else S ++ [⟨i, r0⟩]
set_option maxRecDepth 100000 in
set_option maxHeartbeats 4000000 in
theorem rrow_any (i : In) (w : World) (hB : B ≤ w.heap.size) (h : Rf w B hb Bs S most) : Calls Try.prog 25 #[.pointer (some ⟨hb, 0, none⟩), i.ag] w fun e w' => ∃ x S' Bs', e = .returned (.int .i64 x) ∧ RowIs S S' most i x ∧ Rf w' B hb Bs' S' most ∧ Turned Bs Bs' w w' := by
  obtain ⟨ao, cap, rfl, h⟩ := h
  obtain ⟨W, hW⟩ : ∃ W, W = w.alloc i.obj := ⟨_, rfl⟩
  have bW : Below w.heap.size w W := by rw [hW]; exact below_alloc (Below.refl _ _) _
  have ki : Row4 W w.heap.size i := by
    have := Row4.new w i
    rw [← hW] at this; exact this
  have H0 := Lib.hid h
  have HF := Lib.hid (rfind_any i W (h.below bW))
  have H := Lib.hid (h.below bW)
  have HB := Lib.hid bW
  have KI := Lib.hid ki
  obtain ⟨d0, d1, d2, d3⟩ := ki.all
  obtain ⟨m, hm⟩ : ∃ m, S.length = m := ⟨_, rfl⟩
  have HM := Lib.hid hm
  have hmi : (m : Int) ≤ 4096 := by have h1 := h.few; have h2 := h.m2; omega
  have HBB := Lib.hid hB
  have HI := Lib.hid (rfl : i = i)
  clear h bW ki hm hB
  obtain ⟨ci, hci⟩ : ∃ ci, ci = i := ⟨_, rfl⟩
  have HCI := Lib.hid hci
  clear hci
  obtain ⟨tx, ib, ir, ix⟩ := i
  simp only [In.ag, In.obj] at hW HF ⊢
  go_enter Try.func25, Try.ntmps25
  go_upto_region 1 with (fail)
  rw [← hW]
  clear hW
  generalize hbi : w.heap.size = bi at *
  go_wp2_with fail
  refine HF.out.mono ?_; rintro e w1 ⟨x, rfl, hx, b1⟩
  have H1 := Lib.hid (H.out.below b1)
  have B1 := Lib.hid (HB.out.trans (b1.mono (by rw [← hbi]; exact HB.out.size)) : Below bi w w1)
  have K1 := Lib.hid (KI.out.below b1)
  clear b1 HF H KI d0 d1 d2 d3
  rcases hx with ⟨rfl, hl⟩ | ⟨j, e, rfl, hj, hei, hl⟩
  · have HL := Lib.hid hl
    have c0 := H1.out.at0; have c1 := H1.out.at1
    rw [HM.out] at c1
    have x0 := cell_regrown c0; have x1 := cell_regrown c1
    clear hl c0 c1
    by_cases hr : m < most
    · have hd : (m : Int) < (most : Int) := by omega
      go_wp2_with fail
      refine wp_region_quiet_below (by kernel_rfl) (by kernel_rfl) ?_
      repeat (go_big_quiet_step (fail))
      refine wpQuiet_nil ?_
      intro _ hw'
      obtain ⟨⟨dq, osq⟩, hw''⟩ := hw'
      subst hw''
      have lk := below_regrown w1 dq osq
      have H2 := H1.out.below lk
      have B2 := Lib.hid (B1.out.trans (lk.mono (by rw [← hbi]; exact B1.out.size)))
      obtain ⟨e0, e1, e2, e3⟩ := Row4.all (Row4.below K1.out lk)
      have hhb := H2.hlt
      have hf1 := H2.fr 1
      have own := H2.own
      have hbb := H2.base
      have c1 := H2.at1
      rw [HM.out] at c1 own
      have HOW := Lib.hid own
      have HH2 := Lib.hid H2
      have hbl : B ≤ (grow (redrawn w1 dq) osq).heap.size := by omega
      clear lk H1 K1 B1 x0 x1 own H2
      generalize grow (redrawn w1 dq) osq = w2 at *
      obtain ⟨i0, hi, hz0, hz1, hz2⟩ := info_parts ent_info
      have HI := Lib.hid hi; have HZ0 := Lib.hid hz0; have HZ1 := Lib.hid hz1; have HZ2 := Lib.hid hz2
      have HNB := Lib.hid HH2.out.apart
      have HC1 := Lib.hid c1; have HFR := Lib.hid hf1
      clear hi hz0 hz1 hz2
      go_wp2_with fail
      go_region_law (first
        | (refine step_append_lies _ (by rfl) (.tmp 27) (.tmp 30) 29 (by rfl) B 61 i0 _ 10 72 Try.underlying29 HI.out HZ0.out HZ1.out HZ2.out rfl (by omega) (.slice ao m cap) m (fl c10 S) (by rfl) (owns_keep HOW.out (Keep.of_below ((below_alloc (Below.refl _ w2) _).drew) []) (by simp)) ⟨w2.heap.size, 0, none⟩ 1 1 [.int .u64 tx, .int .i64 ib, .int .i64 ir, .int .u32 ix, .int .u32 0, .int .u8 0, .bool false, .int .u32 0, .int .u8 0, .string ⟨#[]⟩] (by rfl) (by rfl) (World.news_of_block (cs := #[.int .u64 tx, .int .i64 ib, .int .i64 ir, .int .u32 ix, .int .u32 0, .int .u8 0, .bool false, .int .u32 0, .int .u8 0, .string ⟨#[]⟩]) (t := 61) (fr := (0, 0)) (heap_alloc_new w2 _)) (by simp [Value.oneCell']) (by omega) (by unfold maxLen; omega) (by omega) (by simp; omega) (w2.heap.size + 1) (by simp) ?_; intro gg cap1 w6 hown6 hgrow hat hlt6; have kg := (Keep.of_below ((below_alloc (Below.refl _ w2) _).drew) (blk ao)).trans (keep_grown hgrow); have cl1 := (kg.cell (a := ⟨hb, 1, none⟩) hhb HNB.out).trans HC1.out; have fr1 := (kg.frozen (a := ⟨hb, 1, none⟩) hhb HNB.out).trans HFR.out))
      all_goals have HE := Lib.hid (HH2.out.app (e := ⟨⟨tx, ib, ir, ix⟩, r0⟩) hbl HM.out hr HL.out (Below.refl _ _) kg hown6 hat)
      all_goals have c2 := HE.out.1.at1
      all_goals rw [show (S ++ [(⟨⟨tx, ib, ir, ix⟩, r0⟩ : En)]).length = m + 1 by rw [List.length_append, HM.out]; rfl] at c2
      all_goals clear kg hown6 hgrow hat cl1 fr1 HC1 HFR c1 hf1
      all_goals go_wp2_with fail
      all_goals generalize w6.setCell ⟨hb, 1, none⟩ (.slice (some ⟨gg, 0, none⟩) (m + 1) cap1) = w7 at *
      all_goals go_wp2_with fail
      all_goals go_ret
      all_goals
        refine ⟨(m : Int), S ++ [⟨⟨tx, ib, ir, ix⟩, r0⟩], _, ret_int (by omega), ?_, ⟨_, _, rfl, HE.out.1⟩, ?_⟩
        · unfold RowIs stt
          rw [HL.out, HM.out]
          simp only [hr, if_true]
          refine ⟨m, rfl, ?_, by simp⟩
          rw [List.getElem?_append_right (by rw [HM.out]; exact Nat.le_refl _), HM.out, Nat.sub_self]; rfl
        · exact (Turned.below (by rw [hbi]; exact B2.out)).trans HE.out.2 H0.out.lts
    · have hd : ¬ (m : Int) < (most : Int) := by omega
      have hd2 : decide ((m : Int) < (most : Int)) = false := by simpa using hd
      go_wp2_with fail
      refine wp_region_quiet_below (by kernel_rfl) (by kernel_rfl) ?_
      repeat (go_big_quiet_step (fail))
      refine wpQuiet_nil ?_
      intro _ hw'
      obtain ⟨⟨dq, osq⟩, hw''⟩ := hw'
      subst hw''
      have lk := below_regrown w1 dq osq
      have H2 := Lib.hid (H1.out.below lk)
      have B2 := Lib.hid (B1.out.trans (lk.mono (by rw [← hbi]; exact B1.out.size)))
      clear lk H1 K1 B1 x0 x1
      generalize grow (redrawn w1 dq) osq = w2 at *
      go_wp2_with fail
      go_ret
      refine ⟨_, S, _, rfl, ?_, ⟨ao, cap, rfl, H2.out⟩, Turned.below (by rw [hbi]; exact B2.out)⟩
      unfold RowIs stt
      rw [HL.out, HM.out]
      simp only [hr, if_false]
      exact ⟨trivial, trivial⟩
  · have hj0 : decide ((j : Int) < 0) = false := by simp
    have HJ := Lib.hid (And.intro hj (And.intro hei hl))
    clear hj hei hl
    go_wp2_with fail
    refine wp_region_quiet_below (by kernel_rfl) (by kernel_rfl) ?_
    repeat (go_big_quiet_step (fail))
    refine wpQuiet_nil ?_
    intro _ hw'
    obtain ⟨⟨dq, osq⟩, hw''⟩ := hw'
    subst hw''
    have lk := below_regrown w1 dq osq
    have H2 := Lib.hid (H1.out.below lk)
    have B2 := Lib.hid (B1.out.trans (lk.mono (by rw [← hbi]; exact B1.out.size)))
    clear lk H1 K1 B1
    generalize grow (redrawn w1 dq) osq = w2 at *
    go_wp2_with fail
    go_ret
    obtain ⟨hj, hei, hl⟩ := HJ.out
    refine ⟨_, S, _, rfl, ?_, ⟨ao, cap, rfl, H2.out⟩, Turned.below (by rw [hbi]; exact B2.out)⟩
    unfold RowIs stt
    rw [hl]
    refine ⟨j, rfl, ?_, rfl⟩
    rw [hj, ← hei]
/-- the list behind row -/
def rowS (S : List En) (i : In) : List En := if (look S i).isSome then S else S ++ [⟨i, r0⟩]
theorem rrow_no (i : In) (w : World) (hB : B ≤ w.heap.size) (h : Rf w B hb Bs S most) (hs : stt (look S i) S.length most = none) : Calls Try.prog 25 #[.pointer (some ⟨hb, 0, none⟩), i.ag] w fun e w' => e = .returned (.int .i64 (-1)) ∧ ∃ Bs', Rf w' B hb Bs' S most ∧ Turned Bs Bs' w w' :=
  (rrow_any i w hB h).mono fun e w' ⟨x, S', Bs', h1, h2, h3, h4⟩ => by
    unfold RowIs at h2
    rw [hs] at h2
    obtain ⟨rfl, rfl⟩ := h2
    exact ⟨h1, Bs', h3, h4⟩
theorem rrow_ok (i : In) (w : World) (hB : B ≤ w.heap.size) (h : Rf w B hb Bs S most) {r : Rw} (hs : stt (look S i) S.length most = some r) : Calls Try.prog 25 #[.pointer (some ⟨hb, 0, none⟩), i.ag] w fun e w' => ∃ (j : Nat) (S' : List En) (ao' : Option Addr) (cap' : Nat), e = .returned (.int .i64 (j : Int)) ∧ S'[j]? = some ⟨i, r⟩ ∧ S' = rowS S i ∧ RfW w' B hb ao' cap' S' most ∧ Turned Bs (hb :: blk ao') w w' :=
  (rrow_any i w hB h).mono fun e w' ⟨x, S', Bs', h1, h2, h3, h4⟩ => by
    unfold RowIs at h2
    rw [hs] at h2
    obtain ⟨j, rfl, h5, h6⟩ := h2
    obtain ⟨ao', cap', rfl, h3⟩ := h3
    exact ⟨j, S', ao', cap', h1, h5, h6, h3, h4⟩
end
end Go.Proofs.Ytgknmicblnldiaa
