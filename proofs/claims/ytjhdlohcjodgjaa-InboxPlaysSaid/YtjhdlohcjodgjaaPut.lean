/- Put. -/
import Derived.Test.YtjhdlohcjodgjaaInb
import Derived.Deep.RegionLaw
namespace Go.Proofs.Ytjhdlohcjodgjaa
open Go.RowKit
set_option linter.unusedVariables false

theorem pkt_info : (Try.prog.info? 32).map (fun i => (i.zero, i.size, i.bytes)) = some (some (.agg #[.int .u64 0, .int .i64 0, .int .i64 0, .slice none 0 0]), 4, 48) := by kernel_rfl
section
variable {w w' : World} {B hb cW room : Nat} {aW : Option Addr} {Q : List Pkt}
abbrev pko (x0 x1 x2 x3 : Value) : Obj := .cells #[x0, x1, x2, x3] 32
set_option maxRecDepth 100000 in
set_option maxHeartbeats 2000000 in
theorem iput_full (x0 x1 x2 x3 : Value) (w : World) (h : InbW w B hb aW cW room Q) (hf : room ≤ Q.length) :
    Calls Try.prog 10 #[.pointer (some ⟨hb, 0, none⟩), .agg #[x0, x1, x2, x3]] w fun e w' => e = .returned (.int .i64 81) ∧ Below w.heap.size w w' := by
  have c0 := h.at_ 0
  have c1 := h.at_ 1
  simp only [List.getElem?_toArray, List.getElem?_cons_succ, List.getElem?_cons_zero] at c0 c1
  have hlt := h.hlt
  have hge : decide ((Q.length : Int) ≥ (room : Int)) = true := by simp; omega
  clear h
  go_enter Try.func10, Try.ntmps10
  go_wp2_with fail
  go_quiet (fail)
  go_wp2_with fail
  go_ret
  exact ⟨rfl, below_drewN (below_alloc (Below.refl _ _) _) _⟩
theorem InbW.put {W5 w6 : World} {id n c2 N gg cap1 b5 : Nat} {fr to : Int} {a2 : Option Addr} {data : List Nat} (h : InbW w B hb aW cW room Q) (hB : B ≤ w.heap.size) (hN : Q.length = N) (hf : N < room) (hid : id < 18446744073709551616) (hn : data.length = n)
    (K5 : Keep [] w W5) (h5 : Own W5 b5 a2 n c2 data) (hb5 : w.heap.size ≤ b5) (kg : Keep (blk aW) W5 w6)
    (ho : w6.ownsRow B 32 4 (.slice (some ⟨gg, 0, none⟩) (N + 1) cap1) (N + 1) (pl Q ++ [.int .u64 (id : Int), .int .i64 fr, .int .i64 to, .slice a2 n c2])) (hat : (Value.slice aW N cW).ownBlock = some gg ∨ gg = W5.heap.size + 1) :
    InbW (w6.setCell ⟨hb, 1, none⟩ (.slice (some ⟨gg, 0, none⟩) (N + 1) cap1)) B hb (some ⟨gg, 0, none⟩) cap1 room (Q ++ [⟨id, fr, to, a2, c2, data⟩]) ∧ Keep (hb :: blk aW) w (w6.setCell ⟨hb, 1, none⟩ (.slice (some ⟨gg, 0, none⟩) (N + 1) cap1)) ∧
      (∀ g ∈ blk (some (⟨gg, 0, none⟩ : Addr)), g ∈ blk aW ∨ w.heap.size ≤ g) ∧ (∀ g ∈ blk a2, w.heap.size ≤ g) := by
  have k6 := Keep.setCell w6 ⟨hb, 1, none⟩ (.slice (some ⟨gg, 0, none⟩) (N + 1) cap1)
  have hs5 := K5.size
  have hs6 := kg.size
  have hs7 := k6.size
  have hlt := h.hlt
  have hgg : (gg ∈ blk aW ∧ gg < w.heap.size) ∨ gg = W5.heap.size + 1 := by
    rcases hat with h1 | h1
    · left
      have h2 : gg ∈ blk aW := by
        cases aW with
        | none => cases h1
        | some a => simp [Value.ownBlock] at h1; simp [blk, h1]
      exact ⟨h2, (owns_blk h.own gg h2).2⟩
    · exact .inr h1
  have hghb : gg ≠ hb := by
    rcases hgg with ⟨h1, _⟩ | h1
    · intro e; exact h.ne (e ▸ h1)
    · omega
  have hlen : (Q ++ [(⟨id, fr, to, a2, c2, data⟩ : Pkt)]).length = N + 1 := by rw [List.length_append, hN]; rfl
  have ha2 : ∀ g ∈ blk a2, w.heap.size ≤ g ∧ g < W5.heap.size := fun g hg => by have := h5.lt_size g hg; omega
  refine ⟨⟨?_, ?_, h.base, by simp [blk]; exact fun e => hghb e.symm, h.ok, by rw [hlen]; omega, fun p hp => ?_⟩, ?_, fun g hg => ?_, fun g hg => (ha2 g hg).1⟩
  · rw [hlen]
    exact heap_setCell_same w6 hb 1 _ _ _ ((kg.block hb (by omega) h.ne).trans ((K5.block hb hlt (by simp)).trans h.row))
  · rw [hlen, pl, fl_app, fl_one]
    have : (⟨id, fr, to, a2, c2, data⟩ : Pkt).list = [.int .u64 (id : Int), .int .i64 fr, .int .i64 to, .slice a2 n c2] := by simp only [Pkt.list, Pkt.sl, hn]
    rw [this]
    exact owns_keep ho k6 (fun g hg hm => by simp [Value.ownBlock] at hg hm; omega)
  · rcases List.mem_append.1 hp with hp | hp
    · obtain ⟨a, b, c⟩ := h.fine p hp
      refine ⟨((a.keep K5 (by simp)).keep kg (fun g hg => (c g hg).2.2.2)).keep k6 (fun g hg hm => (c g hg).2.2.1 (by simpa using hm)), b, fun g hg => ?_⟩
      obtain ⟨c1, c2', c3, c4⟩ := c g hg
      refine ⟨c1, by omega, c3, ?_⟩
      simp only [blk, List.mem_singleton]
      rcases hgg with ⟨h1, _⟩ | h1
      · intro e; exact c4 (e ▸ h1)
      · omega
    · simp only [List.mem_singleton] at hp
      subst hp
      have hna : ∀ g ∈ blk a2, g ∉ blk aW := fun g hg hm => by have := (owns_blk h.own g hm).2; have := (ha2 g hg).1; omega
      refine ⟨(h5.rd.keep kg hna).keep k6 (fun g hg hm => by simp at hm; have := (ha2 g hg).1; omega), hid, fun g hg => ?_⟩
      have h1 := ha2 g hg
      refine ⟨by omega, by omega, by omega, ?_⟩
      simp only [blk, List.mem_singleton]
      rcases hgg with ⟨h2, h3⟩ | h2 <;> omega
  · refine ((K5.mono (T := hb :: blk aW) (by simp)).trans (kg.mono (fun g hg => .inl (List.mem_cons_of_mem _ hg)))).trans (k6.mono (fun g hg => .inl (by simp at hg; simp [hg])))
  · simp only [blk, List.mem_singleton] at hg
    subst hg
    rcases hgg with ⟨h1, _⟩ | h1
    · exact .inl h1
    · exact .inr (by omega)
set_option maxRecDepth 100000 in
set_option maxHeartbeats 8000000 in
theorem iput_ok (p : Pkt) (w : World) (hp : Rd w p.ao p.data) (hid : p.id < 18446744073709551616) (hdl : p.data.length ≤ 140737488355328) (h : InbW w B hb aW cW room Q) (hB : B ≤ w.heap.size) (hf : Q.length < room) :
    Calls Try.prog 10 #[.pointer (some ⟨hb, 0, none⟩), .agg #[.int .u64 (p.id : Int), .int .i64 p.fr, .int .i64 p.to, p.sl]] w fun e w' =>
      ∃ a2 c2 aW' cW', e = .returned (.int .i64 0) ∧ InbW w' B hb aW' cW' room (Q ++ [⟨p.id, p.fr, p.to, a2, c2, p.data⟩]) ∧ Keep (hb :: blk aW) w w' ∧ (∀ g ∈ blk aW', g ∈ blk aW ∨ w.heap.size ≤ g) ∧ (∀ g ∈ blk a2, w.heap.size ≤ g) := by
  obtain ⟨id, fr, to, ao, cap, data⟩ := p
  obtain ⟨n, hn⟩ : ∃ n, data.length = n := ⟨_, rfl⟩
  simp only [Pkt.sl] at *
  rw [hn] at hdl ⊢
  have HN := Lib.hid hn
  have c0 := h.at_ 0
  have c1 := h.at_ 1
  simp only [List.getElem?_toArray, List.getElem?_cons_succ, List.getElem?_cons_zero] at c0 c1
  have hlt := h.hlt
  have H := Lib.hid h
  have hroom := h.ok
  obtain ⟨N, hN⟩ : ∃ N, Q.length = N := ⟨_, rfl⟩
  have HQ := Lib.hid hN
  rw [hN] at c1 hf
  have own := h.own
  rw [hN] at own
  have HOW := Lib.hid own
  have hge : decide ((N : Int) ≥ (room : Int)) = false := by simp; omega
  have b0 := below_alloc (Below.refl w.heap.size w) (pko (.int .u64 (id : Int)) (.int .i64 fr) (.int .i64 to) (.slice ao n cap))
  have B0 := Lib.hid b0
  have HP := Lib.hid (hp.below b0)
  have HF := Lib.hid h.fine
  have HNB := Lib.hid h.ne
  clear h hn hN own b0 hp
  go_enter Try.func10, Try.ntmps10
  go_wp2_with fail
  go_quiet (fail)
  have B1 := Lib.hid (below_drewN B0.out nq)
  have HP1 := Lib.hid (HP.out.below (below_drewN (Below.refl _ _) nq))
  go_wp2_with fail
  refine (clone_any ao n cap data HN.out hdl _ HP1.out).mono ?_; rintro e w2 ⟨a2, c2, rfl, ho2, b2⟩
  have hbx : hb ≠ w.heap.size := by omega
  have hs1 := b2.size
  have hs0 : ((w.alloc (pko (.int .u64 (id : Int)) (.int .i64 fr) (.int .i64 to) (.slice ao n cap))).drewN nq).heap.size = w.heap.size + 1 := by simp
  rw [hs0] at hs1 ho2
  have hlb : w.heap.size < ((w.alloc (pko (.int .u64 (id : Int)) (.int .i64 fr) (.int .i64 to) (.slice ao n cap))).drewN nq).heap.size := by omega
  have hz : w2.heap[w.heap.size]? = some (.cells #[.int .u64 (id : Int), .int .i64 fr, .int .i64 to, .slice ao n cap] 32 (0, 0)) := (b2.block _ hlb).trans (heap_alloc_new w _)
  have B2 := Lib.hid (below_next B1.out b2)
  have hz5 : (w2.setCell ⟨w.heap.size, 3, none⟩ (.slice a2 n c2)).heap[w.heap.size]? = some (.cells #[.int .u64 (id : Int), .int .i64 fr, .int .i64 to, .slice a2 n c2] 32 (0, 0)) := heap_setCell_same w2 _ 3 _ _ _ hz
  have k5 := Keep.setCell w2 ⟨w.heap.size, 3, none⟩ (.slice a2 n c2)
  have z3 := cell_of_row w2 _ 3 _ _ (0, 0) hz
  have zf3 := frozen_of_row w2 w.heap.size 3 _ _ hz
  simp only [List.getElem?_toArray, List.getElem?_cons_succ, List.getElem?_cons_zero] at z3
  have K5 : Hid (Keep [] w (w2.setCell ⟨w.heap.size, 3, none⟩ (.slice a2 n c2))) := Lib.hid (((Keep.of_below B2.out []).mono (T := [w.heap.size]) (by simp)).trans (k5.mono (by simp)) |>.mono (fun g hg => by simp at hg; subst hg; exact .inr (Nat.le_refl _)))
  have HO5 := Lib.hid (ho2.keep k5 (fun g hg => by have := (ho2.lt_size g hg).1; simp; omega))
  clear b2 hz ho2 hs0 hlb
  go_wp2_with fail
  generalize w2.setCell ⟨w.heap.size, 3, none⟩ (.slice a2 n c2) = W5 at *
  have c1' := (K5.out.cell (a := ⟨hb, 1, none⟩) hlt (by simp)).trans c1
  have f1' := (K5.out.frozen (a := ⟨hb, 1, none⟩) hlt (by simp)).trans (H.out.fr 1)
  have y0 := cell_of_row W5 _ 0 _ _ (0, 0) hz5
  have y1 := cell_of_row W5 _ 1 _ _ (0, 0) hz5
  have y2 := cell_of_row W5 _ 2 _ _ (0, 0) hz5
  have y3 := cell_of_row W5 _ 3 _ _ (0, 0) hz5
  simp only [List.getElem?_toArray, List.getElem?_cons_succ, List.getElem?_cons_zero] at y0 y1 y2 y3
  have HOW5 := Lib.hid (owns_keep HOW.out K5.out (by simp))
  have hs5 := K5.out.size
  have hl5 : hb < W5.heap.size := by omega
  have hbx5 : w.heap.size < W5.heap.size := (Array.getElem?_eq_some_iff.1 hz5).1
  obtain ⟨i0, hi, hz0, hz1, hz2⟩ := info_parts pkt_info
  have HI := Lib.hid hi; have HZ0 := Lib.hid hz0; have HZ1 := Lib.hid hz1; have HZ2 := Lib.hid hz2
  clear hi hz0 hz1 hz2 k5 z3 zf3 hz5 c0
  have HC1 := Lib.hid c1'; have HFR := Lib.hid f1'
  go_region_law (first
    | (refine step_append_lies _ (by rfl) (.tmp 25) (.tmp 27) 28 (by rfl) B 32 i0 _ 4 48 Try.underlying28 HI.out HZ0.out HZ1.out HZ2.out rfl (by omega) (.slice aW N cW) N (pl Q) (by rfl) ((HOW5.out.alloc _).drew) ⟨W5.heap.size, 0, none⟩ 1 1 [.int .u64 (id : Int), .int .i64 fr, .int .i64 to, .slice a2 n c2] (by rfl) (by rfl) (World.news_of_block (cs := #[.int .u64 (id : Int), .int .i64 fr, .int .i64 to, .slice a2 n c2]) (t := 32) (fr := (0, 0)) (heap_alloc_new W5 _)) (by simp [Value.oneCell']) (by omega) (by unfold maxLen; omega) (by omega) (by simp; omega) (W5.heap.size + 1) (by simp) ?_; intro gg cap1 w6 hown6 hgrow hat hlt6; have kg := (Keep.of_below ((below_alloc (Below.refl _ W5) _).drew) (blk aW)).trans (keep_grown hgrow); have cl1 := (kg.cell (a := ⟨hb, 1, none⟩) hl5 HNB.out).trans HC1.out; have fr1 := (kg.frozen (a := ⟨hb, 1, none⟩) hl5 HNB.out).trans HFR.out))
  all_goals have HE := Lib.hid (H.out.put hB HQ.out hf hid HN.out K5.out HO5.out (by omega) kg hown6 hat)
  all_goals clear kg hown6 hgrow hat
  all_goals go_wp2_with fail
  all_goals go_ret
  all_goals exact ⟨a2, c2, _, cap1, rfl, HE.out⟩
end
end Go.Proofs.Ytjhdlohcjodgjaa
