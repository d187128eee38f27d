/- Take. -/
import Derived.Test.YtjhdlohcjodgjaaDel
namespace Go.Proofs.Ytjhdlohcjodgjaa
open Go.RowKit
set_option linter.unusedVariables false

theorem pl_one (Q : List Pkt) : ∀ u ∈ pl Q, u.oneCell' = true := by
  intro u hu
  unfold pl fl at hu
  obtain ⟨p, _, hp⟩ := List.mem_flatMap.1 hu
  simp only [Pkt.list, List.mem_cons, List.not_mem_nil, or_false] at hp
  rcases hp with rfl | rfl | rfl | rfl <;> rfl
theorem pl_drop (p : Pkt) (Q : List Pkt) : (pl (p :: Q)).drop 4 = pl Q := rfl
section
variable {w w3 : World} {B hb cW room g N : Nat} {Q : List Pkt} {p : Pkt}
theorem InbW.take {b1 : Nat} {W0 W9 : World} (h : InbW w B hb (some ⟨g, 0, none⟩) cW room (p :: Q)) (hN : Q.length = N) (b0 : Below w.heap.size w W0) (k3 : Keep [g] W0 w3) (ho : w3.ownsRow B 32 4 (.slice (some ⟨g, 0, none⟩) N cW) N (pl Q))
    (k9 : Keep [b1] (w3.setCell ⟨hb, 1, none⟩ (.slice (some ⟨g, 0, none⟩) N cW)) W9) (hb1 : w.heap.size ≤ b1) : InbW W9 B hb (some ⟨g, 0, none⟩) cW room Q ∧ Keep [hb, g] w W9 := by
  have hlt := h.hlt
  have hgl := (owns_blk h.own g (by simp [blk])).2
  have hne : hb ≠ g := fun e => h.ne (by simp [blk, e])
  have k0 := Keep.of_below b0 [g]
  have kk := k0.trans k3
  have ks := Keep.setCell w3 ⟨hb, 1, none⟩ (.slice (some ⟨g, 0, none⟩) N cW)
  have hrow : w3.heap[hb]? = some (.cells #[.int .i64 (room : Int), .slice (some ⟨g, 0, none⟩) (p :: Q).length cW] 83 (0, 0)) := (kk.block hb hlt (by simp [hne])).trans h.row
  have h1 : InbW (w3.setCell ⟨hb, 1, none⟩ (.slice (some ⟨g, 0, none⟩) N cW)) B hb (some ⟨g, 0, none⟩) cW room Q := by
    refine ⟨?_, ?_, h.base, h.ne, h.ok, ?_, fun q hq => ?_⟩
    · rw [hN]; exact heap_setCell_same w3 hb 1 _ _ _ hrow
    · rw [hN]; exact owns_keep ho ks (fun x hx hm => by simp [Value.ownBlock] at hx hm; omega)
    · have := h.few; simp only [List.length_cons] at this; omega
    · obtain ⟨a, b, c⟩ := h.fine q (List.mem_cons_of_mem _ hq)
      refine ⟨(a.keep kk (fun x hx hm => (c x hx).2.2.2 (by simp at hm; simp [blk, hm]))).keep ks (fun x hx hm => (c x hx).2.2.1 (by simpa using hm)), b, fun x hx => ?_⟩
      obtain ⟨c1, c2, c3, c4⟩ := c x hx
      exact ⟨c1, Nat.lt_of_lt_of_le c2 (Nat.le_trans kk.size ks.size), c3, c4⟩
  have hall : ∀ q ∈ Q, ∀ x ∈ blk q.ao, x ∉ [b1] := fun q hq x hx hm => by
    have := ((h.fine q (List.mem_cons_of_mem _ hq)).2.2 x hx).2.1
    simp at hm; omega
  refine ⟨h1.keep k9 (by simp; omega) (by simp [blk]; omega) hall, ?_⟩
  have kall : Keep [hb, g, b1] w W9 := ((kk.mono (fun x hx => .inl (by simp at hx; simp [hx]))).trans (ks.mono (fun x hx => .inl (by simp at hx; simp [hx])))).trans (k9.mono (fun x hx => .inl (by simp at hx; simp [hx])))
  exact kall.mono (fun x hx => by simp at hx ⊢; omega)
set_option maxRecDepth 100000 in
set_option maxHeartbeats 8000000 in
theorem itake_yes (w : World) (h : InbW w B hb (some ⟨g, 0, none⟩) cW room (p :: Q)) : Calls Try.prog 11 #[.pointer (some ⟨hb, 0, none⟩)] w fun e w' =>
    e = .returned (.tuple #[.agg #[.int .u64 (p.id : Int), .int .i64 p.fr, .int .i64 p.to, p.sl], .bool true]) ∧ InbW w' B hb (some ⟨g, 0, none⟩) cW room Q ∧ Keep [hb, g] w w' := by
  obtain ⟨N, hN⟩ : ∃ N, Q.length = N := ⟨_, rfl⟩
  have HN := Lib.hid hN
  have H := Lib.hid h
  have c1 := h.at_ 1
  simp only [List.getElem?_toArray, List.getElem?_cons_succ, List.getElem?_cons_zero, List.length_cons, hN] at c1
  have hlt := h.hlt
  have hfew : N + 1 ≤ 256 := by have h1 := h.few; have h2 := h.ok.2; simp only [List.length_cons, hN] at h1; omega
  have own := h.own
  simp only [List.length_cons, hN] at own
  have HOW := Lib.hid own
  have hgl := (owns_blk own g (by simp [blk])).2
  have hcap : N + 1 ≤ cW := by obtain ⟨_, c, e, h2, _⟩ := owns_shape own; cases e; exact h2
  obtain ⟨id, fr, to, ao, cap, data⟩ := p
  have x0 := own.cells (g := g) rfl 0 (.int .u64 (id : Int)) rfl
  have x1 := own.cells (g := g) rfl 1 (.int .i64 fr) rfl
  have x2 := own.cells (g := g) rfl 2 (.int .i64 to) rfl
  have x3 := own.cells (g := g) rfl 3 (.slice ao data.length cap) rfl
  simp only [Addr.add_lit, Nat.zero_add] at x0 x1 x2 x3
  simp only [Pkt.sl]
  obtain ⟨dn, hdn⟩ : ∃ n, data.length = n := ⟨_, rfl⟩
  rw [hdn] at x3 ⊢
  have b0 := below_alloc (below_alloc (Below.refl w.heap.size w) (pko (.int .u64 0) (.int .i64 0) (.int .i64 0) (.slice none 0 0))) (pko (.int .u64 (id : Int)) (.int .i64 fr) (.int .i64 to) (.slice ao dn cap))
  have B0 := Lib.hid b0
  have HL := Lib.hid (ilen_any _ (h.below (below_alloc (Below.refl w.heap.size w) (pko (.int .u64 0) (.int .i64 0) (.int .i64 0) (.slice none 0 0)))))
  rw [show (((⟨id, fr, to, ao, cap, data⟩ : Pkt) :: Q).length : Int) = (N : Int) + 1 by rw [List.length_cons, hN]; rfl] at HL
  have HD := Lib.hid (idel_any _ (owns_keep own (Keep.of_below b0 []) (by simp)) hfew (pl_one _))
  rw [pl_drop] at HD
  have hne : hb ≠ g := fun e => h.ne (by simp [blk, e])
  have hz : ((N : Int) + 1 == 0) = false := by simp; omega
  have r1 : ((w.alloc (pko (.int .u64 0) (.int .i64 0) (.int .i64 0) (.slice none 0 0))).alloc (pko (.int .u64 (id : Int)) (.int .i64 fr) (.int .i64 to) (.slice ao dn cap))).heap[w.heap.size]? = some (.cells #[.int .u64 0, .int .i64 0, .int .i64 0, .slice none 0 0] 32 (0, 0)) :=
    ((below_alloc (Below.refl _ _) _).block w.heap.size (by simp)).trans (heap_alloc_new w _)
  have r2 : ((w.alloc (pko (.int .u64 0) (.int .i64 0) (.int .i64 0) (.slice none 0 0))).alloc (pko (.int .u64 (id : Int)) (.int .i64 fr) (.int .i64 to) (.slice ao dn cap))).heap[w.heap.size + 1]? = some (.cells #[.int .u64 (id : Int), .int .i64 fr, .int .i64 to, .slice ao dn cap] 32 (0, 0)) := by
    have := heap_alloc_new (w.alloc (pko (.int .u64 0) (.int .i64 0) (.int .i64 0) (.slice none 0 0))) (pko (.int .u64 (id : Int)) (.int .i64 fr) (.int .i64 to) (.slice ao dn cap))
    rwa [show (w.alloc (pko (.int .u64 0) (.int .i64 0) (.int .i64 0) (.slice none 0 0))).heap.size = w.heap.size + 1 by simp] at this
  have R1 := Lib.hid r1; have R2 := Lib.hid r2
  clear h own r1 r2 b0 hdn hN
  go_enter Try.func11, Try.ntmps11
  go_wp2_with fail
  refine HL.out.mono ?_; rintro e w2 ⟨rfl, rfl⟩
  go_wp2_with fail
  refine HD.out.mono ?_; rintro e w3 ⟨rfl, ho3, k3⟩
  have hs0 : ((w.alloc (pko (.int .u64 0) (.int .i64 0) (.int .i64 0) (.slice none 0 0))).alloc (pko (.int .u64 (id : Int)) (.int .i64 fr) (.int .i64 to) (.slice ao dn cap))).heap.size = w.heap.size + 2 := by simp
  have q1 := (k3.block w.heap.size (by omega) (by simp; omega)).trans R1.out
  have q2 := (k3.block (w.heap.size + 1) (by omega) (by simp; omega)).trans R2.out
  have z0 := cell_of_row w3 _ 0 _ _ (0, 0) q1; have z1 := cell_of_row w3 _ 1 _ _ (0, 0) q1; have z2 := cell_of_row w3 _ 2 _ _ (0, 0) q1; have z3 := cell_of_row w3 _ 3 _ _ (0, 0) q1
  have y0 := cell_of_row w3 _ 0 _ _ (0, 0) q2; have y1 := cell_of_row w3 _ 1 _ _ (0, 0) q2; have y2 := cell_of_row w3 _ 2 _ _ (0, 0) q2; have y3 := cell_of_row w3 _ 3 _ _ (0, 0) q2
  simp only [List.getElem?_toArray, List.getElem?_cons_succ, List.getElem?_cons_zero] at z0 z1 z2 z3 y0 y1 y2 y3
  have f0 := frozen_of_row w3 w.heap.size 0 _ _ q1; have f1 := frozen_of_row w3 w.heap.size 1 _ _ q1; have f2 := frozen_of_row w3 w.heap.size 2 _ _ q1; have f3 := frozen_of_row w3 w.heap.size 3 _ _ q1
  have k0 := (Keep.of_below B0.out [g]).trans k3
  have d1 := (k0.cell (a := ⟨hb, 1, none⟩) hlt (by simp [hne])).trans c1
  have df := (k0.frozen (a := ⟨hb, 1, none⟩) hlt (by simp [hne])).trans (H.out.fr 1)
  have HO3 := Lib.hid ho3; have K3 := Lib.hid k3
  clear q1 q2 k0 ho3 k3 hs0 x0 x1 x2 x3
  obtain ⟨bx, hbx⟩ : ∃ b, w.heap.size = b := ⟨_, rfl⟩
  have HBX := Lib.hid hbx
  rw [hbx] at z0 z1 z2 z3 f0 f1 f2 f3 y0 y1 y2 y3 hlt ⊢
  have hbne : hb ≠ bx := by omega
  have hbne2 : hb ≠ bx + 1 := by omega
  clear hbx
  go_wp2_with fail
  refine bodyPost_ret (v := .tuple #[.agg #[.int .u64 (id : Int), .int .i64 fr, .int .i64 to, .slice ao dn cap], .bool true]) (results_cell_tmp Try.results11 rfl ?_ rfl) rfl ⟨rfl, ?_⟩
  · go_simp
  · exact H.out.take HN.out B0.out K3.out HO3.out ((((Keep.setCell _ ⟨bx, 0, none⟩ _).trans (Keep.setCell _ ⟨bx, 1, none⟩ _)).trans (Keep.setCell _ ⟨bx, 2, none⟩ _)).trans (Keep.setCell _ ⟨bx, 3, none⟩ _)) (by rw [HBX.out]; exact Nat.le_refl _)
end
end Go.Proofs.Ytjhdlohcjodgjaa
