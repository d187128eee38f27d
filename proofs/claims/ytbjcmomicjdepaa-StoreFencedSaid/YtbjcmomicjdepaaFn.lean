/- Fence. -/
import Derived.Test.YtbjcmomicjdepaaArg
namespace Go.Proofs.Ytbjcmomicjdepaa
open Go.RowKit Go.Sort
set_option linter.unusedVariables false
set_option linter.unusedSimpArgs false
set_option maxRecDepth 100000
def Cp.fen (c : Cp) (q : Nat) : Int := match q with
  | 0 => c.f0
  | 1 => c.f1
  | 2 => c.f2
  | _ => c.f3
/-- what Fence answers: the copy that it tells, its error, what becomes of the replica -/
def fenceR (rep : Int) (c : Cp) (of inc : Int) : Cp × Int × Cp :=
  if of < 0 ∨ 4 ≤ of ∨ of = rep ∨ inc = 0 then (newC 0 0, 1, c) else
  if inc < c.fen of.toNat then (newC 0 0, 153, c) else (c.setF of.toNat inc, 0, c.setF of.toNat inc)
section
variable {B sb gm b : Nat} {nm : Nm} {c : Cp} {s : Cs}
/-- what a call of Fence ends in -/
def FnEnd (w : World) (B sb gm b : Nat) (nm : Nm) (s : Cs) (ct : Cp) (e : Int) (c1 : Cp) (r : Ending) (w' : World) : Prop :=
  ∃ s', r = .returned (.tuple #[.agg ⟨ct.list s'⟩, .int .i64 e]) ∧ CpO w' w.heap.size ct s' ∧ StR w' B sb gm b nm c1 s ∧ Trn b s s w w'
theorem fen_cell {w : World} {rep : Int} (h : RowR w B b rep c s) (q : Nat) (hq : q < 4) : w.cell? ⟨b, 5 + q, none⟩ = some (.int .u32 (c.fen q)) := by
  have : q = 0 ∨ q = 1 ∨ q = 2 ∨ q = 3 := by omega
  rcases this with rfl | rfl | rfl | rfl
  · exact h.at_ 5 _ rfl
  · exact h.at_ 6 _ rfl
  · exact h.at_ 7 _ rfl
  · exact h.at_ 8 _ rfl
set_option maxHeartbeats 4000000 in
theorem fence_b0 (w : World) (h : StR w B sb gm b nm c s) (of inc : Int) (h0 : of < 0) : Calls Try.prog 22 #[.pointer (some ⟨sb, 0, none⟩), .int .i64 nm.b, .int .i64 nm.r, .int .i64 of, .int .u32 inc] w (FnEnd w B sb gm b nm s (newC 0 0) 1 c) := by
  have B1 := Lib.hid (below_alloc (Below.refl w.heap.size w) (.cells #[.int .i64 0, .int .u32 0, .int .u32 0, .slice none 0 0, .slice none 0 0, .int .u32 0, .int .u32 0, .int .u32 0, .int .u32 0, .slice none 0 0] 42))
  have TH := Lib.hid (cp_zero w).there
  have K3 := Lib.hid (CpB.laid (c := newC 0 0) (s := newS) (cp_zero w))
  have KK := Lib.hid (keep_setCells w.heap.size (Cp.list (newC 0 0) newS) 0 (w.alloc (.cells #[.int .i64 0, .int .u32 0, .int .u32 0, .slice none 0 0, .slice none 0 0, .int .u32 0, .int .u32 0, .int .u32 0, .int .u32 0, .slice none 0 0] 42)))
  have H0 := Lib.hid h
  clear h
  go_enter Try.func22, Try.ntmps22
  go_wp2_with (refine wpList_store_mid rfl 42 (.tmp 10) (.tmp 29) rfl w.heap.size 0 ⟨Cp.list (newC 0 0) newS⟩ rfl rfl TH.out (cp_size _ _) (cp_ones _ _) ?_)
  have bz := B1.out.trans (KK.out.below B1.out.size (by simp))
  refine bodyPost_ret (res_c1t1 Try.results22 rfl (CpB.load K3.out) rfl) rfl ⟨newS, rfl, CpO.zero _ _, H0.out.below bz, Trn.of_below b s bz⟩
set_option maxHeartbeats 4000000 in
theorem fence_b1 (w : World) (h : StR w B sb gm b nm c s) (of inc : Int) (h0 : ¬ of < 0) (h1 : 4 ≤ of) : Calls Try.prog 22 #[.pointer (some ⟨sb, 0, none⟩), .int .i64 nm.b, .int .i64 nm.r, .int .i64 of, .int .u32 inc] w (FnEnd w B sb gm b nm s (newC 0 0) 1 c) := by
  have B1 := Lib.hid (below_alloc (Below.refl w.heap.size w) (.cells #[.int .i64 0, .int .u32 0, .int .u32 0, .slice none 0 0, .slice none 0 0, .int .u32 0, .int .u32 0, .int .u32 0, .int .u32 0, .slice none 0 0] 42))
  have TH := Lib.hid (cp_zero w).there
  have K3 := Lib.hid (CpB.laid (c := newC 0 0) (s := newS) (cp_zero w))
  have KK := Lib.hid (keep_setCells w.heap.size (Cp.list (newC 0 0) newS) 0 (w.alloc (.cells #[.int .i64 0, .int .u32 0, .int .u32 0, .slice none 0 0, .slice none 0 0, .int .u32 0, .int .u32 0, .int .u32 0, .int .u32 0, .slice none 0 0] 42)))
  have H0 := Lib.hid h
  clear h
  go_enter Try.func22, Try.ntmps22
  go_wp2_with (refine wpList_store_mid rfl 42 (.tmp 10) (.tmp 29) rfl w.heap.size 0 ⟨Cp.list (newC 0 0) newS⟩ rfl rfl TH.out (cp_size _ _) (cp_ones _ _) ?_)
  have bz := B1.out.trans (KK.out.below B1.out.size (by simp))
  refine bodyPost_ret (res_c1t1 Try.results22 rfl (CpB.load K3.out) rfl) rfl ⟨newS, rfl, CpO.zero _ _, H0.out.below bz, Trn.of_below b s bz⟩
set_option maxHeartbeats 4000000 in
theorem fence_b2 (w : World) (h : StR w B sb gm b nm c s) (of inc : Int) (h0 : ¬ of < 0) (h1 : ¬ 4 ≤ of) (h2 : (of == nm.r) = true) : Calls Try.prog 22 #[.pointer (some ⟨sb, 0, none⟩), .int .i64 nm.b, .int .i64 nm.r, .int .i64 of, .int .u32 inc] w (FnEnd w B sb gm b nm s (newC 0 0) 1 c) := by
  have B1 := Lib.hid (below_alloc (Below.refl w.heap.size w) (.cells #[.int .i64 0, .int .u32 0, .int .u32 0, .slice none 0 0, .slice none 0 0, .int .u32 0, .int .u32 0, .int .u32 0, .int .u32 0, .slice none 0 0] 42))
  have TH := Lib.hid (cp_zero w).there
  have K3 := Lib.hid (CpB.laid (c := newC 0 0) (s := newS) (cp_zero w))
  have KK := Lib.hid (keep_setCells w.heap.size (Cp.list (newC 0 0) newS) 0 (w.alloc (.cells #[.int .i64 0, .int .u32 0, .int .u32 0, .slice none 0 0, .slice none 0 0, .int .u32 0, .int .u32 0, .int .u32 0, .int .u32 0, .slice none 0 0] 42)))
  have H0 := Lib.hid h
  clear h
  go_enter Try.func22, Try.ntmps22
  go_wp2_with (refine wpList_store_mid rfl 42 (.tmp 10) (.tmp 29) rfl w.heap.size 0 ⟨Cp.list (newC 0 0) newS⟩ rfl rfl TH.out (cp_size _ _) (cp_ones _ _) ?_)
  have bz := B1.out.trans (KK.out.below B1.out.size (by simp))
  refine bodyPost_ret (res_c1t1 Try.results22 rfl (CpB.load K3.out) rfl) rfl ⟨newS, rfl, CpO.zero _ _, H0.out.below bz, Trn.of_below b s bz⟩
set_option maxHeartbeats 4000000 in
theorem fence_b3 (w : World) (h : StR w B sb gm b nm c s) (of inc : Int) (h0 : ¬ of < 0) (h1 : ¬ 4 ≤ of) (h2 : (of == nm.r) = false) (h3 : (inc == 0) = true) : Calls Try.prog 22 #[.pointer (some ⟨sb, 0, none⟩), .int .i64 nm.b, .int .i64 nm.r, .int .i64 of, .int .u32 inc] w (FnEnd w B sb gm b nm s (newC 0 0) 1 c) := by
  have B1 := Lib.hid (below_alloc (Below.refl w.heap.size w) (.cells #[.int .i64 0, .int .u32 0, .int .u32 0, .slice none 0 0, .slice none 0 0, .int .u32 0, .int .u32 0, .int .u32 0, .int .u32 0, .slice none 0 0] 42))
  have TH := Lib.hid (cp_zero w).there
  have K3 := Lib.hid (CpB.laid (c := newC 0 0) (s := newS) (cp_zero w))
  have KK := Lib.hid (keep_setCells w.heap.size (Cp.list (newC 0 0) newS) 0 (w.alloc (.cells #[.int .i64 0, .int .u32 0, .int .u32 0, .slice none 0 0, .slice none 0 0, .int .u32 0, .int .u32 0, .int .u32 0, .int .u32 0, .slice none 0 0] 42)))
  have H0 := Lib.hid h
  clear h
  go_enter Try.func22, Try.ntmps22
  go_wp2_with (refine wpList_store_mid rfl 42 (.tmp 10) (.tmp 29) rfl w.heap.size 0 ⟨Cp.list (newC 0 0) newS⟩ rfl rfl TH.out (cp_size _ _) (cp_ones _ _) ?_)
  have bz := B1.out.trans (KK.out.below B1.out.size (by simp))
  refine bodyPost_ret (res_c1t1 Try.results22 rfl (CpB.load K3.out) rfl) rfl ⟨newS, rfl, CpO.zero _ _, H0.out.below bz, Trn.of_below b s bz⟩
set_option maxHeartbeats 8000000 in
theorem fence_ok (w : World) (h : StR w B sb gm b nm c s) (hs : c.state = 2) (q : Nat) (hq : q < 4) (inc : Int) (h2 : (((q : Nat) : Int) == nm.r) = false) (h3 : (inc == 0) = false) {ct c1 : Cp} {er : Int} (hA : inc < c.fen q → newC 0 0 = ct ∧ 153 = er ∧ c = c1) (hB : ¬ inc < c.fen q → c.setF q inc = ct ∧ 0 = er ∧ c.setF q inc = c1) : Calls Try.prog 22 #[.pointer (some ⟨sb, 0, none⟩), .int .i64 nm.b, .int .i64 nm.r, .int .i64 (q : Int), .int .u32 inc] w
    (FnEnd w B sb gm b nm s ct er c1) := by
  have HA := Lib.hid hA; have HB := Lib.hid hB
  clear hA hB
  obtain ⟨W, hW⟩ : ∃ W, W = w.alloc (.cells #[.int .i64 0, .int .u32 0, .int .u32 0, .slice none 0 0, .slice none 0 0, .int .u32 0, .int .u32 0, .int .u32 0, .int .u32 0, .slice none 0 0] 42) := ⟨_, rfl⟩
  have bW : Below w.heap.size w W := by rw [hW]; exact below_alloc (Below.refl _ _) _
  have hz : W.heap.size = w.heap.size + 1 := by rw [hW]; simp
  have k1 : CpB W w.heap.size (newC 0 0) newS := by rw [hW]; exact cp_zero w
  have h1 := h.below bW
  have F := Lib.hid (full_yes W h1 hs)
  have HZ := Lib.hid hz; have K1 := Lib.hid k1; have BW := Lib.hid bW
  have H0 := Lib.hid h; have H1 := Lib.hid h1
  have HBB := Lib.hid (show w.heap.size ∉ s.mut b from fun hm => by have := h.row.mlt _ hm; omega)
  have hx0 : ¬ ((q : Nat) : Int) < 0 := by omega
  have hx1 : ¬ 4 ≤ ((q : Nat) : Int) := by omega
  have hx2 : ((q : Nat) : Int) < 4 := by omega
  have hx3 : (0 : Int) ≤ ((q : Nat) : Int) := by omega
  clear h bW hz k1 h1 hs
  go_enter Try.func22, Try.ntmps22
  go_upto_region 1 with (fail)
  rw [← hW]
  clear hW
  generalize hbi : w.heap.size = bi at K1 HZ HBB ⊢
  go_wp2_with fail
  refine F.out.mono ?_; rintro e w1 ⟨rfl, rfl⟩
  have y5 := fen_cell H1.out.row q hq
  have f5 := H1.out.row.fr (5 + q)
  obtain ⟨fe, hfe⟩ : ∃ fe, c.fen q = fe := ⟨_, rfl⟩
  rw [hfe] at y5
  by_cases hlt : inc < fe
  · have TH := Lib.hid K1.out.there
    have K3 := Lib.hid (CpB.laid (c := newC 0 0) (s := newS) K1.out)
    have KK := Lib.hid (keep_setCells bi (Cp.list (newC 0 0) newS) 0 W)
    have HLT := Lib.hid (show inc < c.fen q by rw [hfe]; exact hlt)
    clear hfe
    have BZ : Hid (RowKit.Below w.heap.size w (W.setCells bi 0 (Cp.list (newC 0 0) newS))) := Lib.hid (BW.out.trans (KK.out.below BW.out.size (by simp [hbi])))
    go_wp2_with (refine wpList_store_mid rfl 42 (.tmp 10) (.tmp 50) rfl bi 0 ⟨Cp.list (newC 0 0) newS⟩ rfl rfl TH.out (cp_size _ _) (cp_ones _ _) ?_; change wpList _ _ _ _ _ (W.setCells bi 0 (Cp.list (newC 0 0) newS)); generalize W.setCells bi 0 (Cp.list (newC 0 0) newS) = w4 at *)
    have bz := BZ.out
    refine bodyPost_ret (res_c1t1 Try.results22 rfl (CpB.load K3.out) rfl) rfl ?_
    obtain ⟨rfl, rfl, rfl⟩ := HA.out HLT.out
    exact ⟨newS, rfl, CpO.zero _ _, H0.out.below bz, Trn.of_below b s bz⟩
  · have HLT := Lib.hid (show ¬ inc < c.fen q by rw [hfe]; exact hlt)
    clear hfe
    have PF := Lib.hid (H1.out.row.setF q hq inc)
    have K2 := Lib.hid (K1.out.keep PF.out.2.keep HBB.out)
    have H2 := Lib.hid (H1.out.turn PF.out.1 PF.out.2)
    have T2 := Lib.hid (show Trn b s s w (W.setCell ⟨b, 5 + q, none⟩ (.int .u32 inc)) from (Trn.of_below b s BW.out).trans PF.out.2)
    have HS2 := Lib.hid (show (W.setCell ⟨b, 5 + q, none⟩ (.int .u32 inc)).heap.size = bi + 1 by rw [← HZ.out]; simp [World.setCell])
    go_upto_region 9 with (fail)
    clear y5 f5
    generalize W.setCell ⟨b, 5 + q, none⟩ (.int .u32 inc) = w2 at *
    have C := Lib.hid (clonecopy_any w2 (c.setF q inc) s H2.out.row.cpr)
    have RG := Lib.hid H2.out.row.range
    go_wp2_with (refine wpList_load_mid rfl 42 (.tmp 60) rfl b 0 rfl ((c.setF q inc).list s) _ RG.out Try.underlying42 rfl (cp_size _ _) ?_)
    refine C.out.mono ?_; rintro e w3 ⟨s', rfl, o3, b3⟩
    have K3 := Lib.hid (K2.out.below b3)
    have TH := Lib.hid K3.out.there
    have kk := keep_setCells bi ((c.setF q inc).list s') 0 w3
    have O4 := Lib.hid ((o3.keep kk (by have := HS2.out; simp; omega)).base (show w.heap.size ≤ w2.heap.size by have := HS2.out; omega))
    have hbs : ∀ g ∈ sb :: gm :: (s.mut b ++ s.dat), g ∉ [bi] := fun g hg e => by
      have e1 : g = bi := by simpa using e
      subst e1
      simp only [List.mem_cons, List.mem_append] at hg
      rcases hg with e | e | e | e
      · have := H0.out.slt; omega
      · have := H0.out.map.lt; omega
      · exact HBB.out e
      · have := H0.out.row.lt _ e; omega
    have H4 := Lib.hid ((H2.out.below b3).keep kk hbs)
    have T4 := Lib.hid (show Trn b s s w (w3.setCells bi 0 ((c.setF q inc).list s')) from ⟨((T2.out.trans (Trn.of_below b s b3)).keep).cut kk (fun g hg => .inr (by simp at hg; omega)), fun g hg => .inl hg, fun g hg => .inl hg⟩)
    have K4 := Lib.hid (CpB.laid (c := c.setF q inc) (s := s') K3.out)
    clear kk o3 b3
    go_wp2_with (refine wpList_store_mid rfl 42 (.tmp 10) (.tmp 62) rfl bi 0 ⟨(c.setF q inc).list s'⟩ rfl rfl TH.out (cp_size _ _) (cp_ones _ _) ?_; change wpList _ _ _ _ _ (w3.setCells bi 0 ((c.setF q inc).list s')); generalize w3.setCells bi 0 ((c.setF q inc).list s') = w4 at *)
    refine bodyPost_ret (res_c1t1 Try.results22 rfl (CpB.load K4.out) rfl) rfl ?_
    obtain ⟨rfl, rfl, rfl⟩ := HB.out HLT.out
    exact ⟨s', rfl, O4.out, H4.out, T4.out⟩
theorem fence_any (w : World) (h : StR w B sb gm b nm c s) (hs : c.state = 2) (of inc : Int) : Calls Try.prog 22 #[.pointer (some ⟨sb, 0, none⟩), .int .i64 nm.b, .int .i64 nm.r, .int .i64 of, .int .u32 inc] w
    (FnEnd w B sb gm b nm s (fenceR nm.r c of inc).1 (fenceR nm.r c of inc).2.1 (fenceR nm.r c of inc).2.2) := by
  by_cases h0 : of < 0
  · rw [show fenceR nm.r c of inc = (newC 0 0, 1, c) from by unfold fenceR; rw [if_pos (.inl h0)]]
    exact fence_b0 w h of inc h0
  by_cases h1 : 4 ≤ of
  · rw [show fenceR nm.r c of inc = (newC 0 0, 1, c) from by unfold fenceR; rw [if_pos (.inr (.inl h1))]]
    exact fence_b1 w h of inc h0 h1
  by_cases h2 : of = nm.r
  · rw [show fenceR nm.r c of inc = (newC 0 0, 1, c) from by unfold fenceR; rw [if_pos (.inr (.inr (.inl h2)))]]
    exact fence_b2 w h of inc h0 h1 (by simpa using h2)
  by_cases h3 : inc = 0
  · rw [show fenceR nm.r c of inc = (newC 0 0, 1, c) from by unfold fenceR; rw [if_pos (.inr (.inr (.inr h3)))]]
    exact fence_b3 w h of inc h0 h1 (by simpa using h2) (by simpa using h3)
  obtain ⟨q, rfl⟩ : ∃ q : Nat, of = (q : Int) := ⟨of.toNat, by omega⟩
  have := fence_ok w h hs q (by omega) inc (by simpa using h2) (by simpa using h3) (ct := if inc < c.fen q then newC 0 0 else c.setF q inc) (er := if inc < c.fen q then 153 else 0) (c1 := if inc < c.fen q then c else c.setF q inc) (fun hl => by simp [hl]) (fun hl => by simp [hl])
  have e : fenceR nm.r c (q : Int) inc = (if inc < c.fen q then newC 0 0 else c.setF q inc, if inc < c.fen q then 153 else 0, if inc < c.fen q then c else c.setF q inc) := by
    unfold fenceR
    rw [if_neg (by rintro (h | h | h | h) <;> first | exact h0 h | exact h1 h | exact h2 h | exact h3 h), Int.toNat_natCast]
    split <;> rfl
  rw [e]
  exact this
end
end Go.Proofs.Ytbjcmomicjdepaa
