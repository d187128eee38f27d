/- Extract, Fence, Read. -/
import Derived.Test.YtbjcmomicjdepaaCc
namespace Go.Proofs.Ytbjcmomicjdepaa
open Go.RowKit Go.Sort
set_option linter.unusedVariables false
set_option linter.unusedSimpArgs false
set_option linter.unusedSectionVars false
set_option maxRecDepth 100000
section
variable {w w' : World} {B sb gm b : Nat} {nm : Nm} {c : Cp} {s : Cs}
theorem CpO.zero (w : World) (B : Nat) : CpO w B (newC 0 0) newS :=
  ⟨rfl, owns_nil _ _ _ _, Fit.nil, owns_nil _ _ _ _, fun x hx => by simp at hx, owns_nil _ _ _ _, by simp, by simp, fun x hx => by simp at hx, fun g hg => by simp [blk] at hg, fun g hg => by simp [blk] at hg⟩
theorem CpO.keep {U : List Nat} (h : CpO w B c s) (k : Keep U w w') (hn : ∀ q ∈ U, q < B) : CpO w' B c s :=
  ⟨h.ll, owns_keep h.d k (blk_own _ _ _ fun g hg e => by have := (owns_blk h.d g hg).1; have := hn g e; omega), h.fd, owns_keep h.l k (blk_own _ _ _ fun g hg e => by have := (owns_blk h.l g hg).1; have := hn g e; omega),
    fun x hx => ⟨owns_keep (h.le x hx).1 k (blk_own _ _ _ fun g hg e => by have := (owns_blk (h.le x hx).1 g hg).1; have := hn g e; omega), (h.le x hx).2⟩, owns_keep h.v k (blk_own _ _ _ fun g hg e => by have := (owns_blk h.v g hg).1; have := hn g e; omega), h.few, h.fev, h.ap, h.dp, h.vp⟩
theorem CpO.base {B' : Nat} (h : CpO w B c s) (hb : B' ≤ B) : CpO w B' c s :=
  ⟨h.ll, owns_base h.d hb, h.fd, owns_base h.l hb, fun x hx => ⟨owns_base (h.le x hx).1 hb, (h.le x hx).2⟩, owns_base h.v hb, h.few, h.fev, h.ap, h.dp, h.vp⟩
/-- what a call ends in that tells a copy -/
def CpEnd (w : World) (c : Cp) (e : Int) (r : Ending) (w' : World) : Prop := ∃ s', r = .returned (.tuple #[.agg ⟨c.list s'⟩, .int .i64 e]) ∧ CpO w' w.heap.size c s' ∧ Below w.heap.size w w'
set_option maxHeartbeats 4000000 in
theorem extract_any (w : World) (h : StR w B sb gm b nm c s) : Calls Try.prog 20 #[.pointer (some ⟨sb, 0, none⟩), .int .i64 nm.b, .int .i64 nm.r] w (CpEnd w c 0) := by
  obtain ⟨W, hW⟩ : ∃ W, W = w.alloc (.cells #[.int .i64 0, .int .u32 0, .int .u32 0, .slice none 0 0, .slice none 0 0, .int .u32 0, .int .u32 0, .int .u32 0, .int .u32 0, .slice none 0 0] 42) := ⟨_, rfl⟩
  have bW : Below w.heap.size w W := by rw [hW]; exact below_alloc (Below.refl _ _) _
  have hz : W.heap.size = w.heap.size + 1 := by rw [hW]; simp
  have k1 : CpB W w.heap.size (newC 0 0) newS := by rw [hW]; exact cp_zero w
  have h1 := h.below bW
  have F := Lib.hid (find_yes W h1)
  have C := Lib.hid (clonecopy_any W c s h1.row.cpr)
  have RG := Lib.hid h1.row.range
  have HZ := Lib.hid hz; have K1 := Lib.hid k1; have BW := Lib.hid bW
  clear h bW hz k1 h1
  go_enter Try.func20, Try.ntmps20
  go_upto_region 1 with (fail)
  rw [← hW]
  clear hW
  generalize hbi : w.heap.size = bi at K1 HZ ⊢
  go_wp2_with fail
  refine F.out.mono ?_; rintro e w1 ⟨rfl, rfl⟩
  go_wp2_with (refine wpList_load_mid rfl 42 (.tmp 23) rfl b 0 rfl (c.list s) _ RG.out Try.underlying42 rfl (cp_size _ _) ?_)
  refine C.out.mono ?_; rintro e w2 ⟨s', rfl, o2, b2⟩
  have K2 := Lib.hid (K1.out.below b2)
  have TH := Lib.hid K2.out.there
  have kk := keep_setCells bi (c.list s') 0 w2
  have O3 := Lib.hid ((o2.keep kk (by have := HZ.out; simp; omega)).base (show w.heap.size ≤ W.heap.size by have := HZ.out; omega))
  have B3 := Lib.hid ((below_next BW.out b2).trans (kk.below (B := w.heap.size) (by have := (below_next BW.out b2).size; omega) (by simp [hbi])))
  have K3 := Lib.hid (CpB.laid (c := c) (s := s') K2.out)
  clear kk o2 b2
  go_wp2_with (refine wpList_store_mid rfl 42 (.tmp 6) (.tmp 25) rfl bi 0 ⟨c.list s'⟩ rfl rfl TH.out (cp_size _ _) (cp_ones _ _) ?_; change wpList _ _ _ _ _ (w2.setCells bi 0 (c.list s')); generalize w2.setCells bi 0 (c.list s') = w3 at *)
  refine bodyPost_ret (res_c1t1 Try.results20 rfl (CpB.load K3.out) rfl) rfl ⟨s', rfl, O3.out, B3.out⟩
set_option maxHeartbeats 2000000 in
theorem extract_nil (x y : Int) (w : World) : Calls Try.prog 20 #[.pointer none, .int .i64 x, .int .i64 y] w (CpEnd w (newC 0 0) 1) := by
  have F := Lib.hid (fun w => find_nil x y w)
  have k1 := cp_zero w
  have b1 := below_alloc (Below.refl w.heap.size w) (.cells #[.int .i64 0, .int .u32 0, .int .u32 0, .slice none 0 0, .slice none 0 0, .int .u32 0, .int .u32 0, .int .u32 0, .int .u32 0, .slice none 0 0] 42)
  have K1 := Lib.hid k1; have B1 := Lib.hid b1
  clear k1 b1
  go_enter Try.func20, Try.ntmps20
  go_wp2_with fail
  refine (F.out _).mono ?_; rintro e w1 ⟨rfl, rfl⟩
  go_upto_region 3 with (fail)
  have TH := Lib.hid K1.out.there
  have K3 := Lib.hid (CpB.laid (c := newC 0 0) (s := newS) K1.out)
  have KK := Lib.hid (keep_setCells w.heap.size (Cp.list (newC 0 0) newS) 0 (w.alloc (.cells #[.int .i64 0, .int .u32 0, .int .u32 0, .slice none 0 0, .slice none 0 0, .int .u32 0, .int .u32 0, .int .u32 0, .int .u32 0, .slice none 0 0] 42)))
  go_wp2_with (refine wpList_store_mid rfl 42 (.tmp 6) (.tmp 19) rfl w.heap.size 0 ⟨Cp.list (newC 0 0) newS⟩ rfl rfl TH.out (cp_size _ _) (cp_ones _ _) ?_)
  refine bodyPost_ret (res_c1t1 Try.results20 rfl (CpB.load K3.out) rfl) rfl ⟨newS, rfl, CpO.zero _ _, ?_⟩
  exact B1.out.trans (KK.out.below B1.out.size (by simp))
end
end Go.Proofs.Ytbjcmomicjdepaa
