/- Open; cloneCopy, Extract. -/
import Derived.Test.YtbjcmomicjdepaaOp
namespace Go.Proofs.Ytbjcmomicjdepaa
open Go.RowKit Go.Sort
set_option linter.unusedVariables false
set_option linter.unusedSimpArgs false
set_option linter.unusedSectionVars false
set_option maxRecDepth 100000
section
variable {w w' : World} {B sb gm b : Nat} {nm : Nm}
set_option maxHeartbeats 4000000 in
theorem open_new (w : World) (h : NewR w sb) (hok : 0 ≤ nm.b ∧ nm.b < 64 ∧ 0 ≤ nm.r ∧ nm.r < 4) (inc : Int) (hi : inc ≠ 0) (fu : Bool) : Calls Try.prog 17 #[.pointer (some ⟨sb, 0, none⟩), .int .i64 nm.b, .int .i64 nm.r, .int .u32 inc, .bool fu] w fun e w' =>
    e = .returned (.int .i64 0) ∧ ∃ gm b, StR w' sb sb gm b nm (newC (if fu then 2 else 1) inc) newS ∧ Keep [sb] w w' := by
  have P := Lib.hid (refusal_new (nm := nm) w h hok)
  have hib : (inc == 0) = false := by simpa using hi
  obtain ⟨st, hst⟩ : ∃ st, (if fu then 2 else 1 : Int) = st := ⟨_, rfl⟩
  have b1 := below_alloc (Below.refl w.heap.size w) (.cells ⟨(newC st inc).list newS⟩ 42)
  have k1 := CpB.new w (newC st inc) newS
  have A := Lib.hid (add_new (nm := nm) _ (h.below b1) hok st inc)
  have RG := Lib.hid k1.range
  have B1 := Lib.hid b1
  rw [hst]
  clear h hok hi b1 k1
  cases fu with
  | false =>
    simp only [Bool.false_eq_true, if_false] at hst
    subst hst
    go_enter Try.func17, Try.ntmps17
    go_wp2_with fail
    refine P.out.mono ?_; rintro e w1 ⟨rfl, rfl⟩
    go_wp2_with (refine wpList_load_mid rfl 42 (.tmp 12) rfl w.heap.size 0 rfl ((newC 1 inc).list newS) _ RG.out Try.underlying42 rfl (cp_size _ _) ?_)
    refine A.out.mono ?_; rintro e w2 ⟨rfl, gm, b, st, kp⟩
    have HS := Lib.hid st
    have KP := Lib.hid ((Keep.of_below B1.out [sb]).trans kp)
    clear st kp
    go_wp2_with fail
    go_ret
    first | exact ⟨rfl, gm, b, HS.out, KP.out⟩ | exact ⟨rfl, ⟨gm, b, HS.out⟩, KP.out⟩
  | true =>
    simp only [if_true] at hst
    subst hst
    go_enter Try.func17, Try.ntmps17
    go_wp2_with fail
    refine P.out.mono ?_; rintro e w1 ⟨rfl, rfl⟩
    go_upto_region 9 with (fail)
    go_wp2_with (refine wpList_load_mid rfl 42 (.tmp 12) rfl w.heap.size 0 rfl ((newC 2 inc).list newS) _ RG.out Try.underlying42 rfl (cp_size _ _) ?_)
    refine A.out.mono ?_; rintro e w2 ⟨rfl, gm, b, st, kp⟩
    have HS := Lib.hid st
    have KP := Lib.hid ((Keep.of_below B1.out [sb]).trans kp)
    clear st kp
    go_wp2_with fail
    go_ret
    first | exact ⟨rfl, gm, b, HS.out, KP.out⟩ | exact ⟨rfl, ⟨gm, b, HS.out⟩, KP.out⟩
/-- what reads as a copy -/
structure CpR (w : World) (c : Cp) (s : Cs) : Prop where
  ll : s.la.length = c.ls.length
  d : EsR w s.d c.es
  fd : Fit c.es
  l : Rds w 12 s.l.ao ((c.ls.zip s.la).map lkc)
  ln : s.l.ao = none → c.ls = [] ∧ s.l.cap = 0
  le : ∀ x ∈ c.ls.zip s.la, EsR w x.2 x.1.it.es ∧ Fit x.1.it.es
  v : Rds w 2 s.v.ao (c.vs.map Vd.list)
  vn : s.v.ao = none → c.vs = [] ∧ s.v.cap = 0
  few : c.ls.length ≤ 1099511627776
  fev : c.vs.length ≤ 1099511627776
theorem CpR.below {c : Cp} {s : Cs} (h : CpR w c s) (k : Below w.heap.size w w') : CpR w' c s :=
  ⟨h.ll, h.d.below k, h.fd, h.l.below k, h.ln, fun x hx => ⟨(h.le x hx).1.below k, (h.le x hx).2⟩, h.v.below k, h.vn, h.few, h.fev⟩
theorem own_none {B z n cap : Nat} {e : TypeId} {ao : Option Addr} {xs : List Value} (h : w.ownsRow B e z (.slice ao n cap) n xs) : ao = none → n = 0 ∧ cap = 0 := fun q => by
  subst q
  rcases h.2 with ⟨h2, h3⟩ | ⟨g', cap', cur, h2, _⟩
  · simp only [Value.slice.injEq] at h2
    exact ⟨h3, h2.2.2⟩
  · simp at h2
theorem RowR.cpr {rep : Int} {c : Cp} {s : Cs} (h : RowR w B b rep c s) : CpR w c s :=
  ⟨h.ll, h.d, h.fd, h.locks, fun q => ⟨List.length_eq_zero_iff.1 (own_none h.l q).1, (own_none h.l q).2⟩, h.le, h.votes, fun q => ⟨List.length_eq_zero_iff.1 (own_none h.v q).1, (own_none h.v q).2⟩, by have := h.few; omega, by have := h.fev; omega⟩
/-- memory of the call's own that holds a copy -/
structure CpO (w : World) (B : Nat) (c : Cp) (s : Cs) : Prop where
  ll : s.la.length = c.ls.length
  d : EsO w B s.d c.es
  fd : Fit c.es
  l : w.ownsRow B 38 12 (.slice s.l.ao c.ls.length s.l.cap) c.ls.length (fl lkc (c.ls.zip s.la))
  le : ∀ x ∈ c.ls.zip s.la, EsO w B x.2 x.1.it.es ∧ Fit x.1.it.es
  v : w.ownsRow B 51 2 (.slice s.v.ao c.vs.length s.v.cap) c.vs.length (fl Vd.list c.vs)
  few : c.ls.length ≤ 1099511627776
  fev : c.vs.length ≤ 1099511627776
  ap : ∀ x ∈ c.ls.zip s.la, ∀ g ∈ blk x.2.ao, g ∉ blk s.l.ao
  dp : ∀ g ∈ blk s.d.ao, g ∉ blk s.l.ao
  vp : ∀ g ∈ blk s.v.ao, g ∉ blk s.l.ao
theorem CpO.below {c : Cp} {s : Cs} (h : CpO w B c s) (k : Below w.heap.size w w') : CpO w' B c s :=
  ⟨h.ll, own_below h.d k, h.fd, own_below h.l k, fun x hx => ⟨own_below (h.le x hx).1 k, (h.le x hx).2⟩, own_below h.v k, h.few, h.fev, h.ap, h.dp, h.vp⟩
theorem CpO.zlen {c : Cp} {s : Cs} (h : CpO w B c s) : (c.ls.zip s.la).length = c.ls.length := by rw [List.length_zip, h.ll, Nat.min_self]
theorem CpO.cpr {c : Cp} {s : Cs} (h : CpO w B c s) : CpR w c s :=
  ⟨h.ll, h.d.rd h.fd, h.fd, Rds.of_own lkc_len h.zlen h.l, fun q => ⟨List.length_eq_zero_iff.1 (own_none h.l q).1, (own_none h.l q).2⟩, fun x hx => ⟨(h.le x hx).1.rd (h.le x hx).2, (h.le x hx).2⟩, Rds.of_own vd_len rfl h.v, fun q => ⟨List.length_eq_zero_iff.1 (own_none h.v q).1, (own_none h.v q).2⟩, h.few, h.fev⟩
theorem CpB.set3 {c : Cp} {s : Cs} (h : CpB w b c s) (t : Sd) : CpB (w.setCell ⟨b, 3, none⟩ (.slice t.ao c.es.length t.cap)) b c {s with d := t} := (heap_setCell_same w b 3 _ _ _ h).trans rfl
theorem CpB.set4 {c : Cp} {s : Cs} (h : CpB w b c s) (t : Sd) : CpB (w.setCell ⟨b, 4, none⟩ (.slice t.ao c.ls.length t.cap)) b c {s with l := t} := (heap_setCell_same w b 4 _ _ _ h).trans rfl
theorem CpB.set9 {c : Cp} {s : Cs} (h : CpB w b c s) (t : Sd) : CpB (w.setCell ⟨b, 9, none⟩ (.slice t.ao c.vs.length t.cap)) b c {s with v := t} := (heap_setCell_same w b 9 _ _ _ h).trans rfl
theorem CpB.la {c : Cp} {s : Cs} (h : CpB w b c s) (la : List Sd) : CpB w b c {s with la := la} := h
theorem cp_zero (w : World) : CpB (w.alloc (.cells #[.int .i64 0, .int .u32 0, .int .u32 0, .slice none 0 0, .slice none 0 0, .int .u32 0, .int .u32 0, .int .u32 0, .int .u32 0, .slice none 0 0] 42)) w.heap.size (newC 0 0) newS := heap_alloc_new w _
theorem zip_set {α β : Type} : ∀ (l : List α) (m : List β) (k : Nat) (x : α) (y : β), l[k]? = some x → (l.zip m).set k (x, y) = l.zip (m.set k y)
  | [], m, k, x, y, h => by simp at h
  | a :: r, [], k, x, y, h => by simp
  | a :: r, b :: q, 0, x, y, h => by simp at h; simp [h]
  | a :: r, b :: q, k + 1, x, y, h => by
    simp at h
    simp [zip_set r q k x y h]
set_option maxHeartbeats 16000000 in
theorem clonecopy_any (w : World) (c : Cp) (s : Cs) (h : CpR w c s) : Calls Try.prog 48 #[.agg ⟨c.list s⟩] w fun e w' => ∃ s', e = .returned (.agg ⟨c.list s'⟩) ∧ CpO w' w.heap.size c s' ∧ Below w.heap.size w w' := by
  obtain ⟨W, hW⟩ : ∃ W, W = (w.alloc (.cells ⟨c.list s⟩ 42)).alloc (.cells #[.int .i64 0, .int .u32 0, .int .u32 0, .slice none 0 0, .slice none 0 0, .int .u32 0, .int .u32 0, .int .u32 0, .int .u32 0, .slice none 0 0] 42) := ⟨_, rfl⟩
  have bW : Below w.heap.size w W := by rw [hW]; exact below_alloc (below_alloc (Below.refl _ _) _) _
  have hz : W.heap.size = w.heap.size + 2 := by rw [hW]; simp
  have k1 : CpB W w.heap.size c s := by rw [hW]; exact (CpB.new w c s).below (below_alloc (Below.refl _ _) _)
  have k2 : CpB W (w.heap.size + 1) (newC 0 0) newS := by
    have := cp_zero (w.alloc (.cells ⟨c.list s⟩ 42))
    rw [← hW, show (w.alloc (.cells ⟨c.list s⟩ 42)).heap.size = w.heap.size + 1 by simp] at this; exact this
  have HR := Lib.hid h
  have C1 := Lib.hid (ce_any W s.d c.es (h.below bW).d h.fd)
  have BW := Lib.hid bW; have HZ := Lib.hid hz; have K1 := Lib.hid k1; have K2 := Lib.hid k2
  have x3 := k1.c 3 _ rfl
  obtain ⟨n, hn⟩ : ∃ n, c.ls.length = n := ⟨_, rfl⟩
  have HN := Lib.hid hn
  have hni : (n : Int) ≤ 1099511627776 := by have := h.few; omega
  clear h bW hz k1 k2 hn
  simp only [Cp.list] at hW ⊢
  go_enter Try.func48, Try.ntmps48
  go_upto_region 1 with (fail)
  rw [← hW]
  clear hW
  generalize hbi : w.heap.size = bi at x3 K1 K2 HZ ⊢
  go_wp2_with fail
  refine C1.out.mono ?_; rintro e w1 ⟨t1, rfl, o1, b1⟩
  have hs1 := b1.size
  have ks := Keep.setCell w1 ⟨bi, 3, none⟩ (.slice t1.ao c.es.length t1.cap)
  have q1 := K1.out.below b1
  have y3 := q1.c 3 _ rfl
  have f3 := q1.fr 3
  have K3 := Lib.hid (q1.set3 t1)
  have K4 := Lib.hid ((K2.out.below b1).keep ks (by simp))
  have D1 := Lib.hid (EsO.base (EsO.keep (s := t1) o1 ks (fun g hg => by have := (EsO.blk (s := t1) o1 g hg).1; have := HZ.out; simp; omega)) (show bi + 2 ≤ W.heap.size by have := HZ.out; omega))
  have hl1 := ks.size
  have HL1 := Lib.hid (show bi + 2 ≤ (w1.setCell ⟨bi, 3, none⟩ (.slice t1.ao c.es.length t1.cap)).heap.size by have := HZ.out; omega)
  have B1 := Lib.hid ((below_next BW.out b1).trans (ks.below (B := w.heap.size) (by have := HZ.out; omega) (by simp [hbi])))
  clear q1 ks o1 b1 hs1 hl1 x3 K1 K2 C1
  obtain ⟨ta, tc⟩ := t1
  simp only at K3 D1 B1 HL1
  go_upto_region 2 with (fail)
  clear y3 f3
  generalize w1.setCell ⟨bi, 3, none⟩ (.slice ta c.es.length tc) = w2 at *
  have C2 := Lib.hid (cloneL_any w2 s.l.ao s.l.cap (c.ls.zip s.la) (HR.out.below B1.out).l (fun q => by have := HR.out.ln q; rw [this.1]; exact ⟨rfl, this.2⟩) (by rw [List.length_zip, HR.out.ll, Nat.min_self]; exact HR.out.few))
  rw [show (c.ls.zip s.la).length = n from by rw [List.length_zip, HR.out.ll, Nat.min_self, HN.out]] at C2
  have x4 := K3.out.c 4 _ rfl
  rw [HN.out] at x4
  go_wp2_with fail
  refine C2.out.mono ?_; rintro e w3 ⟨la2, lc2, rfl, o2, b2⟩
  have hs2 := b2.size
  have q2 := K3.out.below b2
  have y4 := q2.c 4 _ rfl
  have f4 := q2.fr 4
  have ks := Keep.setCell w3 ⟨bi, 4, none⟩ (.slice la2 n lc2)
  have K5 := Lib.hid (show CpB (w3.setCell ⟨bi, 4, none⟩ (.slice la2 n lc2)) bi c {s with d := ⟨ta, tc⟩, l := ⟨la2, lc2⟩} from by have := q2.set4 ⟨la2, lc2⟩; rw [HN.out] at this; exact this)
  have K6 := Lib.hid ((K4.out.below b2).keep ks (by simp))
  have D2 := Lib.hid (EsO.keep (s := ⟨ta, tc⟩) (own_below D1.out b2) ks (fun g hg => by have h1 := (EsO.blk (s := ⟨ta, tc⟩) D1.out g hg).1; simp; omega))
  have DP := Lib.hid (show ∀ g ∈ blk ta, g < w2.heap.size from fun g hg => (EsO.blk (s := ⟨ta, tc⟩) D1.out g hg).2)
  have LP := Lib.hid (show ∀ g ∈ blk la2, w2.heap.size ≤ g ∧ g < w3.heap.size from fun g hg => owns_blk o2 g hg)
  have O2 := Lib.hid (owns_base (owns_keep o2 ks (blk_own _ _ _ fun g hg => by have := (LP.out g hg).1; have := HL1.out; simp; omega)) (show bi + 2 ≤ w2.heap.size from HL1.out))
  have B2 := Lib.hid ((below_next B1.out b2).trans (ks.below (B := w.heap.size) (by have := B1.out.size; omega) (by simp [hbi])))
  have hl3 := ks.size
  have HL3 := Lib.hid (show w3.heap.size ≤ (w3.setCell ⟨bi, 4, none⟩ (.slice la2 n lc2)).heap.size from hl3)
  have HL2 := Lib.hid hs2
  clear q2 ks o2 b2 hs2 hl3 x4 K3 K4 C2 D1 B1
  go_upto_region 3 with (fail)
  clear y4 f4
  generalize w3.setCell ⟨bi, 4, none⟩ (.slice la2 n lc2) = w4 at *
  have x4 := K5.out.c 4 _ rfl
  rw [HN.out] at x4
  go_wp2_with fail
  clear x4
  go_loopw [16] (fun v16 wr => ∃ (k : Nat) (A : List Sd), v16 = .int .i64 (k : Int) ∧ k ≤ n ∧ Hid (A.length = n ∧ (∀ i x, k ≤ i → A[i]? = some x → s.la[i]? = some x) ∧ (∀ i x l, i < k → A[i]? = some x → c.ls[i]? = some l → EsO wr (bi + 2) x l.it.es ∧ ∀ g ∈ blk x.ao, g ∉ blk la2)) ∧ Hid (wr.ownsRow (bi + 2) 38 12 (.slice la2 n lc2) n (fl lkc (c.ls.zip A))) ∧ Hid (CpB wr bi c {s with d := ⟨ta, tc⟩, l := ⟨la2, lc2⟩} ∧ CpB wr (bi + 1) (newC 0 0) newS ∧ EsO wr (bi + 2) ⟨ta, tc⟩ c.es) ∧ Hid (Below w.heap.size w wr ∧ w3.heap.size ≤ wr.heap.size)) (fun v16 _ => n - (intOf v16).toNat)
  case atStart => exact ⟨0, s.la, rfl, Nat.zero_le _, Lib.hid ⟨HR.out.ll.trans HN.out, fun i x _ h => h, fun i x l hi => by omega⟩, O2, Lib.hid ⟨K5.out, K6.out, D2.out⟩, Lib.hid ⟨B2.out, HL3.out⟩⟩
  case round =>
    obtain ⟨k, A, rfl, hk, HA, OR, KR, BR⟩ := hrel
    clear O2 K5 K6 D2 B2
    have hzl : (c.ls.zip A).length = n := by rw [List.length_zip, HA.out.1, HN.out, Nat.min_self]
    have HZL := Lib.hid hzl
    by_cases hkn : k < n
    · obtain ⟨l, hl⟩ : ∃ l, c.ls[k]? = some l := ⟨_, List.getElem?_eq_getElem (by rw [HN.out]; exact hkn)⟩
      obtain ⟨x, hx⟩ : ∃ x, A[k]? = some x := ⟨_, List.getElem?_eq_getElem (by rw [HA.out.1]; exact hkn)⟩
      have hzx : (c.ls.zip A)[k]? = some (l, x) := by rw [List.getElem?_zip_eq_some]; exact ⟨hl, hx⟩
      have hsx : (c.ls.zip s.la)[k]? = some (l, x) := by rw [List.getElem?_zip_eq_some]; exact ⟨hl, HA.out.2.1 k x (Nat.le_refl _) hx⟩
      have hle := HR.out.le _ (List.mem_of_getElem? hsx)
      obtain ⟨g, hg2, hgB, hgl, hcap, hrg, _, _⟩ := own_elem lkc_len OR.out hzl hzx
      have HG2 := Lib.hid hg2
      subst hg2
      have RG := Lib.hid hrg
      have HGB := Lib.hid hgB; have HGL := Lib.hid hgl
      have hki : (k : Int) < (n : Int) := by omega
      have hk0 : (0 : Int) ≤ (k : Int) := by omega
      have HLX := Lib.hid hl; have HXX := Lib.hid hx; have HZX := Lib.hid hzx; have HLE := Lib.hid hle
      clear hrg hzl hl hx hzx hsx hle hgB hgl
      go_upto_region 6 with (refine wpList_load_mid rfl 38 (.tmp 19) rfl g (k * 12) rfl (lkc (l, x)) _ RG.out Try.underlying38 rfl (lk_size _ _) ?_)
      have b2 := below_alloc (Below.refl wr.heap.size wr) (.cells (l.cells x) 38)
      have q2 := LkB.new wr l x
      have hl2 : wr.heap.size < (wr.alloc (.cells (l.cells x) 38)).heap.size := by simp
      have O3 := Lib.hid (own_below OR.out b2)
      have K3 := Lib.hid (show CpB _ bi c {s with d := ⟨ta, tc⟩, l := ⟨some ⟨g, 0, none⟩, lc2⟩} from KR.out.1.below b2)
      have K4 := Lib.hid (KR.out.2.1.below b2)
      have D3 := Lib.hid (own_below KR.out.2.2 b2)
      have B3 := Lib.hid (below_next BR.out.1 b2)
      have A3 := Lib.hid (fun i y m (hi : i < k) (h1 : A[i]? = some y) (h2 : c.ls[i]? = some m) => own_below (HA.out.2.2 i y m hi h1 h2).1 b2)
      simp only [Lk.cells] at b2 q2 hl2 O3 K3 K4 D3 B3 A3
      have HB2 := Lib.hid b2
      clear b2
      generalize wr.alloc (.cells #[.int .u64 l.tx, .int .i64 l.m0, .int .i64 l.m1, .int .i64 l.m2, .int .i64 l.it.bucket, .int .u32 l.it.ver, .bool l.it.write, .slice x.ao l.it.es.length x.cap, .int .u32 l.it.i0, .int .u32 l.it.i1, .int .u32 l.it.i2, .int .u32 l.it.i3] 38) = w5 at *
      have HXB := Lib.hid (show bi < wr.heap.size ∧ bi + 1 < wr.heap.size by have := KR.out.1.lt; have := KR.out.2.1.lt; exact ⟨by omega, by omega⟩)
      have HXG := Lib.hid (show g < wr.heap.size from HGL.out)
      have HXS := Lib.hid (show w3.heap.size ≤ wr.heap.size from BR.out.2)
      generalize wr.heap.size = xb at *
      have Q5 := Lib.hid q2
      clear q2 hl2
      refine wp_region_held_drew (S := fun w' => LkB w' xb l x ∧ w'.cell? ⟨bi, 4, none⟩ = some (.slice (some ⟨g, 0, none⟩) n lc2)) (by kernel_rfl) ⟨Q5.out.below (Below.refl _ _).drew, by have := (K3.out.below (Below.refl _ _).drew).c 4 _ rfl; rw [HN.out] at this; exact this⟩ (fun s0 => ?_)
      have bd := (Below.refl w5.heap.size w5).drew
      have O6 := Lib.hid (own_below O3.out bd)
      have K6 := Lib.hid (K3.out.below bd)
      have K7 := Lib.hid (K4.out.below bd)
      have D6 := Lib.hid (own_below D3.out bd)
      have B6 := Lib.hid (below_next B3.out bd)
      have A6 := Lib.hid (fun i y m (hi : i < k) (h1 : A[i]? = some y) (h2 : c.ls[i]? = some m) => own_below (A3.out i y m hi h1 h2) bd)
      have HS6 := Lib.hid (show xb ≤ w5.drew.heap.size from Nat.le_of_lt Q5.out.lt)
      have C6 := Lib.hid (clonelock_any (l := l) (s := x) w5.drew (HLE.out.1.below B6.out) HLE.out.2)
      clear bd O3 K3 K4 D3 B3 A3
      generalize w5.drew = wd at *
      obtain ⟨ltx, lm0, lm1, lm2, ⟨lbk, lver, lwt, les, li0, li1, li2, li3⟩⟩ := l
      try simp only [Lk.ag] at C6
      refine wpAnyH_take (i := 0) (v := .pointer (some ⟨bi, 4, none⟩)) rfl (by kernel_rfl) (by kernel_rfl) (by kernel_rfl) (fun _ _ _ h => h) (Or.inl ⟨by rfl, fun w' hw' => by go_simp⟩) s0 ?_
      try simp only [Act.put, List.getElem_toArray, List.getElem_cons_succ, List.getElem_cons_zero, List.setIfInBounds_toArray, List.set_cons_zero, List.set_cons_succ, Nat.zero_add, List.nil_append]
      refine wpAnyH_take (i := 1) (v := .slice (some ⟨g, 0, none⟩) n lc2) rfl (by kernel_rfl) (by kernel_rfl) (by kernel_rfl) (fun _ _ _ h => h) (Or.inl ⟨by rfl, fun w' hw' => by have q0 := hw'.2; go_simp⟩) s0 ?_
      try simp only [Act.put, List.getElem_toArray, List.getElem_cons_succ, List.getElem_cons_zero, List.setIfInBounds_toArray, List.set_cons_zero, List.set_cons_succ, Nat.zero_add, List.nil_append]
      refine wpAnyH_take (i := 2) (v := .int .i64 (k : Int)) rfl (by kernel_rfl) (by kernel_rfl) (by kernel_rfl) (fun _ _ _ h => h) (Or.inl ⟨by rfl, fun w' hw' => by go_simp⟩) s0 ?_
      try simp only [Act.put, List.getElem_toArray, List.getElem_cons_succ, List.getElem_cons_zero, List.setIfInBounds_toArray, List.set_cons_zero, List.set_cons_succ, Nat.zero_add, List.nil_append]
      refine wpAnyH_take (i := 3) (v := .agg (Lk.list ⟨ltx, lm0, lm1, lm2, ⟨lbk, lver, lwt, les, li0, li1, li2, li3⟩⟩ x).toArray) rfl (by kernel_rfl) (by kernel_rfl) (by kernel_rfl) (fun _ _ _ h => h) (yieldsIf_load_mid (by rfl) 38 (.tmp 4) rfl xb 0 rfl (Lk.list ⟨ltx, lm0, lm1, lm2, ⟨lbk, lver, lwt, les, li0, li1, li2, li3⟩⟩ x) _ (fun w hw => LkB.range hw.1) Try.underlying38 rfl (lk_size _ _)) s0 ?_
      try simp only [Act.put, List.getElem_toArray, List.getElem_cons_succ, List.getElem_cons_zero, List.setIfInBounds_toArray, List.set_cons_zero, List.set_cons_succ, Nat.zero_add, List.nil_append]
      refine wpAnyH_ready (rs := [4]) (by kernel_rfl) (by simp) ?_
      refine AllReadyH.cons rfl (fun K hK => ?_) AllReadyH.nil
      rw [if_pos (by rfl)]
      go_simp
      refine C6.out.mono ?_; rintro e w6 ⟨t6, rfl, o6, b6⟩
      have s6 : LkB w6 xb ⟨ltx, lm0, lm1, lm2, ⟨lbk, lver, lwt, les, li0, li1, li2, li3⟩⟩ x ∧ w6.cell? ⟨bi, 4, none⟩ = some (.slice (some ⟨g, 0, none⟩) n lc2) := ⟨s0.1.below b6, (b6.cell (p := ⟨bi, 4, none⟩) (by have := HXB.out; have := HS6.out; simp; omega)).trans s0.2⟩
      obtain ⟨t6a, t6c⟩ := t6
      have hb6 := fun q hq => EsO.blk (s := ⟨t6a, t6c⟩) o6 q hq
      have kg := keep_setCells g (lkc (⟨ltx, lm0, lm1, lm2, ⟨lbk, lver, lwt, les, li0, li1, li2, li3⟩⟩, ⟨t6a, t6c⟩)) (k * 12) w6
      have hxs := HXB.out; have hxg := HXG.out; have hs6 := HS6.out
      have E7 := Lib.hid (EsO.base (EsO.keep (s := ⟨t6a, t6c⟩) o6 kg (fun q hq => by have := (hb6 q hq).1; simp; omega)) (show bi + 2 ≤ wd.heap.size by omega))
      have E7B := Lib.hid (show ∀ q ∈ blk t6a, q ∉ blk (some (⟨g, 0, none⟩ : Addr)) from fun q hq => by have := (hb6 q hq).1; simp [blk]; omega)
      have TH := Lib.hid (there_own (own_below O6.out b6) (k * 12) 12 (by omega))
      have O7 := Lib.hid (own_setCells lkc_len (own_below O6.out b6) HZL.out (j := k) hkn (⟨ltx, lm0, lm1, lm2, ⟨lbk, lver, lwt, les, li0, li1, li2, li3⟩⟩, ⟨t6a, t6c⟩))
      have K8 := Lib.hid ((K6.out.below b6).keep kg (by have := HGB.out; simp; omega))
      have K9 := Lib.hid ((K7.out.below b6).keep kg (by have := HGB.out; simp; omega))
      have D7 := Lib.hid (EsO.keep (s := ⟨ta, tc⟩) (own_below D6.out b6) kg (fun q hq => by have h1 := DP.out q hq; have h2 := (LP.out g (by simp [blk])).1; simp; omega))
      have A7 := Lib.hid (fun i y m (hi : i < k) (h1 : A[i]? = some y) (h2 : c.ls[i]? = some m) => EsO.keep (s := y) (own_below (A6.out i y m hi h1 h2) b6) kg (fun q hq => by have := (HA.out.2.2 i y m hi h1 h2).2 q hq; simpa [blk] using this))
      have B7 := Lib.hid ((below_next B6.out b6).trans (kg.below (B := w.heap.size) (by have := (below_next B6.out b6).size; omega) (by have := HGB.out; simp; omega)))
      have HS7 := Lib.hid (show w3.heap.size ≤ (w6.setCells g (k * 12) (lkc (⟨ltx, lm0, lm1, lm2, ⟨lbk, lver, lwt, les, li0, li1, li2, li3⟩⟩, ⟨t6a, t6c⟩))).heap.size by have := kg.size; have := b6.size; have := HXS.out; omega)
      have S6Q := Lib.hid s6
      clear kg hb6 o6 hxs hxg hs6 b6
      go_simp
      refine hK.out _ _ s6 (fun _ => ?_)
      clear hK K
      try simp only [Act.put, List.getElem_toArray, List.getElem_cons_succ, List.getElem_cons_zero, List.setIfInBounds_toArray, List.set_cons_zero, List.set_cons_succ, Nat.zero_add, List.nil_append]
      refine wpAnyH_take (i := 5) (v := .pointer (some ⟨g, k * 12, none⟩)) rfl (by kernel_rfl) (by kernel_rfl) (by kernel_rfl) (fun _ _ _ h => h) (Or.inl ⟨by rfl, fun w' hw' => by go_simp⟩) s6 ?_
      try simp only [Act.put, List.getElem_toArray, List.getElem_cons_succ, List.getElem_cons_zero, List.setIfInBounds_toArray, List.set_cons_zero, List.set_cons_succ, Nat.zero_add, List.nil_append]
      refine wpAnyH_ready (rs := [6]) (by kernel_rfl) (by simp) ?_
      refine AllReadyH.cons rfl (fun K hK => ?_) AllReadyH.nil
      rw [if_pos (by rfl)]
      refine wp_store_mid 38 (.tmp 26) (.tmp 25) rfl g (k * 12) ⟨lkc (⟨ltx, lm0, lm1, lm2, ⟨lbk, lver, lwt, les, li0, li1, li2, li3⟩⟩, ⟨t6a, t6c⟩)⟩ rfl rfl TH.out (lk_size _ _) (lk_ones _ _) ?_
      change K _ (w6.setCells g (k * 12) (lkc (⟨ltx, lm0, lm1, lm2, ⟨lbk, lver, lwt, les, li0, li1, li2, li3⟩⟩, ⟨t6a, t6c⟩)))
      have s7 : LkB (w6.setCells g (k * 12) (lkc (⟨ltx, lm0, lm1, lm2, ⟨lbk, lver, lwt, les, li0, li1, li2, li3⟩⟩, ⟨t6a, t6c⟩))) xb ⟨ltx, lm0, lm1, lm2, ⟨lbk, lver, lwt, les, li0, li1, li2, li3⟩⟩ x ∧ (w6.setCells g (k * 12) (lkc (⟨ltx, lm0, lm1, lm2, ⟨lbk, lver, lwt, les, li0, li1, li2, li3⟩⟩, ⟨t6a, t6c⟩))).cell? ⟨bi, 4, none⟩ = some (.slice (some ⟨g, 0, none⟩) n lc2) := ⟨s6.1.keep (keep_setCells _ _ _ _) (by have := HXG.out; simp; omega), ((keep_setCells g (lkc (⟨ltx, lm0, lm1, lm2, ⟨lbk, lver, lwt, les, li0, li1, li2, li3⟩⟩, ⟨t6a, t6c⟩)) (k * 12) w6).cell (a := ⟨bi, 4, none⟩) (by have := K6.out.lt; have := B7.out.size; have := HXB.out; exact (World.block_lt_of_cell? w6 _ s6.2)) (by have := HGB.out; simp; omega)).trans s6.2⟩
      generalize w6.setCells g (k * 12) (lkc (⟨ltx, lm0, lm1, lm2, ⟨lbk, lver, lwt, les, li0, li1, li2, li3⟩⟩, ⟨t6a, t6c⟩)) = w7 at *
      refine hK.out _ _ s7 (fun _ => ?_)
      clear hK K
      try simp only [Act.put, List.getElem_toArray, List.getElem_cons_succ, List.getElem_cons_zero, List.setIfInBounds_toArray, List.set_cons_zero, List.set_cons_succ, Nat.zero_add, List.nil_append]
      refine wpAnyH_done (by kernel_rfl) ?_ _
      clear s0 s6 s7
      go_wp2_with fail
      go_roundw
      case rel =>
        refine ⟨k + 1, A.set k ⟨t6a, t6c⟩, by go_num, by omega, Lib.hid ⟨by rw [List.length_set]; exact HA.out.1, fun i y hi hy => ?_, fun i y m hi hy hm => ?_⟩, Lib.hid ?_, Lib.hid ⟨K8.out, K9.out, D7.out⟩, Lib.hid ⟨B7.out, HS7.out⟩⟩
        · rw [List.getElem?_set_ne (by omega)] at hy
          exact HA.out.2.1 i y (by omega) hy
        · by_cases hik : i = k
          · subst hik
            rw [List.getElem?_set_self (by rw [HA.out.1]; exact hkn)] at hy
            cases hy
            rw [HLX.out] at hm
            cases hm
            exact ⟨E7.out, E7B.out⟩
          · rw [List.getElem?_set_ne (Ne.symm hik)] at hy
            exact ⟨A7.out i y m (by omega) hy hm, (HA.out.2.2 i y m (by omega) hy hm).2⟩
        · have := O7.out
          rw [zip_set _ _ _ _ _ HLX.out] at this
          exact this
      case measure => simp [intOf]; omega
    · obtain rfl : n = k := by omega
      have C8 := Lib.hid (cloneV_any wr s.v.ao s.v.cap c.vs (HR.out.below BR.out.1).v HR.out.vn HR.out.fev)
      have x9 := KR.out.1.c 9 _ rfl
      have hbr := KR.out.1.lt
      have hbr2 := KR.out.2.1.lt
      go_wp2_with fail
      refine C8.out.mono ?_; rintro e w5 ⟨va, vc, rfl, o5, b5⟩
      have q5 := KR.out.1.below b5
      have y9 := q5.c 9 _ rfl
      have f9 := q5.fr 9
      have ks := Keep.setCell w5 ⟨bi, 9, none⟩ (.slice va c.vs.length vc)
      have K6 := Lib.hid (q5.set9 ⟨va, vc⟩)
      have K7 := Lib.hid ((KR.out.2.1.below b5).keep ks (by simp))
      have hne : ∀ q, bi + 2 ≤ q → q ∉ [bi] := fun q hq => by simp; omega
      have D6 := Lib.hid (EsO.keep (s := ⟨ta, tc⟩) (own_below KR.out.2.2 b5) ks (fun q hq => hne q (EsO.blk (s := ⟨ta, tc⟩) KR.out.2.2 q hq).1))
      have O6 := Lib.hid (owns_keep (own_below OR.out b5) ks (blk_own _ _ _ fun q hq => hne q (owns_blk OR.out q hq).1))
      have V6 := Lib.hid (owns_keep o5 ks (blk_own _ _ _ fun q hq => hne q (by have := (owns_blk o5 q hq).1; omega)))
      have VB := Lib.hid (show ∀ q ∈ blk va, wr.heap.size ≤ q from fun q hq => (owns_blk o5 q hq).1)
      have LB := Lib.hid (show ∀ q ∈ blk la2, q < wr.heap.size from fun q hq => (owns_blk OR.out q hq).2)
      have A6 := Lib.hid (fun i y m (hi : i < n) (h1 : A[i]? = some y) (h2 : c.ls[i]? = some m) => EsO.keep (s := y) (own_below (HA.out.2.2 i y m hi h1 h2).1 b5) ks (fun q hq => hne q (EsO.blk (s := y) (HA.out.2.2 i y m hi h1 h2).1 q hq).1))
      have B6 := Lib.hid ((below_next BR.out.1 b5).trans (ks.below (B := w.heap.size) (by have := (below_next BR.out.1 b5).size; omega) (by simp [hbi])))
      have HSW := Lib.hid (show bi + 2 ≤ wr.heap.size by omega)
      clear q5 ks hne o5 b5 x9 C8 hbr hbr2
      go_upto_region 9 with (fail)
      clear y9 f9
      generalize w5.setCell ⟨bi, 9, none⟩ (.slice va c.vs.length vc) = w6 at *
      have K8 := Lib.hid (show CpB w6 bi c ⟨⟨ta, tc⟩, ⟨la2, lc2⟩, ⟨va, vc⟩, A⟩ from K6.out)
      have RG := Lib.hid K8.out.range
      have TH := Lib.hid K7.out.there
      have K9 := Lib.hid (CpB.laid (c := c) (s := ⟨⟨ta, tc⟩, ⟨la2, lc2⟩, ⟨va, vc⟩, A⟩) K7.out)
      have kk := Lib.hid (keep_setCells (bi + 1) (Cp.list c ⟨⟨ta, tc⟩, ⟨la2, lc2⟩, ⟨va, vc⟩, A⟩) 0 w6)
      go_wp2_with (first
        | (refine wpList_load_mid rfl 42 (.tmp 1) rfl bi 0 rfl (Cp.list c ⟨⟨ta, tc⟩, ⟨la2, lc2⟩, ⟨va, vc⟩, A⟩) _ RG.out Try.underlying42 rfl (cp_size _ _) ?_)
        | (refine wpList_store_mid rfl 42 (.tmp 2) (.tmp 32) rfl (bi + 1) 0 ⟨Cp.list c ⟨⟨ta, tc⟩, ⟨la2, lc2⟩, ⟨va, vc⟩, A⟩⟩ rfl rfl TH.out (cp_size _ _) (cp_ones _ _) ?_))
      have hne : ∀ q, bi + 2 ≤ q → q ∉ [bi + 1] := fun q hq => by simp; omega
      refine bodyPost_ret (res_c1 Try.results48 rfl (CpB.load K9.out)) rfl ⟨⟨⟨ta, tc⟩, ⟨la2, lc2⟩, ⟨va, vc⟩, A⟩, rfl, ⟨HA.out.1.trans HN.out.symm, ?_, HR.out.fd, ?_, ?_, ?_, HR.out.few, HR.out.fev, ?_, ?_, ?_⟩, ?_⟩
      · exact EsO.base (EsO.keep (s := ⟨ta, tc⟩) D6.out kk.out (fun q hq => hne q (EsO.blk (s := ⟨ta, tc⟩) D6.out q hq).1)) (by omega)
      · rw [HN.out]
        exact owns_base (owns_keep O6.out kk.out (blk_own _ _ _ fun q hq => hne q (owns_blk O6.out q hq).1)) (by omega)
      · intro y hy
        obtain ⟨i, hi⟩ := List.getElem?_of_mem hy
        rw [List.getElem?_zip_eq_some] at hi
        have hin : i < n := by rw [← HN.out]; exact (List.getElem?_eq_some_iff.1 hi.1).1
        have e6 := A6.out i y.2 y.1 hin hi.2 hi.1
        refine ⟨EsO.base (EsO.keep (s := y.2) e6 kk.out (fun q hq => hne q (EsO.blk (s := y.2) e6 q hq).1)) (by omega), ?_⟩
        refine (HR.out.le (y.1, (s.la[i]'(by rw [HR.out.ll, HN.out]; exact hin))) (List.mem_of_getElem? (i := i) ?_)).2
        rw [List.getElem?_zip_eq_some]
        exact ⟨hi.1, List.getElem?_eq_getElem _⟩
      · exact owns_base (owns_keep V6.out kk.out (blk_own _ _ _ fun q hq => hne q (by have := VB.out q hq; have := HSW.out; omega))) (by have := HSW.out; omega)
      · intro y hy g hg
        obtain ⟨i, hi⟩ := List.getElem?_of_mem hy
        rw [List.getElem?_zip_eq_some] at hi
        have hin : i < n := by rw [← HN.out]; exact (List.getElem?_eq_some_iff.1 hi.1).1
        exact (HA.out.2.2 i y.2 y.1 hin hi.2 hi.1).2 g hg
      · intro g hg q
        have h1 := DP.out g hg
        have h2 := (LP.out g q).1
        omega
      · intro g hg q
        have h1 := VB.out g hg
        have h2 := LB.out g q
        omega
      · exact B6.out.trans (kk.out.below B6.out.size (by simp; omega))
end
end Go.Proofs.Ytbjcmomicjdepaa
