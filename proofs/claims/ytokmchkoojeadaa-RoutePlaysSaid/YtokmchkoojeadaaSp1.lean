/- RoutePlays: a step of the script, kind 1. -/
import Derived.Test.YtokmchkoojeadaaSp0
import Derived.Test.YtokmchkoojeadaaTt
import Derived.Deep.Upon
namespace Go.Proofs.Ytokmchkoojeadaa
open Go.RowKit Go.Sort
set_option linter.unusedVariables false
set_option linter.unusedSimpArgs false
set_option maxRecDepth 100000
theorem wpList_app_peers {w : World} {ops : Array Oper} {rest : List Oper} {o : Oper} {a : Act} {Q : Exit → Act → World → Prop} (hgd : o.guard = none) (s x : Operand) (ho : o.op = .call { callee := .builtin .append, args := #[s, x], argTypes := #[39, 39] })
    {B g ln lc : Nat} {lo : Option Addr} {L : List Pe} (hs : a.eval s = .slice (some ⟨g, 0, none⟩) 0 0) (hown : w.ownsRow B 26 3 (.slice (some ⟨g, 0, none⟩) 0 0) 0 []) (hx : a.eval x = .slice lo ln lc) (hrd : PsRd w lo L) (hn : L.length = ln) (hle : ln * 24 ≤ 140737488355328) (hB : B ≤ w.heap.size)
    (h : ∀ ga ca w', w'.ownsRow B 26 3 (.slice (some ⟨ga, 0, none⟩) ln ca) ln (fl Pe.list L) → Keep [g] w w' → (ga = g ∨ w.heap.size ≤ ga) → wpList Try.prog ops Q rest (a.put o.dst (.slice (some ⟨ga, 0, none⟩) ln ca)) w') : wpList Try.prog ops Q (o :: rest) a w := by
  obtain ⟨i0, hi, hz0, hz1, hz2⟩ := info_parts peer_info
  by_cases h0 : ln = 0
  · subst h0
    obtain rfl : L = [] := List.eq_nil_of_length_eq_zero hn
    have hr : (Builtin.append_ #[39, 39] o.type #[.slice (some ⟨g, 0, none⟩) 0 0, .slice lo 0 lc]).run Try.prog w = .ok (.slice (some ⟨g, 0, none⟩) 0 0) w := by
      refine run_append_nothing w _ _ o.type 26 i0 Try.underlying39 hi (some ⟨g, 0, none⟩) 0 0 (Nat.le_refl _) _ ?_
      cases lo with
      | none => exact Src.ofNil w Try.underlying39 lc
      | some a => exact Src.ofSlice w Try.underlying39 a 0 lc [] (by simp) (by simp) (by simp)
    refine wpList_plain hgd fun K hK => ?_
    unfold Oper.wp execOp
    simp only [ho, resolve, invoke, builtin, Sem.run_bind, Sem.run_pure, Result.andThen_ok, List.map_toArray, List.map_cons, List.map_nil, hs, hx, hr]
    exact hK _ _ (h g 0 w hown (Keep.refl _ _) (.inl rfl))
  · obtain ⟨y, hy⟩ : ∃ y, L[0]? = some y := ⟨_, List.getElem?_eq_getElem (by omega)⟩
    obtain ⟨gx, ox, rfl, _, _⟩ := hrd 0 y hy
    refine wpList_append_lies w hgd s x 39 ho B 26 i0 _ 3 24 Try.underlying39 hi hz0 hz1 hz2 rfl (by decide) _ 0 [] hs hown ⟨gx, ox, none⟩ ln lc (fl Pe.list L) hx (by rw [fl_len pe_len, hn]) (fun j u hu => ?_) (fun u hu => ?_) (by omega) (by unfold maxLen; omega) (by omega) hB _ rfl ?_
    · have hj : j < L.length * 3 := by have := (List.getElem?_eq_some_iff.1 hu).1; rwa [fl_len pe_len] at this
      have hadd : (⟨gx, ox, none⟩ : Addr).add j = ⟨gx, ox + j, none⟩ := by unfold Addr.add; split <;> simp_all
      rw [hadd]
      obtain ⟨z, hz⟩ : ∃ z, L[j / 3]? = some z := ⟨_, List.getElem?_eq_getElem (by omega)⟩
      obtain ⟨g2, o2, e2, _, hc⟩ := hrd (j / 3) z hz
      cases e2
      have h2 := hc (j % 3) (by omega)
      rw [show ox + j / 3 * 3 + j % 3 = ox + j by omega] at h2
      rw [h2, ← hu]
      have h3 := fl_at pe_len L (j / 3) (j % 3) (by omega)
      rw [show j / 3 * 3 + j % 3 = j by omega, hz] at h3
      exact h3.symm
    · obtain ⟨z, _, hz⟩ := List.mem_flatMap.1 hu
      exact pe_one z u hz
    · intro ga ca w' own' gr' at' lt'
      rw [Nat.zero_add, List.nil_append] at own'
      rw [Nat.zero_add]
      have kg : Keep [g] w w' := by have := keep_grown gr'; simpa [blk] using this
      refine h ga ca w' own' kg ?_
      rcases own_gg at' with h1 | h1
      · exact .inl (by simpa [blk] using h1)
      · exact .inr (Nat.le_of_eq h1.symm)
/-- what either Learn ends in -/
def LEnd (T : World → Option Addr → Nat → Prop) (b : Nat) (ao : Option Addr) (F' : List Pe) (er : Int) (w : World) (e : Ending) (w' : World) : Prop := e = .returned (.int .i64 er) ∧ ∃ ao' cap', T w' ao' cap' ∧ Keep (tbB b ao) w w' ∧ (∀ q ∈ tbB b ao', q ∈ tbB b ao ∨ w.heap.size ≤ q) ∧ (ao' = none ∧ F' = [] ∨ F' ≠ [])
theorem learn_both {s p c : Pe} {F L : List Pe} {n : Nat} (i : Int) (hL : F.length ≤ 4) (hn : L.length = n) (hle : n ≤ 140737488355328) (hal : F = [] → (c.n == s.n) = true) : ∃ (F' : List Pe) (er : Int), F'.length ≤ 4 ∧ (F' = [] → (c.n == s.n) = true) ∧
    (∀ w B b ao cap lo lc, TbW w B b ao cap s (nbP s p c) (nbC s c) F → (ao = none ∧ F = [] ∨ F ≠ []) → PsRd w lo L → (L ≠ [] → ∀ q ∈ blk lo, q ∉ tbB b ao) → Calls Try.prog 20 #[.pointer (some ⟨b, 0, none⟩), .int .i64 i, .slice lo n lc] w (LEnd (fun w' ao' cap' => TbW w' B b ao' cap' s (nbP s p c) (nbC s c) F') b ao F' er w)) ∧
    (∀ w B b ao cap lo lc, DbW w B b ao cap s p c F → PsRd w lo L → Calls Try.prog 25 #[.pointer (some ⟨b, 0, none⟩), .int .i64 i, .slice lo n lc] w (fun e w' => e = .returned (.int .i64 er) ∧ ∃ ao' cap', DbW w' B b ao' cap' s p c F' ∧ Keep (tbB b ao) w w' ∧ (∀ q ∈ tbB b ao', q ∈ tbB b ao ∨ w.heap.size ≤ q))) := by
  have no : ∀ {w w' : World} {B b : Nat} {ao : Option Addr} {cap : Nat} {e : Ending}, TbW w B b ao cap s (nbP s p c) (nbC s c) F → (ao = none ∧ F = [] ∨ F ≠ []) → (e = .returned (.int .i64 1) ∧ Below w.heap.size w w') → LEnd (fun w' ao' cap' => TbW w' B b ao' cap' s (nbP s p c) (nbC s c) F) b ao F 1 w e w' := fun h hne he => ⟨he.1, _, _, h.below he.2, Keep.of_below he.2 _, fun q hq => .inl hq, hne⟩
  have dn : ∀ {w w' : World} {B b : Nat} {ao : Option Addr} {cap : Nat} {e : Ending}, DbW w B b ao cap s p c F → (e = .returned (.int .i64 1) ∧ Below w.heap.size w w') → e = .returned (.int .i64 1) ∧ ∃ ao' cap', DbW w' B b ao' cap' s p c F ∧ Keep (tbB b ao) w w' ∧ (∀ q ∈ tbB b ao', q ∈ tbB b ao ∨ w.heap.size ≤ q) := fun h he => ⟨he.1, _, _, h.below he.2, Keep.of_below he.2 _, fun q hq => .inl hq⟩
  by_cases c1 : i < 1
  · exact ⟨F, 1, hL, hal, fun w B b ao cap lo lc h hne hr hx => (learn_low i w h c1).mono fun e w' he => no h hne he, fun w B b ao cap lo lc h hr => (dlearn_low i w h c1).mono fun e w' he => dn h he⟩
  by_cases c2 : 4 ≤ i
  · exact ⟨F, 1, hL, hal, fun w B b ao cap lo lc h hne hr hx => (learn_high i w h c2).mono fun e w' he => no h hne he, fun w B b ao cap lo lc h hr => (dlearn_high i w h c2).mono fun e w' he => dn h he⟩
  by_cases c3 : (F.length : Int) < i
  · exact ⟨F, 1, hL, hal, fun w B b ao cap lo lc h hne hr hx => (learn_few i w h (by omega) (by omega) c3).mono fun e w' he => no h hne he, fun w B b ao cap lo lc h hr => (dlearn_few i w h (by omega) (by omega) c3).mono fun e w' he => dn h he⟩
  cases c4 : mayTell L with
  | false =>
    refine ⟨F, 1, hL, hal, fun w B b ao cap lo lc h hne hr hx => (learn_bad i w h (by omega) (by omega) (by omega) hr hn hle c4).mono fun e w' he => no h hne he, fun w B b ao cap lo lc h hr => ?_⟩
    by_cases c5 : 4 < n
    · exact (dlearn_many i w h (by omega) (by omega) (by omega) c5).mono fun e w' he => dn h he
    · exact (dlearn_bad i w h (by omega) (by omega) (by omega) hr hn (by omega) c4).mono fun e w' he => dn h he
  | true =>
    obtain ⟨k, rfl⟩ : ∃ k : Nat, i = (k : Int) := ⟨i.toNat, by omega⟩
    have hn4 : n ≤ 4 := by
      unfold mayTell at c4
      rw [Bool.and_eq_true, decide_eq_true_eq] at c4
      omega
    have hF0 : F ≠ [] := by rintro rfl; simp at c3; omega
    have hne2 : learnt s F k L ≠ [] := learnt_ne (by omega) hF0
    refine ⟨learnt s F k L, 0, by have := learnt_len s F L k; omega, fun e => absurd e hne2, fun w B b ao cap lo lc h hne hr hx => (learn_yes k w h (by omega) (by omega) (by omega) (by omega) hr hn c4 hx).mono fun e w' he => ?_, fun w B b ao cap lo lc h hr => (dlearn_yes k w h (by omega) (by omega) (by omega) (by omega) hr hn hn4 c4).mono fun e w' he => ?_⟩
    · obtain ⟨h1, ao', cap', h2, h3, h4⟩ := he
      exact ⟨h1, ao', cap', h2, h3, h4, .inr hne2⟩
    · exact he
section
variable {w : World} {B b d : Nat} {s p c : Pe} {F : List Pe} {oc : List Value} {i : Int} {lo : Option Addr} {ln lc : Nat} {L : List Pe} {ph pl mk mf mt mid mph mpl mhops : Int}
set_option maxHeartbeats 16000000 in
theorem step_learn (ho : OpIs w B oc 1 i lo ln lc L ph pl mk mf mt mid mph mpl mhops) (h2 : Two w B b d s p c F) : Calls Try.prog 10 #[.pointer (some ⟨b, 0, none⟩), .pointer (some ⟨d, 0, none⟩), .agg oc.toArray] w (Stepped B b d s p c w) := by
  obtain ⟨w1, hw1, hcell, b1, hlt1⟩ := box_op w ho.ol
  have HW1 := Lib.hid hw1; have CL := Lib.hid hcell; have BB := Lib.hid b1; have HLT := Lib.hid hlt1
  have HO := Lib.hid ho; have H2 := Lib.hid h2; have T1 := Lib.hid (h2.below b1)
  have Q0 := heap_alloc_new w (.cells oc.toArray 68)
  rw [← hw1] at Q0
  have Q0 := Lib.hid Q0
  obtain ⟨ao, cap, ad, cad, hta, hda, hap, hne, hlen, hal⟩ := h2
  obtain ⟨F', er, hl', hal', LA, LB⟩ := learn_both (s := s) (p := p) (c := c) (F := F) (L := L) (n := ln) i hlen ho.oln (by have := ho.ole; omega) hal
  have HTA := Lib.hid hta; have HDA := Lib.hid hda; have HAP := Lib.hid hap; have HNE := Lib.hid hne; have LA := Lib.hid LA; have LB := Lib.hid LB; have HLE := Lib.hid hl'; have HAL := Lib.hid hal'
  have HB := Lib.hid H2.out.base
  clear hta hda hap hne hlen hal hl' hal'
  clear hw1 hcell b1 hlt1 ho
  go_enter Try.func10, Try.ntmps10
  go_upto_region 1 with (fail)
  rw [← HW1.out]
  obtain ⟨x, hx⟩ : ∃ x, x = w.heap.size := ⟨_, rfl⟩
  rw [← hx] at CL HLT Q0 ⊢
  have HX := Lib.hid hx
  clear hx
  have hxl := HLT.out
  have k0 := CL.out w1 (Below.refl _ _) 0 _ HO.out.ok
  have k1 := CL.out w1 (Below.refl _ _) 2 _ HO.out.osl
  have EB := Lib.hid (show (w1.alloc (.cells #[] 26)).ownsRow w.heap.size 26 3 (.slice (some ⟨w1.heap.size, 0, none⟩) 0 0) 0 [] from ⟨rfl, .inr ⟨w1.heap.size, 0, #[], rfl, BB.out.size, heap_alloc_new w1 _, Nat.le_refl _, by decide, rfl, rfl⟩⟩)
  have be := below_alloc (Below.refl w1.heap.size w1) (.cells #[] 26)
  have HBE := Lib.hid be
  have HRD := Lib.hid ((HO.out.ord.below BB.out).below be)
  clear be
  go_upto_region 4 with (at_builtin; refine wpList_app_peers rfl (.tmp 29) (.tmp 31) rfl (B := w.heap.size) (g := w1.heap.size) (L := L) rfl EB.out rfl HRD.out HO.out.oln HO.out.ole (by have := BB.out.size; have := HBE.out.size; omega) ?_; intro ga ca w2 own2 k2 at2)
  have hs1 := BB.out.size
  have b2 := (BB.out.trans (HBE.out.mono hs1)).trans (k2.below (Nat.le_trans hs1 HBE.out.size) (fun q hq => by simp only [List.mem_singleton] at hq; omega))
  have BB2 := Lib.hid b2
  have Q2 := Lib.hid (row_keep (row_keep Q0.out (Keep.of_below HBE.out []) (by simp)) k2 (by have h := HLT.out; intro hm; simp only [List.mem_singleton] at hm; omega))
  have HGA := Lib.hid (show w.heap.size ≤ ga ∧ ga < w2.heap.size ∧ ga ≠ x from by
    have e1 := owns_blk own2 ga (by simp [blk])
    refine ⟨e1.1, e1.2, ?_⟩
    have := HLT.out; have := HBE.out.size
    rcases at2 with h | h <;> omega)
  have HOW := Lib.hid (show w2.ownsRow w.heap.size 26 3 (.slice (some ⟨ga, 0, none⟩) L.length ca) L.length (fl Pe.list L) from by rw [HO.out.oln]; exact own2)
  have TA2 := Lib.hid (HTA.out.below b2); have DA2 := Lib.hid (HDA.out.below b2); have RD2 := Lib.hid (HO.out.ord.below b2)
  have HS2 := Lib.hid b2.size
  clear k0 k1 hxl own2 k2 at2 b2 EB HBE HRD hs1
  -- the program's Learn
  have i1 : w2.cell? ⟨x, 1, none⟩ = some (.int .i64 i) := (cell_of_row w2 x 1 _ _ (0, 0) Q2.out).trans (by rw [List.getElem?_toArray]; exact HO.out.oi)
  have hx2 := (Array.getElem?_eq_some_iff.1 Q2.out).1
  have LP := Lib.hid (LA.out w2 B b ao cap (some ⟨ga, 0, none⟩) ca TA2.out HNE.out (psrd_own HOW.out) (fun _ q hq hm => by
    simp only [blk, List.mem_singleton] at hq
    have h1 := (HTA.out.blocks q hm).2; have h2 := HGA.out.1; omega))
  go_wp2_with fail
  refine LP.out.mono ?_; rintro e w3 ⟨rfl, ao3, cap3, h3, k3, n3, ne3⟩
  have H3 := Lib.hid h3; have K3 := Lib.hid k3; have N3 := Lib.hid n3; have NE3 := Lib.hid ne3
  have HXB := Lib.hid (show x ∉ tbB b ao ∧ x ∉ tbB d ad from ⟨fun hm => by have h1 := (HTA.out.blocks x hm).2; have := HX.out; omega, fun hm => by have h1 := (HDA.out.blocks x hm).2; have := HX.out; omega⟩)
  have HGB := Lib.hid (show ga ∉ tbB b ao ∧ ga ∉ tbB d ad from ⟨fun hm => by have h1 := (HTA.out.blocks ga hm).2; have := HGA.out.1; omega, fun hm => by have h1 := (HDA.out.blocks ga hm).2; have := HGA.out.1; omega⟩)
  have Q3 := Lib.hid (row_keep Q2.out k3 HXB.out.1)
  have OW3 := Lib.hid (owns_keep HOW.out k3 (blk_own _ _ _ fun q hq hm => by simp only [blk, List.mem_singleton] at hq; exact HGB.out.1 (hq ▸ hm)))
  have DA3 := Lib.hid (DA2.out.keep k3 (fun q hq hm => HAP.out q hm hq))
  have RD3 := Lib.hid (RD2.out.keep k3 (fun hn q hq hm => by have h1 := HO.out.olow hn q hq; have h2 := (HTA.out.blocks q hm).1; omega))
  clear i1 hx2 h3 k3 n3 ne3 LP
  -- the document's
  have i1 : w3.cell? ⟨x, 1, none⟩ = some (.int .i64 i) := (cell_of_row w3 x 1 _ _ (0, 0) Q3.out).trans (by rw [List.getElem?_toArray]; exact HO.out.oi)
  have i2 : w3.cell? ⟨x, 2, none⟩ = some (.slice lo ln lc) := (cell_of_row w3 x 2 _ _ (0, 0) Q3.out).trans (by rw [List.getElem?_toArray]; exact HO.out.osl)
  have hx2 := (Array.getElem?_eq_some_iff.1 Q3.out).1
  have LP := Lib.hid (LB.out w3 B d ad cad lo lc DA3.out RD3.out)
  go_wp2_with fail
  refine LP.out.mono ?_; rintro e w4 ⟨rfl, ad4, cad4, h4, k4, n4⟩
  have H4 := Lib.hid h4; have K4 := Lib.hid k4; have N4 := Lib.hid n4
  have Q4 := Lib.hid (row_keep Q3.out k4 HXB.out.2)
  have OW4 := Lib.hid (owns_keep OW3.out k4 (blk_own _ _ _ fun q hq hm => by simp only [blk, List.mem_singleton] at hq; exact HGB.out.2 (hq ▸ hm)))
  have TB4 := Lib.hid (H3.out.keep k4 (fun q hq hm => by
    rcases N3.out q hq with h | h
    · exact HAP.out q h hm
    · have h1 := (HDA.out.blocks q hm).2; have := HS2.out; omega))
  have RD4 := Lib.hid (RD3.out.keep k4 (fun hn q hq hm => by have h1 := HO.out.olow hn q hq; have h2 := (HDA.out.blocks q hm).1; omega))
  have AP4 := Lib.hid (show ∀ q ∈ tbB b ao3, q ∉ tbB d ad4 from fun q hq hm => by
    have l3 := (H3.out.blocks q hq).2
    rcases N3.out q hq with h | h <;> rcases N4.out q hm with g | g
    · exact HAP.out q h g
    · omega
    · have h1 := (HDA.out.blocks q g).2; have := HS2.out; omega
    · omega)
  have BB4 := Lib.hid (show Below B w w4 from ((BB2.out.mono HB.out).trans (K3.out.below (Nat.le_trans HB.out HS2.out) (fun q hq => (HTA.out.blocks q hq).1))).trans (K4.out.below (Nat.le_trans HB.out (Nat.le_trans HS2.out K3.out.size)) (fun q hq => (HDA.out.blocks q hq).1)))
  have HGN := Lib.hid (show ga ∉ tbB b ao3 ∧ ga ∉ tbB d ad4 from ⟨fun hm => by
    rcases N3.out ga hm with h | h
    · exact HGB.out.1 h
    · have := HGA.out.2.1; omega, fun hm => by
    rcases N4.out ga hm with h | h
    · exact HGB.out.2 h
    · have := HGA.out.2.1; have := K3.out.size; omega⟩)
  clear i1 i2 hx2 h4 k4 n4 LP
  -- the list stays
  have i2 : w4.cell? ⟨x, 2, none⟩ = some (.slice lo ln lc) := (cell_of_row w4 x 2 _ _ (0, 0) Q4.out).trans (by rw [List.getElem?_toArray]; exact HO.out.osl)
  have hx2 := (Array.getElem?_eq_some_iff.1 Q4.out).1
  have SA := Lib.hid (samepeers_any (pc := ca) (qc := lc) w4 (psrd_own OW4.out) RD4.out HO.out.oln (by have := HO.out.ole; omega))
  go_wp2_with fail
  refine SA.out.mono ?_; rintro e w5 ⟨rfl, b5⟩
  have OW5 := Lib.hid (owns_keep OW4.out (Keep.of_below b5 []) (by simp))
  have TW5 := Lib.hid (show Two w5 B b d s p c F' from Two.below ⟨ao3, cap3, ad4, cad4, TB4.out, H4.out, AP4.out, NE3.out, HLE.out, HAL.out⟩ b5)
  have TB5 := Lib.hid (TB4.out.below b5); have DB5 := Lib.hid (H4.out.below b5)
  have BB5 := Lib.hid (BB4.out.trans (b5.mono (Nat.le_trans HB.out BB4.out.size)))
  clear i2 hx2 b5 SA
  have hlnm : (ln : Int) ≤ 9223372036854775807 := by have := HO.out.ole; omega
  go_wp2_with fail
  go_loopw [11] (fun v11 wr => ∃ j : Nat, v11 = .int .i64 (j : Int) ∧ j ≤ ln ∧ Hid (∃ xs, wr.ownsRow w.heap.size 26 3 (.slice (some ⟨ga, 0, none⟩) ln ca) ln xs) ∧ Hid (Keep [ga] w5 wr)) (fun v11 _ => ln - (intOf v11).toNat)
  case atStart => exact ⟨0, rfl, Nat.zero_le _, Lib.hid ⟨_, by have h := OW5.out; rw [HO.out.oln] at h; exact h⟩, Lib.hid (Keep.refl _ _)⟩
  case round =>
    obtain ⟨j, rfl, hj, HXS, HKK⟩ := hrel
    have hj0 : (0 : Int) ≤ (j : Int) := by omega
    by_cases hjn : j < ln
    · have hji : (j : Int) < (ln : Int) := by omega
      obtain ⟨xs, hxs⟩ := HXS.out
      obtain ⟨v, hv, hfr, hgl, _⟩ := owns_pc hxs (j * 3) (by omega)
      have hput := Lib.hid (owns_putq hxs (j * 3) (by omega) (.int .i64 (-1)))
      have hkk := Lib.hid (HKK.out.trans (Keep.setCell wr ⟨ga, j * 3, none⟩ (.int .i64 (-1))))
      clear hxs
      go_wp2_with fail
      go_roundw
      case rel => exact ⟨j + 1, by go_num, by omega, Lib.hid ⟨_, hput.out⟩, hkk⟩
      case measure => simp [intOf]; omega
    · have hji : ¬ (j : Int) < (ln : Int) := by omega
      obtain rfl : ln = j := by omega
      have TWz := Lib.hid (show Two wr B b d s p c F' from ⟨ao3, cap3, ad4, cad4, TB5.out.keep HKK.out (fun q hq hm => by simp only [List.mem_singleton] at hm; exact HGN.out.1 (hm ▸ hq)), DB5.out.keep HKK.out (fun q hq hm => by simp only [List.mem_singleton] at hm; exact HGN.out.2 (hm ▸ hq)), AP4.out, NE3.out, HLE.out, HAL.out⟩)
      have BBz := Lib.hid (BB5.out.trans (HKK.out.below (Nat.le_trans HB.out BB5.out.size) (fun q hq => by simp only [List.mem_singleton] at hq; have := HGA.out.1; have := HB.out; omega)))
      go_wp2_with fail
      go_ret
      have e : Stepped B b d s p c w (.returned (.bool true)) wr := ⟨rfl, F', TWz.out, BBz.out⟩
      exact e
end
end Go.Proofs.Ytokmchkoojeadaa
