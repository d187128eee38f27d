/- Operations of a region that draws: an empty slice, an append, a message's variable. WireSpoilt: the walk. Arguments: a decree, a string, a slice of bytes; the variables' cells, out of what the card lays. -/
import Derived.Test.YtngcbpgafjnfaaaGreatDoorLot19
import Derived.Deep.RegionHeld3
import Derived.Deep.DeepAppendWide
import Derived.Deep.CutRange
import Derived.Test.YtngcbpgafjnfaaaGreatDoorLot13
import Derived.Test.YtngcbpgafjnfaaaGreatDoorLot14
import Derived.Test.YtngcbpgafjnfaaaGreatDoorLot9
import Derived.SizedLaws
import Derived.Lib.LaidTab
import Derived.LaidMore
import Derived.LaidSub
import Derived.LaidHandle
import Derived.LaidLaws
import Derived.MakeChecks
import Derived.Deep.Slices
import Derived.Deep.SlicePairs
import Derived.ChangeArms

namespace Go.Proofs.YtngcbpgafjnfaaaGreatDoor
open Go.RowKit Go.Sort
set_option linter.unusedVariables false

section
variable {w : World} {o : Oper} {a : Act} {K : Act → World → Prop} {Q : Exit → Act → World → Prop}
theorem wp_build0 (ho : o.op = .buildSlice 54 0 #[]) (h : ∀ w', w' = w.alloc (.cells #[] 5) → K (a.put o.dst (.slice (some ⟨w.heap.size, 0, none⟩) 0 0)) w') : o.wp Tryz.prog a w K Q := by
  have hrun : (execOp a.eval o).run Tryz.prog w = .ok (.value (.slice (some ⟨w.heap.size, 0, none⟩) 0 0)) (w.alloc (.cells #[] 5)) := by
    unfold execOp
    simp only [ho]
    kernel_rfl
  unfold Oper.wp
  simp only [hrun, Oper.upon]
  exact h _ rfl
theorem wp_alloc_msg (ho : o.op = .alloc 52) (h : ∀ w', w' = w.alloc (.cells (noughtCs 0 0 0) 52) → K (a.put o.dst (.pointer (some ⟨w.heap.size, 0, none⟩))) w') : o.wp Tryz.prog a w K Q := by
  have hrun : (execOp a.eval o).run Tryz.prog w = .ok (.value (.pointer (some ⟨w.heap.size, 0, none⟩))) (w.alloc (.cells (noughtCs 0 0 0) 52)) := by
    unfold execOp
    simp only [ho]
    kernel_rfl
  unfold Oper.wp
  simp only [hrun, Oper.upon]
  exact h _ rfl
theorem wp_app (s x : Operand) (ho : o.op = .call { callee := .builtin .append, args := #[s, x], argTypes := #[54, 54] })
    {B : Nat} {ao : Option Addr} {n cap : Nat} {l : List Nat} (hs : a.eval s = .slice ao n cap) (hown : Own w B ao n cap l)
    {xo : Option Addr} {m c : Nat} {ms : List Nat} (hx : a.eval x = .slice xo m c) (hrd : Rd w xo ms) (hm : ms.length = m) (hB : B ≤ w.heap.size) (hbig : n + m ≤ 140737488355328)
    (h : ∀ ao' cap' w', Own w' B ao' (n + m) cap' (l ++ ms) → Keep (blk ao) w w' → (∀ g ∈ blk ao', g ∈ blk ao ∨ w.heap.size ≤ g) → K (a.put o.dst (.slice ao' (n + m) cap')) w') : o.wp Tryz.prog a w K Q := by
  obtain ⟨ao', cap', w', hr, h2, h3, h4, _⟩ := hown.run_app c hrd hm hB hbig o.type
  unfold Oper.wp execOp
  simp only [ho, resolve, invoke, builtin, Sem.run_bind, Sem.run_pure, Result.andThen_ok, List.map_toArray, List.map_cons, List.map_nil, hs, hx, hr]
  exact h ao' cap' w' h2 h3 h4
theorem owns_empty (w : World) (B : Nat) (hB : B ≤ w.heap.size) : (w.alloc (.cells #[] 5)).ownsRow B 5 1 (.slice (some ⟨w.heap.size, 0, none⟩) 0 0) 0 (cs []) :=
  ⟨rfl, .inr ⟨w.heap.size, 0, #[], rfl, hB, heap_alloc_new w _, Nat.le_refl _, by decide, by simp, by simp⟩⟩
theorem owns_keepS {w w' : World} {B e z n : Nat} {v : Value} {xs : List Value} {S : List Nat} (h : w.ownsRow B e z v n xs) (k : Keep S w w') (hn : ∀ g, v.ownBlock = some g → g ∉ S) : w'.ownsRow B e z v n xs := by
  refine ⟨h.1, ?_⟩
  rcases h.2 with h2 | ⟨g, cap, cur, rfl, hb, hg, h3⟩
  · exact .inl h2
  · exact .inr ⟨g, cap, cur, rfl, hb, (k.block g (Array.getElem?_eq_some_iff.1 hg).1 (hn g rfl)).trans hg, h3⟩
theorem keep_grownS {w w' : World} {ao : Option Addr} {n cap : Nat} (h : w.grownBy w' (Value.slice ao n cap).ownBlock) : Keep (blk ao) w w' :=
  ⟨h.os, h.tape, h.output, h.size, fun k hk hn => h.block k hk fun e => by
    cases ao with
    | none => cases e
    | some a => simp [Value.ownBlock] at e; exact hn (by simp [blk, e])⟩
theorem owns_lt {w : World} {B e z n m cap : Nat} {ao : Option Addr} {xs : List Value} (h : w.ownsRow B e z (.slice ao m cap) n xs) : ∀ g ∈ blk ao, B ≤ g ∧ g < w.heap.size := by
  intro g hg
  rcases h.2 with ⟨h2, _⟩ | ⟨g', cap', cur, h2, hb, hg', _⟩
  · cases h2; simp [blk] at hg
  · cases h2
    simp [blk] at hg; subst hg
    exact ⟨hb, (Array.getElem?_eq_some_iff.1 hg').1⟩
/-- bytes do not lie where a message lies -/
theorem owns_type {w : World} {B n m cap s : Nat} {ao : Option Addr} {xs : List Value} {c : Array Value} (h : w.ownsRow B 5 1 (.slice ao m cap) n xs) (hs : s ∈ blk ao) (hr : w.heap[s]? = some (.cells c 52 (0, 0))) : False := by
  rcases h.2 with ⟨h2, _⟩ | ⟨g', cap', cur, h2, hb, hg', _⟩
  · cases h2; simp [blk] at hs
  · cases h2
    simp [blk] at hs; subst hs
    rw [hg'] at hr
    injection hr with hr
    injection hr with _ hr
    exact absurd hr (by decide)
/-- an append to a row of the call's own, up to Go's own bound -/
theorem wp_app_wide (s x : Operand) (ho : o.op = .call { callee := .builtin .append, args := #[s, x], argTypes := #[54, 54] })
    {B : Nat} {ao : Option Addr} {n cap : Nat} {l : List Nat} (hs : a.eval s = .slice ao n cap) (hown : w.ownsRow B 5 1 (.slice ao n cap) n (cs l)) (hlt : ∀ c ∈ l, c < 256)
    {xo : Option Addr} {m c : Nat} {ms : List Nat} (hx : a.eval x = .slice xo m c) (hrd : Rd w xo ms) (hm : ms.length = m) (hB : B ≤ w.heap.size) (hbig : (n + m) + (n + m) / 4 + 192 ≤ 281474976710656)
    (h : ∀ ao' cap' w', w'.ownsRow B 5 1 (.slice ao' (n + m) cap') (n + m) (cs (l ++ ms)) → Own w' B ao' (n + m) cap' (l ++ ms) → Keep (blk ao) w w' → K (a.put o.dst (.slice ao' (n + m) cap')) w') : o.wp Tryz.prog a w K Q := by
  by_cases h0 : m = 0
  · subst h0
    obtain rfl : ms = [] := List.eq_nil_of_length_eq_zero hm
    obtain ⟨ao2, cap2, e, own⟩ := Own.of_owns rfl hown hlt
    cases e
    obtain ⟨i0, hi, hz0, hz1, hz2⟩ := info_parts byte_info
    have hr : (Builtin.append_ #[54, 54] o.type #[.slice ao n cap, .slice xo 0 c]).run Tryz.prog w = .ok (.slice ao n cap) w := by
      refine run_append_nothing w _ _ o.type 5 i0 Tryz.underlying54 hi ao n cap own.le _ ?_
      cases xo with
      | none => exact Src.ofNil w Tryz.underlying54 c
      | some a => exact Src.ofSlice w Tryz.underlying54 a 0 c [] (by simp) (by simp) (by simp)
    unfold Oper.wp execOp
    simp only [ho, resolve, invoke, builtin, Sem.run_bind, Sem.run_pure, Result.andThen_ok, List.map_toArray, List.map_cons, List.map_nil, hs, hx, hr]
    exact h ao cap w (by simpa using hown) (by simpa using own) (Keep.refl _ _)
  · obtain ⟨gx, ox, rfl, _, _⟩ := hrd.at_ 0 (by omega)
    have hnews : ∀ j u, (cs ms)[j]? = some u → w.cell? ((⟨gx, ox, none⟩ : Addr).add j) = some u := by
      intro j u hu
      obtain ⟨hj, rfl⟩ := cs_at hu
      obtain ⟨g, o, e, _, h3⟩ := hrd.at_ j hj
      cases e
      rw [Addr.add_lit]; exact h3
    obtain ⟨i0, hi, hz0, hz1, hz2⟩ := info_parts byte_info
    refine wp_append_own_wide w s x 54 ho B 5 i0 (.int .u8 0) 1 1 Tryz.underlying54 hi hz0 hz1 hz2 rfl (by decide) (.slice ao n cap) n (cs l) hs hown ⟨gx, ox, none⟩ m c (cs ms) hx (by simpa using hm) hnews (cs_one _) (by unfold maxLen; omega) (by omega) hB fun v' w' r1 r2 _ => ?_
    have r1' : w'.ownsRow B 5 1 v' (n + m) (cs (l ++ ms)) := by simpa [cs] using r1
    obtain ⟨ao', cap', rfl, own⟩ := Own.of_owns rfl r1' (fun c hc => by rcases List.mem_append.1 hc with h1 | h1; exact hlt c h1; exact hrd.lt c h1)
    exact h ao' cap' w' r1' own (keep_grownS r2)
end
end Go.Proofs.YtngcbpgafjnfaaaGreatDoor


namespace Go.Proofs.YtngcbpgafjnfaaaGreatDoor
open Go.RowKit Go.Sort
set_option linter.unusedVariables false
set_option linter.unusedSimpArgs false

/-- what Decode tells of a frame: nil, or not -/
def errOf (l : List Nat) (e : Ending) : Prop := ∃ (cs : Array Value) (v : Value), e = .returned (.tuple #[.agg cs, v]) ∧ cs.size = 49 ∧ cs.all (·.oneCell') = true ∧
  ((v = .nilIface ∧ ∃ m, decode l = .ok m) ∨ ((∃ x, decode l = .error x) ∧ ∃ a, v = .iface 112 (.pointer (some a))))
theorem dec_end {l : List Nat} {w w' : World} {e : Ending} (h : DecEnd l w e w') : errOf l e ∧ Below w.heap.size w w' := by
  obtain ⟨b, h⟩ := h
  refine ⟨?_, b⟩
  rw [decW_eq] at h
  cases hd : decode l with
  | error x =>
    obtain ⟨n, s⟩ := x
    rw [hd] at h
    obtain ⟨a, rfl, _⟩ := h
    exact ⟨_, _, rfl, rfl, nought_one 0, .inr ⟨⟨_, hd⟩, _, rfl⟩⟩
  | ok m =>
    rw [hd] at h
    obtain ⟨cs, N, rfl, hz, _, hS⟩ := h
    exact ⟨_, _, rfl, hz, msgcs_one hz hS, .inl ⟨rfl, _, hd⟩⟩

/-- what Decode tells of a frame with more behind it -/
def MoreE (ml : List Nat) (v : Value) : Prop := (v = .nilIface ∧ ml = []) ∨ ((∃ a, v = .iface 112 (.pointer (some a))) ∧ ml ≠ [])
theorem dec_more {f ml : List Nat} {v : Value} (hs : ∀ x, (∃ m', decode (f ++ x) = .ok m') ↔ x = []) (h : (v = .nilIface ∧ ∃ m, decode (f ++ ml) = .ok m) ∨ ((∃ x, decode (f ++ ml) = .error x) ∧ ∃ a, v = .iface 112 (.pointer (some a)))) : MoreE ml v := by
  rcases h with ⟨h1, h2⟩ | ⟨⟨x, h1⟩, h2⟩
  · exact .inl ⟨h1, (hs ml).1 h2⟩
  · refine .inr ⟨h2, fun e => ?_⟩
    obtain ⟨m', hm⟩ := (hs ml).2 e
    rw [h1] at hm; cases hm
/-- the cells of the argument -/
def spCs (cs : List Value) (at_ : Int) (by_ : Nat) (mo : Option Addr) (mn mc : Nat) : Array Value := (cs ++ [Value.int .i64 at_, Value.int .u8 (by_ : Int), Value.slice mo mn mc]).toArray
theorem spCs_at {cs : List Value} (hz : cs.length = 49) (at_ : Int) (by_ : Nat) (mo : Option Addr) (mn mc : Nat) : (spCs cs at_ by_ mo mn mc)[49]? = some (.int .i64 at_) ∧ (spCs cs at_ by_ mo mn mc)[50]? = some (.int .u8 (by_ : Int)) ∧ (spCs cs at_ by_ mo mn mc)[51]? = some (.slice mo mn mc) := by
  unfold spCs
  refine ⟨?_, ?_, ?_⟩ <;> (rw [List.getElem?_toArray, List.getElem?_append_right (by omega), hz]; rfl)
set_option maxRecDepth 100000 in
set_option maxHeartbeats 4000000 in
theorem wireSpoilt_law (m : Ms) (hI : I64 m.kind) (cs : List Value) (hz : cs.length = 49) (h0 : cs[0]? = some (.int .i64 m.kind)) (at_ : Int) (hat : I64 at_) (by_ : Nat) (hby : by_ < 256) (mo : Option Addr) (mn mc : Nat) (ml : List Nat) (hml : ml.length = mn) (hmz : mn ≤ 140737488351232) (W : World)
    (hE : ErrT W) (hT : Tab W) (hr : Rd W mo ml) (hS : SlIn W (Old W) cs (slotsOf m)) :
    Calls Tryz.prog 6 #[.agg (spCs cs at_ by_ mo mn mc)] W (LawOk W) := by
  obtain ⟨A, hA⟩ : ∃ A, A = spCs cs at_ by_ mo mn mc := ⟨_, rfl⟩
  rw [← hA]
  have hb0 := below_alloc (Below.refl W.heap.size W) (.cells A 75)
  have hrow := heap_alloc_new W (.cells A 75)
  have hs1 : (W.alloc (.cells A 75)).heap.size = W.heap.size + 1 := by simp
  have HE := Lib.hid hE; have HT := Lib.hid hT; have HR := Lib.hid hr; have HS := Lib.hid hS; have HB0 := Lib.hid hb0; have HROW := Lib.hid hrow; have HS1 := Lib.hid hs1
  have AW := Lib.hid (awake_any _ (hE.below hb0) (hT.below hb0))
  have HZ := Lib.hid hz; have H0 := Lib.hid h0; have HA := Lib.hid hA
  clear hE hT hr hS hb0 hrow hz h0 hA hs1
  go_enter Tryz.func6, Tryz.ntmps6
  go_wp2_with fail
  generalize W.alloc (.cells A 75) = w1 at *
  refine AW.out.mono ?_; rintro e w2 ⟨rfl, b2⟩
  have hx : (spCs cs at_ by_ mo mn mc).size = 52 := by unfold spCs; simp [HZ.out]
  have hrow2 := (b2.block W.heap.size (by have := HS1.out; omega)).trans HROW.out
  have HRA : Hid (w2.rangeAt W.heap.size 0 cs) := Lib.hid (fun j v hv => by
      have hj := (List.getElem?_eq_some_iff.1 hv).1
      rw [cell_of_row w2 W.heap.size (0 + j) _ _ (0, 0) hrow2, HA.out]
      unfold spCs
      rw [List.getElem?_toArray, Nat.zero_add, List.getElem?_append_left hj]; exact hv)
  have hb2 := below_next HB0.out b2
  have HB2 := Lib.hid hb2
  have hal := below_alloc hb2 (.cells cs.toArray 52)
  have EN := Lib.hid (encode_any m hI cs.toArray w2 (HE.out.below hb2) (HT.out.below hb2) (Old W) (by simp [HZ.out]) (HS.out.slots (P := Old W) ⟨hal.os, hal.tape, hal.output, hal.size, fun k hk => hal.block k hk⟩ (fun _ h => h) (fun j u hu => by
      rw [cell_of_row _ w2.heap.size j _ _ (0, 0) (heap_alloc_new w2 (.cells cs.toArray 52)), List.getElem?_toArray]; exact hu) (slotsOf_fine m)) (fun b hb => by have : b < W.heap.size := hb; have := hb2.size; omega) (by rw [List.getElem?_toArray]; exact H0.out))
  have HR2 := Lib.hid hrow2
  clear hb2 hal b2 hrow2 hx AW
  have hsz : (Tryz.prog.info? 52).map (·.size) = some cs.length := by rw [HZ.out]; exact msg_size
  have HSZ := Lib.hid hsz
  clear hsz
  go_wp2_with (refine wpList_load_mid rfl 52 (.tmp 16) rfl W.heap.size 0 rfl cs _ HRA.out Tryz.underlying52 rfl HSZ.out ?_)
  refine EN.out.mono ?_; rintro e w3 ⟨b3, hm⟩
  rw [encW_eq] at hm
  have HB3 := Lib.hid (below_next HB2.out b3)
  have HR3 := Lib.hid ((b3.block W.heap.size (by have := (Array.getElem?_eq_some_iff.1 HR2.out).1; omega)).trans HR2.out)
  cases henc : encode m with
  | error x =>
    obtain ⟨nn, s⟩ := x
    rw [henc] at hm
    obtain ⟨a, rfl, _⟩ := hm
    clear b3 HRA EN HR2 HR3
    go_wp2_with fail
    go_ret
    exact ⟨rfl, HB3.out⟩
  | ok f =>
    rw [henc] at hm
    obtain ⟨ao, cap, rfl, own⟩ := hm
    have HSP := Lib.hid (spoilt henc)
    obtain ⟨hk1, hbb, hl1, hfr, hby2⟩ := encode_ok henc
    have hf1 := frameOf_length (bodyOf m)
    rw [← hfr] at hf1
    obtain ⟨n, hn⟩ : ∃ n, f.length = n := ⟨_, rfl⟩
    rw [hn] at own hf1 ⊢
    have hn1 : 10 ≤ n := by omega
    have hn2 : n ≤ 70000 := by omega
    have HN := Lib.hid hn; have HO := Lib.hid own
    clear b3 HRA EN HR2 hk1 hbb hl1 hfr hby2 hf1 hn own
    obtain ⟨c49, c50, c51⟩ := spCs_at HZ.out at_ by_ mo mn mc
    have r49 : w3.cell? ⟨W.heap.size, 49, none⟩ = some (.int .i64 at_) := by rw [cell_of_row w3 _ 49 _ _ (0, 0) HR3.out, HA.out]; exact c49
    have C50 := Lib.hid c50; have C51 := Lib.hid c51
    clear c49 c50 c51
    have hle : n ≤ cap := HO.out.le
    have hmax : cap ≤ maxLen := HO.out.max
    obtain ⟨hat1, hat2⟩ := hat
    by_cases hneg : at_ < 0
    · obtain ⟨p, hp, hpn⟩ : ∃ p : Nat, (-(at_ + 1)).tmod (n : Int) = (p : Int) ∧ p < n := by
        rw [Int.tmod_eq_emod_of_nonneg (by omega)]
        have h1 := Int.emod_nonneg (-(at_ + 1)) (show (n : Int) ≠ 0 by omega)
        have h2 := Int.emod_lt_of_pos (-(at_ + 1)) (show (0 : Int) < (n : Int) by omega)
        exact ⟨((-(at_ + 1)) % (n : Int)).toNat, by omega, by omega⟩
      have hp2 : -((at_ + 1).tmod (n : Int)) = (p : Int) := by rw [← Int.neg_tmod]; exact hp
      have hpc : p ≤ cap := by omega
      go_wp2_with fail
      have HPN := Lib.hid hpn
      clear hp hp2 hneg hpc r49 hat1 hat2
      have hE3 := HE.out.below HB3.out
      have hT3 := HT.out.below HB3.out
      refine (decode_any ao p cap (f.take p) (by rw [List.length_take, HN.out]; omega) (by omega) (by omega) w3 hE3 hT3 (HO.out.rd.take p)).mono ?_
      rintro e w4 h4
      obtain ⟨⟨dcs, dv, rfl, dz, d1, dd⟩, b4⟩ := dec_end h4
      obtain ⟨a4, rfl⟩ : ∃ a, dv = .iface 112 (.pointer (some a)) := by
        rcases dd with ⟨_, m', hm'⟩ | ⟨_, h⟩
        · obtain ⟨x, hx⟩ := HSP.out.1 p (by rw [HN.out]; exact HPN.out)
          rw [hx] at hm'; cases hm'
        · exact h
      have B4 := Lib.hid b4; have DZ := Lib.hid dz; have D1 := Lib.hid d1
      clear h4 b4 dz d1 dd hE3 hT3
      go_wp2_with (refine wpList_var rfl rfl rfl (.tmp 7) (.tmp 48) rfl rfl rfl dcs rfl DZ.out D1.out ?_; intro w5 b5)
      have HB5 := Lib.hid (below_next HB3.out (below_next B4.out b5))
      have HB35 := Lib.hid (below_next B4.out b5)
      have HX : Hid (∀ w', Below w5.heap.size w5 w' → w'.cell? ⟨W.heap.size, 51, none⟩ = some (.slice mo mn mc) ∧ Rd w' ao f ∧ Rd w' mo ml ∧ ErrT w' ∧ Tab w') := Lib.hid (fun w' b => by
        have hb := below_next HB5.out b
        have hb3 := below_next HB35.out b
        exact ⟨by rw [cell_of_row w' _ 51 _ _ (0, 0) ((hb3.block _ (Array.getElem?_eq_some_iff.1 HR3.out).1).trans HR3.out), HA.out]; exact C51.out, HO.out.rd.below hb3, HR.out.below hb, HE.out.below hb, HT.out.below hb⟩)
      have HFB := Lib.hid HO.out.lt
      have HFM := Lib.hid (fun c (hc : c ∈ f ++ ml) => show c < 256 from by rcases List.mem_append.1 hc with h | h; exact HO.out.lt c h; exact HR.out.lt c h)
      clear b5
      go_cut [9, 10] from 50 to 59 (fun v9 v10 wx => Below w5.heap.size w5 wx ∧ MoreE ml v10)
      case first =>
  -- REGION 12
        refine wp_region_held_drew (S := fun w' => Below w5.heap.size w5 w') (by kernel_rfl) ((Below.refl _ _).drew) (fun s0 => ?_)
        refine wpAnyH_take (i := 1) (v := .slice ao n cap) rfl (by kernel_rfl) (by kernel_rfl) (by kernel_rfl) (fun _ _ _ h => h) (Or.inl ⟨by rfl, fun w' hw' => by go_simp⟩) s0 ?_
        try simp only [Act.put, List.getElem_toArray, List.getElem_cons_succ, List.getElem_cons_zero, List.setIfInBounds_toArray, List.set_cons_zero, List.set_cons_succ, Nat.zero_add, List.nil_append]
        refine wpAnyH_take (i := 3) (v := .pointer (some ⟨W.heap.size, 51, none⟩)) rfl (by kernel_rfl) (by kernel_rfl) (by kernel_rfl) (fun _ _ _ h => h) (Or.inl ⟨by rfl, fun w' hw' => by go_simp⟩) s0 ?_
        try simp only [Act.put, List.getElem_toArray, List.getElem_cons_succ, List.getElem_cons_zero, List.setIfInBounds_toArray, List.set_cons_zero, List.set_cons_succ, Nat.zero_add, List.nil_append]
        refine wpAnyH_take (i := 4) (v := .slice mo mn mc) rfl (by kernel_rfl) (by kernel_rfl) (by kernel_rfl) (fun _ _ _ h => h) (Or.inl ⟨by rfl, fun w' hw' => by have h51 := (HX.out w' hw').1; go_simp⟩) s0 ?_
        try simp only [Act.put, List.getElem_toArray, List.getElem_cons_succ, List.getElem_cons_zero, List.setIfInBounds_toArray, List.set_cons_zero, List.set_cons_succ, Nat.zero_add, List.nil_append]
        refine wpAnyH_ready (rs := [0, 10]) (by kernel_rfl) (by simp) ?_
        refine AllReadyH.cons rfl (fun K hK => ?_) (AllReadyH.cons rfl (fun K hK => ?_) AllReadyH.nil)
        · rw [if_pos (by rfl)]
          refine wp_build0 rfl (fun v1 hv1 => ?_)
          have b1 : Below w5.drew.heap.size w5.drew v1 := by rw [hv1]; exact below_alloc (Below.refl _ _) _
          have s1 : Below w5.heap.size w5 v1 := below_next s0 b1
          have O1 := Lib.hid (show v1.ownsRow w5.heap.size 5 1 (.slice (some ⟨w5.drew.heap.size, 0, none⟩) 0 0) 0 (YtngcbpgafjnfaaaGreatDoor.cs []) by rw [hv1]; exact owns_empty w5.drew _ s0.size)
          clear hv1
          refine hK.out _ _ s1 (fun _ => ?_)
          clear hK K
          try simp only [Act.put, List.getElem_toArray, List.getElem_cons_succ, List.getElem_cons_zero, List.setIfInBounds_toArray, List.set_cons_zero, List.set_cons_succ, Nat.zero_add, List.nil_append]
          refine wpAnyH_ready (rs := [2, 10]) (by kernel_rfl) (by simp) ?_
          refine AllReadyH.cons rfl (fun K hK => ?_) (AllReadyH.cons rfl (fun K hK => ?_) AllReadyH.nil)
          · rw [if_pos (by rfl)]
            refine wp_app_wide (.tmp 51) (.tmp 52) rfl rfl O1.out (by simp) rfl (HX.out _ s1).2.1 HN.out s1.size (by omega) (fun ao2 cap2 v2 r2 _ k2 => ?_)
            have s2 : Below w5.heap.size w5 v2 := s1.trans (k2.below s1.size (fun g hg => (owns_lt O1.out g hg).1))
            rw [Nat.zero_add] at r2
            have O2 := Lib.hid (show v2.ownsRow w5.heap.size 5 1 (.slice ao2 n cap2) n (YtngcbpgafjnfaaaGreatDoor.cs f) from r2)
            clear r2
            refine hK.out _ _ s2 (fun _ => ?_)
            clear hK K
            try simp only [Act.put, List.getElem_toArray, List.getElem_cons_succ, List.getElem_cons_zero, List.setIfInBounds_toArray, List.set_cons_zero, List.set_cons_succ, Nat.zero_add, List.nil_append]
            refine wpAnyH_ready (rs := [5, 10]) (by kernel_rfl) (by simp) ?_
            refine AllReadyH.cons rfl (fun K hK => ?_) (AllReadyH.cons rfl (fun K hK => ?_) AllReadyH.nil)
            · rw [if_pos (by rfl)]
              refine wp_app_wide (.tmp 53) (.tmp 55) rfl rfl O2.out HFB.out rfl (HX.out _ s2).2.2.1 hml s2.size (by omega) (fun ao3 cap3 v3 r3 _ k3 => ?_)
              have s3 : Below w5.heap.size w5 v3 := s2.trans (k3.below s2.size (fun g hg => (owns_lt O2.out g hg).1))
              have O3 := Lib.hid (show v3.ownsRow w5.heap.size 5 1 (.slice ao3 (n + mn) cap3) (n + mn) (YtngcbpgafjnfaaaGreatDoor.cs (f ++ ml)) from r3)
              clear r3
              refine hK.out _ _ s3 (fun _ => ?_)
              clear hK K
              try simp only [Act.put, List.getElem_toArray, List.getElem_cons_succ, List.getElem_cons_zero, List.setIfInBounds_toArray, List.set_cons_zero, List.set_cons_succ, Nat.zero_add, List.nil_append]
              refine wpAnyH_ready (rs := [6, 10]) (by kernel_rfl) (by simp) ?_
              refine AllReadyH.cons rfl (fun K hK => ?_) (AllReadyH.cons rfl (fun K hK => ?_) AllReadyH.nil)
              · obtain ⟨_, _, hxe4, own4⟩ := Own.of_owns rfl O3.out HFM.out
                cases hxe4
                have DC4 := Lib.hid (decode_any ao3 (n + mn) _ (f ++ ml) (by rw [List.length_append, HN.out, hml]) (by omega) own4.le v3 (HX.out _ s3).2.2.2.1 (HX.out _ s3).2.2.2.2 own4.rd)
                clear own4
                go_simp
                refine DC4.out.mono ?_
                rintro e v4 h4
                obtain ⟨⟨ds4, dv4, rfl, dz4, do4, dd4⟩, b4⟩ := dec_end h4
                have s4 : Below w5.heap.size w5 v4 := below_next s3 b4
                have DZ2 := Lib.hid dz4; have D12 := Lib.hid do4; have DD2 := Lib.hid (dec_more HSP.out.2.1 dd4)
                clear h4 dz4 do4 dd4
                refine hK.out _ _ s4 (fun _ => ?_)
                clear hK K
                try simp only [Act.put, List.getElem_toArray, List.getElem_cons_succ, List.getElem_cons_zero, List.setIfInBounds_toArray, List.set_cons_zero, List.set_cons_succ, Nat.zero_add, List.nil_append]
                refine wpAnyH_take (i := 7) (v := .tuple #[.agg ds4, dv4]) rfl (by kernel_rfl) (by kernel_rfl) (by kernel_rfl) (fun _ _ _ h => h) (Or.inl ⟨by rfl, fun w' hw' => by go_simp⟩) s4 ?_
                try simp only [Act.put, List.getElem_toArray, List.getElem_cons_succ, List.getElem_cons_zero, List.setIfInBounds_toArray, List.set_cons_zero, List.set_cons_succ, Nat.zero_add, List.nil_append]
                refine wpAnyH_take (i := 8) (v := .agg ds4) rfl (by kernel_rfl) (by kernel_rfl) (by kernel_rfl) (fun _ _ _ h => h) (Or.inl ⟨by rfl, fun w' hw' => by go_simp⟩) s4 ?_
                try simp only [Act.put, List.getElem_toArray, List.getElem_cons_succ, List.getElem_cons_zero, List.setIfInBounds_toArray, List.set_cons_zero, List.set_cons_succ, Nat.zero_add, List.nil_append]
                refine wpAnyH_take (i := 9) (v := dv4) rfl (by kernel_rfl) (by kernel_rfl) (by kernel_rfl) (fun _ _ _ h => h) (Or.inl ⟨by rfl, fun w' hw' => by go_simp⟩) s4 ?_
                try simp only [Act.put, List.getElem_toArray, List.getElem_cons_succ, List.getElem_cons_zero, List.setIfInBounds_toArray, List.set_cons_zero, List.set_cons_succ, Nat.zero_add, List.nil_append]
                refine wpAnyH_ready (rs := [10]) (by kernel_rfl) (by simp) ?_
                refine AllReadyH.cons rfl (fun K hK => ?_) AllReadyH.nil
                rw [if_pos (by rfl)]
                refine wp_alloc_msg rfl (fun v5 hv5 => ?_)
                have b5 : Below v4.heap.size v4 v5 := by rw [hv5]; exact below_alloc (Below.refl _ _) _
                have s5 : Below w5.heap.size w5 v5 := below_next s4 b5
                have R5 := Lib.hid (show v5.heap[v4.heap.size]? = some (.cells (noughtCs 0 0 0) 52 (0, 0)) ∧ w5.heap.size ≤ v4.heap.size from ⟨by rw [hv5]; exact heap_alloc_new _ _, s4.size⟩)
                obtain ⟨sn5, hsn5⟩ : ∃ q, v4.heap.size = q := ⟨_, rfl⟩
                rw [hsn5] at R5 ⊢
                clear hsn5 hv5
                refine hK.out _ _ s5 (fun _ => ?_)
                clear hK K
                try simp only [Act.put, List.getElem_toArray, List.getElem_cons_succ, List.getElem_cons_zero, List.setIfInBounds_toArray, List.set_cons_zero, List.set_cons_succ, Nat.zero_add, List.nil_append]
                refine wpAnyH_ready (rs := [11]) (by kernel_rfl) (by simp) ?_
                refine AllReadyH.cons rfl (fun K hK => ?_) AllReadyH.nil
                rw [if_pos (by rfl)]
                refine wp_store_row 52 (.tmp 9) (.tmp 58) rfl sn5 ds4 rfl rfl 52 (noughtCs 0 0 0) R5.out.1 (by rw [DZ2.out]; exact msg_size) (by rw [DZ2.out]; rfl) D12.out ?_
                have s6 : Below w5.heap.size w5 (v5.setRow sn5 ds4) := s5.trans ((Keep.setRow v5 sn5 ds4).below s5.size (by have := R5.out.2; simpa using this))
                refine hK.out _ _ s6 (fun _ => ?_)
                clear hK K
                try simp only [Act.put, List.getElem_toArray, List.getElem_cons_succ, List.getElem_cons_zero, List.setIfInBounds_toArray, List.set_cons_zero, List.set_cons_succ, Nat.zero_add, List.nil_append]
                refine wpAnyH_take (i := 12) (v := dv4) rfl (by kernel_rfl) (by kernel_rfl) (by kernel_rfl) (fun _ _ _ h => h) (Or.inl ⟨by rfl, fun w' hw' => by go_simp⟩) s6 ?_
                try simp only [Act.put, List.getElem_toArray, List.getElem_cons_succ, List.getElem_cons_zero, List.setIfInBounds_toArray, List.set_cons_zero, List.set_cons_succ, Nat.zero_add, List.nil_append]
                refine wpAnyH_done (by kernel_rfl) ?_ _
                clear HX
                go_wp2_with fail
                go_meet
                exact ⟨s6, DD2.out⟩
              · rw [if_pos (by rfl)]
                refine wp_alloc_msg rfl (fun v7 hv7 => ?_)
                have b7 : Below v3.heap.size v3 v7 := by rw [hv7]; exact below_alloc (Below.refl _ _) _
                have s7 : Below w5.heap.size w5 v7 := below_next s3 b7
                have O7 := Lib.hid (owns_keepS O3.out (Keep.of_below b7 []) (by simp))
                have hlt7 := fun g (hg : g ∈ blk ao3) => owns_lt O3.out g hg
                have R7 := Lib.hid (show v7.heap[v3.heap.size]? = some (.cells (noughtCs 0 0 0) 52 (0, 0)) ∧ w5.heap.size ≤ v3.heap.size ∧ v3.heap.size ∉ blk ao3 from ⟨by rw [hv7]; exact heap_alloc_new _ _, s3.size, fun hm => by have := (hlt7 _ hm).2; omega⟩)
                obtain ⟨sn7, hsn7⟩ : ∃ q, v3.heap.size = q := ⟨_, rfl⟩
                rw [hsn7] at R7 ⊢
                clear hsn7 hv7 hlt7
                refine hK.out _ _ s7 (fun _ => ?_)
                clear hK K
                try simp only [Act.put, List.getElem_toArray, List.getElem_cons_succ, List.getElem_cons_zero, List.setIfInBounds_toArray, List.set_cons_zero, List.set_cons_succ, Nat.zero_add, List.nil_append]
                refine wpAnyH_ready (rs := [6]) (by kernel_rfl) (by simp) ?_
                refine AllReadyH.cons rfl (fun K hK => ?_) AllReadyH.nil
                obtain ⟨_, _, hxe8, own8⟩ := Own.of_owns rfl O7.out HFM.out
                cases hxe8
                have DC8 := Lib.hid (decode_any ao3 (n + mn) _ (f ++ ml) (by rw [List.length_append, HN.out, hml]) (by omega) own8.le v7 (HX.out _ s7).2.2.2.1 (HX.out _ s7).2.2.2.2 own8.rd)
                clear own8
                go_simp
                refine DC8.out.mono ?_
                rintro e v8 h8
                obtain ⟨⟨ds8, dv8, rfl, dz8, do8, dd8⟩, b8⟩ := dec_end h8
                have s8 : Below w5.heap.size w5 v8 := below_next s7 b8
                have DZ2 := Lib.hid dz8; have D12 := Lib.hid do8; have DD2 := Lib.hid (dec_more HSP.out.2.1 dd8)
                have R8 := Lib.hid (show v8.heap[sn7]? = some (.cells (noughtCs 0 0 0) 52 (0, 0)) ∧ w5.heap.size ≤ sn7 from ⟨(b8.block _ (Array.getElem?_eq_some_iff.1 R7.out.1).1).trans R7.out.1, R7.out.2.1⟩)
                clear h8 dz8 do8 dd8
                refine hK.out _ _ s8 (fun _ => ?_)
                clear hK K
                try simp only [Act.put, List.getElem_toArray, List.getElem_cons_succ, List.getElem_cons_zero, List.setIfInBounds_toArray, List.set_cons_zero, List.set_cons_succ, Nat.zero_add, List.nil_append]
                refine wpAnyH_take (i := 7) (v := .tuple #[.agg ds8, dv8]) rfl (by kernel_rfl) (by kernel_rfl) (by kernel_rfl) (fun _ _ _ h => h) (Or.inl ⟨by rfl, fun w' hw' => by go_simp⟩) s8 ?_
                try simp only [Act.put, List.getElem_toArray, List.getElem_cons_succ, List.getElem_cons_zero, List.setIfInBounds_toArray, List.set_cons_zero, List.set_cons_succ, Nat.zero_add, List.nil_append]
                refine wpAnyH_take (i := 8) (v := .agg ds8) rfl (by kernel_rfl) (by kernel_rfl) (by kernel_rfl) (fun _ _ _ h => h) (Or.inl ⟨by rfl, fun w' hw' => by go_simp⟩) s8 ?_
                try simp only [Act.put, List.getElem_toArray, List.getElem_cons_succ, List.getElem_cons_zero, List.setIfInBounds_toArray, List.set_cons_zero, List.set_cons_succ, Nat.zero_add, List.nil_append]
                refine wpAnyH_take (i := 9) (v := dv8) rfl (by kernel_rfl) (by kernel_rfl) (by kernel_rfl) (fun _ _ _ h => h) (Or.inl ⟨by rfl, fun w' hw' => by go_simp⟩) s8 ?_
                try simp only [Act.put, List.getElem_toArray, List.getElem_cons_succ, List.getElem_cons_zero, List.setIfInBounds_toArray, List.set_cons_zero, List.set_cons_succ, Nat.zero_add, List.nil_append]
                refine wpAnyH_ready (rs := [11]) (by kernel_rfl) (by simp) ?_
                refine AllReadyH.cons rfl (fun K hK => ?_) AllReadyH.nil
                rw [if_pos (by rfl)]
                refine wp_store_row 52 (.tmp 9) (.tmp 58) rfl sn7 ds8 rfl rfl 52 (noughtCs 0 0 0) R8.out.1 (by rw [DZ2.out]; exact msg_size) (by rw [DZ2.out]; rfl) D12.out ?_
                have s9 : Below w5.heap.size w5 (v8.setRow sn7 ds8) := s8.trans ((Keep.setRow v8 sn7 ds8).below s8.size (by have := R8.out.2; simpa using this))
                refine hK.out _ _ s9 (fun _ => ?_)
                clear hK K
                try simp only [Act.put, List.getElem_toArray, List.getElem_cons_succ, List.getElem_cons_zero, List.setIfInBounds_toArray, List.set_cons_zero, List.set_cons_succ, Nat.zero_add, List.nil_append]
                refine wpAnyH_take (i := 12) (v := dv8) rfl (by kernel_rfl) (by kernel_rfl) (by kernel_rfl) (fun _ _ _ h => h) (Or.inl ⟨by rfl, fun w' hw' => by go_simp⟩) s9 ?_
                try simp only [Act.put, List.getElem_toArray, List.getElem_cons_succ, List.getElem_cons_zero, List.setIfInBounds_toArray, List.set_cons_zero, List.set_cons_succ, Nat.zero_add, List.nil_append]
                refine wpAnyH_done (by kernel_rfl) ?_ _
                clear HX
                go_wp2_with fail
                go_meet
                exact ⟨s9, DD2.out⟩
            · rw [if_pos (by rfl)]
              refine wp_alloc_msg rfl (fun v10 hv10 => ?_)
              have b10 : Below v2.heap.size v2 v10 := by rw [hv10]; exact below_alloc (Below.refl _ _) _
              have s10 : Below w5.heap.size w5 v10 := below_next s2 b10
              have O10 := Lib.hid (owns_keepS O2.out (Keep.of_below b10 []) (by simp))
              have hlt10 := fun g (hg : g ∈ blk ao2) => owns_lt O2.out g hg
              have R10 := Lib.hid (show v10.heap[v2.heap.size]? = some (.cells (noughtCs 0 0 0) 52 (0, 0)) ∧ w5.heap.size ≤ v2.heap.size ∧ v2.heap.size ∉ blk ao2 from ⟨by rw [hv10]; exact heap_alloc_new _ _, s2.size, fun hm => by have := (hlt10 _ hm).2; omega⟩)
              obtain ⟨sn10, hsn10⟩ : ∃ q, v2.heap.size = q := ⟨_, rfl⟩
              rw [hsn10] at R10 ⊢
              clear hsn10 hv10 hlt10
              refine hK.out _ _ s10 (fun _ => ?_)
              clear hK K
              try simp only [Act.put, List.getElem_toArray, List.getElem_cons_succ, List.getElem_cons_zero, List.setIfInBounds_toArray, List.set_cons_zero, List.set_cons_succ, Nat.zero_add, List.nil_append]
              refine wpAnyH_ready (rs := [5]) (by kernel_rfl) (by simp) ?_
              refine AllReadyH.cons rfl (fun K hK => ?_) AllReadyH.nil
              rw [if_pos (by rfl)]
              refine wp_app_wide (.tmp 53) (.tmp 55) rfl rfl O10.out HFB.out rfl (HX.out _ s10).2.2.1 hml s10.size (by omega) (fun ao11 cap11 v11 r11 _ k11 => ?_)
              have s11 : Below w5.heap.size w5 v11 := s10.trans (k11.below s10.size (fun g hg => (owns_lt O10.out g hg).1))
              have O11 := Lib.hid (show v11.ownsRow w5.heap.size 5 1 (.slice ao11 (n + mn) cap11) (n + mn) (YtngcbpgafjnfaaaGreatDoor.cs (f ++ ml)) from r11)
              have hq11 := (Array.getElem?_eq_some_iff.1 R10.out.1).1
              have R11 := Lib.hid (show v11.heap[sn10]? = some (.cells (noughtCs 0 0 0) 52 (0, 0)) ∧ w5.heap.size ≤ sn10 ∧ sn10 ∉ blk ao11 from ⟨(k11.block _ hq11 R10.out.2.2).trans R10.out.1, R10.out.2.1, fun hm => owns_type O11.out hm ((k11.block _ hq11 R10.out.2.2).trans R10.out.1)⟩)
              clear r11
              refine hK.out _ _ s11 (fun _ => ?_)
              clear hK K
              try simp only [Act.put, List.getElem_toArray, List.getElem_cons_succ, List.getElem_cons_zero, List.setIfInBounds_toArray, List.set_cons_zero, List.set_cons_succ, Nat.zero_add, List.nil_append]
              refine wpAnyH_ready (rs := [6]) (by kernel_rfl) (by simp) ?_
              refine AllReadyH.cons rfl (fun K hK => ?_) AllReadyH.nil
              obtain ⟨_, _, hxe12, own12⟩ := Own.of_owns rfl O11.out HFM.out
              cases hxe12
              have DC12 := Lib.hid (decode_any ao11 (n + mn) _ (f ++ ml) (by rw [List.length_append, HN.out, hml]) (by omega) own12.le v11 (HX.out _ s11).2.2.2.1 (HX.out _ s11).2.2.2.2 own12.rd)
              clear own12
              go_simp
              refine DC12.out.mono ?_
              rintro e v12 h12
              obtain ⟨⟨ds12, dv12, rfl, dz12, do12, dd12⟩, b12⟩ := dec_end h12
              have s12 : Below w5.heap.size w5 v12 := below_next s11 b12
              have DZ2 := Lib.hid dz12; have D12 := Lib.hid do12; have DD2 := Lib.hid (dec_more HSP.out.2.1 dd12)
              have R12 := Lib.hid (show v12.heap[sn10]? = some (.cells (noughtCs 0 0 0) 52 (0, 0)) ∧ w5.heap.size ≤ sn10 from ⟨(b12.block _ (Array.getElem?_eq_some_iff.1 R11.out.1).1).trans R11.out.1, R11.out.2.1⟩)
              clear h12 dz12 do12 dd12
              refine hK.out _ _ s12 (fun _ => ?_)
              clear hK K
              try simp only [Act.put, List.getElem_toArray, List.getElem_cons_succ, List.getElem_cons_zero, List.setIfInBounds_toArray, List.set_cons_zero, List.set_cons_succ, Nat.zero_add, List.nil_append]
              refine wpAnyH_take (i := 7) (v := .tuple #[.agg ds12, dv12]) rfl (by kernel_rfl) (by kernel_rfl) (by kernel_rfl) (fun _ _ _ h => h) (Or.inl ⟨by rfl, fun w' hw' => by go_simp⟩) s12 ?_
              try simp only [Act.put, List.getElem_toArray, List.getElem_cons_succ, List.getElem_cons_zero, List.setIfInBounds_toArray, List.set_cons_zero, List.set_cons_succ, Nat.zero_add, List.nil_append]
              refine wpAnyH_take (i := 8) (v := .agg ds12) rfl (by kernel_rfl) (by kernel_rfl) (by kernel_rfl) (fun _ _ _ h => h) (Or.inl ⟨by rfl, fun w' hw' => by go_simp⟩) s12 ?_
              try simp only [Act.put, List.getElem_toArray, List.getElem_cons_succ, List.getElem_cons_zero, List.setIfInBounds_toArray, List.set_cons_zero, List.set_cons_succ, Nat.zero_add, List.nil_append]
              refine wpAnyH_take (i := 9) (v := dv12) rfl (by kernel_rfl) (by kernel_rfl) (by kernel_rfl) (fun _ _ _ h => h) (Or.inl ⟨by rfl, fun w' hw' => by go_simp⟩) s12 ?_
              try simp only [Act.put, List.getElem_toArray, List.getElem_cons_succ, List.getElem_cons_zero, List.setIfInBounds_toArray, List.set_cons_zero, List.set_cons_succ, Nat.zero_add, List.nil_append]
              refine wpAnyH_ready (rs := [11]) (by kernel_rfl) (by simp) ?_
              refine AllReadyH.cons rfl (fun K hK => ?_) AllReadyH.nil
              rw [if_pos (by rfl)]
              refine wp_store_row 52 (.tmp 9) (.tmp 58) rfl sn10 ds12 rfl rfl 52 (noughtCs 0 0 0) R12.out.1 (by rw [DZ2.out]; exact msg_size) (by rw [DZ2.out]; rfl) D12.out ?_
              have s13 : Below w5.heap.size w5 (v12.setRow sn10 ds12) := s12.trans ((Keep.setRow v12 sn10 ds12).below s12.size (by have := R12.out.2; simpa using this))
              refine hK.out _ _ s13 (fun _ => ?_)
              clear hK K
              try simp only [Act.put, List.getElem_toArray, List.getElem_cons_succ, List.getElem_cons_zero, List.setIfInBounds_toArray, List.set_cons_zero, List.set_cons_succ, Nat.zero_add, List.nil_append]
              refine wpAnyH_take (i := 12) (v := dv12) rfl (by kernel_rfl) (by kernel_rfl) (by kernel_rfl) (fun _ _ _ h => h) (Or.inl ⟨by rfl, fun w' hw' => by go_simp⟩) s13 ?_
              try simp only [Act.put, List.getElem_toArray, List.getElem_cons_succ, List.getElem_cons_zero, List.setIfInBounds_toArray, List.set_cons_zero, List.set_cons_succ, Nat.zero_add, List.nil_append]
              refine wpAnyH_done (by kernel_rfl) ?_ _
              clear HX
              go_wp2_with fail
              go_meet
              exact ⟨s13, DD2.out⟩
          · rw [if_pos (by rfl)]
            refine wp_alloc_msg rfl (fun v14 hv14 => ?_)
            have b14 : Below v1.heap.size v1 v14 := by rw [hv14]; exact below_alloc (Below.refl _ _) _
            have s14 : Below w5.heap.size w5 v14 := below_next s1 b14
            have O14 := Lib.hid (owns_keepS O1.out (Keep.of_below b14 []) (by simp))
            have hlt14 := fun g (hg : g ∈ blk (some ⟨w5.drew.heap.size, 0, none⟩)) => owns_lt O1.out g hg
            have R14 := Lib.hid (show v14.heap[v1.heap.size]? = some (.cells (noughtCs 0 0 0) 52 (0, 0)) ∧ w5.heap.size ≤ v1.heap.size ∧ v1.heap.size ∉ blk (some ⟨w5.drew.heap.size, 0, none⟩) from ⟨by rw [hv14]; exact heap_alloc_new _ _, s1.size, fun hm => by have := (hlt14 _ hm).2; omega⟩)
            obtain ⟨sn14, hsn14⟩ : ∃ q, v1.heap.size = q := ⟨_, rfl⟩
            rw [hsn14] at R14 ⊢
            clear hsn14 hv14 hlt14
            refine hK.out _ _ s14 (fun _ => ?_)
            clear hK K
            try simp only [Act.put, List.getElem_toArray, List.getElem_cons_succ, List.getElem_cons_zero, List.setIfInBounds_toArray, List.set_cons_zero, List.set_cons_succ, Nat.zero_add, List.nil_append]
            refine wpAnyH_ready (rs := [2]) (by kernel_rfl) (by simp) ?_
            refine AllReadyH.cons rfl (fun K hK => ?_) AllReadyH.nil
            rw [if_pos (by rfl)]
            refine wp_app_wide (.tmp 51) (.tmp 52) rfl rfl O14.out (by simp) rfl (HX.out _ s14).2.1 HN.out s14.size (by omega) (fun ao15 cap15 v15 r15 _ k15 => ?_)
            have s15 : Below w5.heap.size w5 v15 := s14.trans (k15.below s14.size (fun g hg => (owns_lt O14.out g hg).1))
            rw [Nat.zero_add] at r15
            have O15 := Lib.hid (show v15.ownsRow w5.heap.size 5 1 (.slice ao15 n cap15) n (YtngcbpgafjnfaaaGreatDoor.cs f) from r15)
            have hq15 := (Array.getElem?_eq_some_iff.1 R14.out.1).1
            have R15 := Lib.hid (show v15.heap[sn14]? = some (.cells (noughtCs 0 0 0) 52 (0, 0)) ∧ w5.heap.size ≤ sn14 ∧ sn14 ∉ blk ao15 from ⟨(k15.block _ hq15 R14.out.2.2).trans R14.out.1, R14.out.2.1, fun hm => owns_type O15.out hm ((k15.block _ hq15 R14.out.2.2).trans R14.out.1)⟩)
            clear r15
            refine hK.out _ _ s15 (fun _ => ?_)
            clear hK K
            try simp only [Act.put, List.getElem_toArray, List.getElem_cons_succ, List.getElem_cons_zero, List.setIfInBounds_toArray, List.set_cons_zero, List.set_cons_succ, Nat.zero_add, List.nil_append]
            refine wpAnyH_ready (rs := [5]) (by kernel_rfl) (by simp) ?_
            refine AllReadyH.cons rfl (fun K hK => ?_) AllReadyH.nil
            rw [if_pos (by rfl)]
            refine wp_app_wide (.tmp 53) (.tmp 55) rfl rfl O15.out HFB.out rfl (HX.out _ s15).2.2.1 hml s15.size (by omega) (fun ao16 cap16 v16 r16 _ k16 => ?_)
            have s16 : Below w5.heap.size w5 v16 := s15.trans (k16.below s15.size (fun g hg => (owns_lt O15.out g hg).1))
            have O16 := Lib.hid (show v16.ownsRow w5.heap.size 5 1 (.slice ao16 (n + mn) cap16) (n + mn) (YtngcbpgafjnfaaaGreatDoor.cs (f ++ ml)) from r16)
            have hq16 := (Array.getElem?_eq_some_iff.1 R15.out.1).1
            have R16 := Lib.hid (show v16.heap[sn14]? = some (.cells (noughtCs 0 0 0) 52 (0, 0)) ∧ w5.heap.size ≤ sn14 ∧ sn14 ∉ blk ao16 from ⟨(k16.block _ hq16 R15.out.2.2).trans R15.out.1, R15.out.2.1, fun hm => owns_type O16.out hm ((k16.block _ hq16 R15.out.2.2).trans R15.out.1)⟩)
            clear r16
            refine hK.out _ _ s16 (fun _ => ?_)
            clear hK K
            try simp only [Act.put, List.getElem_toArray, List.getElem_cons_succ, List.getElem_cons_zero, List.setIfInBounds_toArray, List.set_cons_zero, List.set_cons_succ, Nat.zero_add, List.nil_append]
            refine wpAnyH_ready (rs := [6]) (by kernel_rfl) (by simp) ?_
            refine AllReadyH.cons rfl (fun K hK => ?_) AllReadyH.nil
            obtain ⟨_, _, hxe17, own17⟩ := Own.of_owns rfl O16.out HFM.out
            cases hxe17
            have DC17 := Lib.hid (decode_any ao16 (n + mn) _ (f ++ ml) (by rw [List.length_append, HN.out, hml]) (by omega) own17.le v16 (HX.out _ s16).2.2.2.1 (HX.out _ s16).2.2.2.2 own17.rd)
            clear own17
            go_simp
            refine DC17.out.mono ?_
            rintro e v17 h17
            obtain ⟨⟨ds17, dv17, rfl, dz17, do17, dd17⟩, b17⟩ := dec_end h17
            have s17 : Below w5.heap.size w5 v17 := below_next s16 b17
            have DZ2 := Lib.hid dz17; have D12 := Lib.hid do17; have DD2 := Lib.hid (dec_more HSP.out.2.1 dd17)
            have R17 := Lib.hid (show v17.heap[sn14]? = some (.cells (noughtCs 0 0 0) 52 (0, 0)) ∧ w5.heap.size ≤ sn14 from ⟨(b17.block _ (Array.getElem?_eq_some_iff.1 R16.out.1).1).trans R16.out.1, R16.out.2.1⟩)
            clear h17 dz17 do17 dd17
            refine hK.out _ _ s17 (fun _ => ?_)
            clear hK K
            try simp only [Act.put, List.getElem_toArray, List.getElem_cons_succ, List.getElem_cons_zero, List.setIfInBounds_toArray, List.set_cons_zero, List.set_cons_succ, Nat.zero_add, List.nil_append]
            refine wpAnyH_take (i := 7) (v := .tuple #[.agg ds17, dv17]) rfl (by kernel_rfl) (by kernel_rfl) (by kernel_rfl) (fun _ _ _ h => h) (Or.inl ⟨by rfl, fun w' hw' => by go_simp⟩) s17 ?_
            try simp only [Act.put, List.getElem_toArray, List.getElem_cons_succ, List.getElem_cons_zero, List.setIfInBounds_toArray, List.set_cons_zero, List.set_cons_succ, Nat.zero_add, List.nil_append]
            refine wpAnyH_take (i := 8) (v := .agg ds17) rfl (by kernel_rfl) (by kernel_rfl) (by kernel_rfl) (fun _ _ _ h => h) (Or.inl ⟨by rfl, fun w' hw' => by go_simp⟩) s17 ?_
            try simp only [Act.put, List.getElem_toArray, List.getElem_cons_succ, List.getElem_cons_zero, List.setIfInBounds_toArray, List.set_cons_zero, List.set_cons_succ, Nat.zero_add, List.nil_append]
            refine wpAnyH_take (i := 9) (v := dv17) rfl (by kernel_rfl) (by kernel_rfl) (by kernel_rfl) (fun _ _ _ h => h) (Or.inl ⟨by rfl, fun w' hw' => by go_simp⟩) s17 ?_
            try simp only [Act.put, List.getElem_toArray, List.getElem_cons_succ, List.getElem_cons_zero, List.setIfInBounds_toArray, List.set_cons_zero, List.set_cons_succ, Nat.zero_add, List.nil_append]
            refine wpAnyH_ready (rs := [11]) (by kernel_rfl) (by simp) ?_
            refine AllReadyH.cons rfl (fun K hK => ?_) AllReadyH.nil
            rw [if_pos (by rfl)]
            refine wp_store_row 52 (.tmp 9) (.tmp 58) rfl sn14 ds17 rfl rfl 52 (noughtCs 0 0 0) R17.out.1 (by rw [DZ2.out]; exact msg_size) (by rw [DZ2.out]; rfl) D12.out ?_
            have s18 : Below w5.heap.size w5 (v17.setRow sn14 ds17) := s17.trans ((Keep.setRow v17 sn14 ds17).below s17.size (by have := R17.out.2; simpa using this))
            refine hK.out _ _ s18 (fun _ => ?_)
            clear hK K
            try simp only [Act.put, List.getElem_toArray, List.getElem_cons_succ, List.getElem_cons_zero, List.setIfInBounds_toArray, List.set_cons_zero, List.set_cons_succ, Nat.zero_add, List.nil_append]
            refine wpAnyH_take (i := 12) (v := dv17) rfl (by kernel_rfl) (by kernel_rfl) (by kernel_rfl) (fun _ _ _ h => h) (Or.inl ⟨by rfl, fun w' hw' => by go_simp⟩) s18 ?_
            try simp only [Act.put, List.getElem_toArray, List.getElem_cons_succ, List.getElem_cons_zero, List.setIfInBounds_toArray, List.set_cons_zero, List.set_cons_succ, Nat.zero_add, List.nil_append]
            refine wpAnyH_done (by kernel_rfl) ?_ _
            clear HX
            go_wp2_with fail
            go_meet
            exact ⟨s18, DD2.out⟩
        · rw [if_pos (by rfl)]
          refine wp_alloc_msg rfl (fun v19 hv19 => ?_)
          have b19 : Below w5.drew.heap.size w5.drew v19 := by rw [hv19]; exact below_alloc (Below.refl _ _) _
          have s19 : Below w5.heap.size w5 v19 := below_next s0 b19
          have R19 := Lib.hid (show v19.heap[w5.drew.heap.size]? = some (.cells (noughtCs 0 0 0) 52 (0, 0)) ∧ w5.heap.size ≤ w5.drew.heap.size from ⟨by rw [hv19]; exact heap_alloc_new _ _, s0.size⟩)
          obtain ⟨sn19, hsn19⟩ : ∃ q, w5.drew.heap.size = q := ⟨_, rfl⟩
          rw [hsn19] at R19 ⊢
          clear hsn19 hv19
          refine hK.out _ _ s19 (fun _ => ?_)
          clear hK K
          try simp only [Act.put, List.getElem_toArray, List.getElem_cons_succ, List.getElem_cons_zero, List.setIfInBounds_toArray, List.set_cons_zero, List.set_cons_succ, Nat.zero_add, List.nil_append]
          refine wpAnyH_ready (rs := [0]) (by kernel_rfl) (by simp) ?_
          refine AllReadyH.cons rfl (fun K hK => ?_) AllReadyH.nil
          rw [if_pos (by rfl)]
          refine wp_build0 rfl (fun v20 hv20 => ?_)
          have b20 : Below v19.heap.size v19 v20 := by rw [hv20]; exact below_alloc (Below.refl _ _) _
          have s20 : Below w5.heap.size w5 v20 := below_next s19 b20
          have O20 := Lib.hid (show v20.ownsRow w5.heap.size 5 1 (.slice (some ⟨v19.heap.size, 0, none⟩) 0 0) 0 (YtngcbpgafjnfaaaGreatDoor.cs []) by rw [hv20]; exact owns_empty v19 _ s19.size)
          have hq20 := (Array.getElem?_eq_some_iff.1 R19.out.1).1
          have R20 := Lib.hid (show v20.heap[sn19]? = some (.cells (noughtCs 0 0 0) 52 (0, 0)) ∧ w5.heap.size ≤ sn19 ∧ sn19 ∉ blk (some ⟨v19.heap.size, 0, none⟩) from ⟨(b20.block _ hq20).trans R19.out.1, R19.out.2, by simp [blk]; omega⟩)
          clear hv20
          refine hK.out _ _ s20 (fun _ => ?_)
          clear hK K
          try simp only [Act.put, List.getElem_toArray, List.getElem_cons_succ, List.getElem_cons_zero, List.setIfInBounds_toArray, List.set_cons_zero, List.set_cons_succ, Nat.zero_add, List.nil_append]
          refine wpAnyH_ready (rs := [2]) (by kernel_rfl) (by simp) ?_
          refine AllReadyH.cons rfl (fun K hK => ?_) AllReadyH.nil
          rw [if_pos (by rfl)]
          refine wp_app_wide (.tmp 51) (.tmp 52) rfl rfl O20.out (by simp) rfl (HX.out _ s20).2.1 HN.out s20.size (by omega) (fun ao21 cap21 v21 r21 _ k21 => ?_)
          have s21 : Below w5.heap.size w5 v21 := s20.trans (k21.below s20.size (fun g hg => (owns_lt O20.out g hg).1))
          rw [Nat.zero_add] at r21
          have O21 := Lib.hid (show v21.ownsRow w5.heap.size 5 1 (.slice ao21 n cap21) n (YtngcbpgafjnfaaaGreatDoor.cs f) from r21)
          have hq21 := (Array.getElem?_eq_some_iff.1 R20.out.1).1
          have R21 := Lib.hid (show v21.heap[sn19]? = some (.cells (noughtCs 0 0 0) 52 (0, 0)) ∧ w5.heap.size ≤ sn19 ∧ sn19 ∉ blk ao21 from ⟨(k21.block _ hq21 R20.out.2.2).trans R20.out.1, R20.out.2.1, fun hm => owns_type O21.out hm ((k21.block _ hq21 R20.out.2.2).trans R20.out.1)⟩)
          clear r21
          refine hK.out _ _ s21 (fun _ => ?_)
          clear hK K
          try simp only [Act.put, List.getElem_toArray, List.getElem_cons_succ, List.getElem_cons_zero, List.setIfInBounds_toArray, List.set_cons_zero, List.set_cons_succ, Nat.zero_add, List.nil_append]
          refine wpAnyH_ready (rs := [5]) (by kernel_rfl) (by simp) ?_
          refine AllReadyH.cons rfl (fun K hK => ?_) AllReadyH.nil
          rw [if_pos (by rfl)]
          refine wp_app_wide (.tmp 53) (.tmp 55) rfl rfl O21.out HFB.out rfl (HX.out _ s21).2.2.1 hml s21.size (by omega) (fun ao22 cap22 v22 r22 _ k22 => ?_)
          have s22 : Below w5.heap.size w5 v22 := s21.trans (k22.below s21.size (fun g hg => (owns_lt O21.out g hg).1))
          have O22 := Lib.hid (show v22.ownsRow w5.heap.size 5 1 (.slice ao22 (n + mn) cap22) (n + mn) (YtngcbpgafjnfaaaGreatDoor.cs (f ++ ml)) from r22)
          have hq22 := (Array.getElem?_eq_some_iff.1 R21.out.1).1
          have R22 := Lib.hid (show v22.heap[sn19]? = some (.cells (noughtCs 0 0 0) 52 (0, 0)) ∧ w5.heap.size ≤ sn19 ∧ sn19 ∉ blk ao22 from ⟨(k22.block _ hq22 R21.out.2.2).trans R21.out.1, R21.out.2.1, fun hm => owns_type O22.out hm ((k22.block _ hq22 R21.out.2.2).trans R21.out.1)⟩)
          clear r22
          refine hK.out _ _ s22 (fun _ => ?_)
          clear hK K
          try simp only [Act.put, List.getElem_toArray, List.getElem_cons_succ, List.getElem_cons_zero, List.setIfInBounds_toArray, List.set_cons_zero, List.set_cons_succ, Nat.zero_add, List.nil_append]
          refine wpAnyH_ready (rs := [6]) (by kernel_rfl) (by simp) ?_
          refine AllReadyH.cons rfl (fun K hK => ?_) AllReadyH.nil
          obtain ⟨_, _, hxe23, own23⟩ := Own.of_owns rfl O22.out HFM.out
          cases hxe23
          have DC23 := Lib.hid (decode_any ao22 (n + mn) _ (f ++ ml) (by rw [List.length_append, HN.out, hml]) (by omega) own23.le v22 (HX.out _ s22).2.2.2.1 (HX.out _ s22).2.2.2.2 own23.rd)
          clear own23
          go_simp
          refine DC23.out.mono ?_
          rintro e v23 h23
          obtain ⟨⟨ds23, dv23, rfl, dz23, do23, dd23⟩, b23⟩ := dec_end h23
          have s23 : Below w5.heap.size w5 v23 := below_next s22 b23
          have DZ2 := Lib.hid dz23; have D12 := Lib.hid do23; have DD2 := Lib.hid (dec_more HSP.out.2.1 dd23)
          have R23 := Lib.hid (show v23.heap[sn19]? = some (.cells (noughtCs 0 0 0) 52 (0, 0)) ∧ w5.heap.size ≤ sn19 from ⟨(b23.block _ (Array.getElem?_eq_some_iff.1 R22.out.1).1).trans R22.out.1, R22.out.2.1⟩)
          clear h23 dz23 do23 dd23
          refine hK.out _ _ s23 (fun _ => ?_)
          clear hK K
          try simp only [Act.put, List.getElem_toArray, List.getElem_cons_succ, List.getElem_cons_zero, List.setIfInBounds_toArray, List.set_cons_zero, List.set_cons_succ, Nat.zero_add, List.nil_append]
          refine wpAnyH_take (i := 7) (v := .tuple #[.agg ds23, dv23]) rfl (by kernel_rfl) (by kernel_rfl) (by kernel_rfl) (fun _ _ _ h => h) (Or.inl ⟨by rfl, fun w' hw' => by go_simp⟩) s23 ?_
          try simp only [Act.put, List.getElem_toArray, List.getElem_cons_succ, List.getElem_cons_zero, List.setIfInBounds_toArray, List.set_cons_zero, List.set_cons_succ, Nat.zero_add, List.nil_append]
          refine wpAnyH_take (i := 8) (v := .agg ds23) rfl (by kernel_rfl) (by kernel_rfl) (by kernel_rfl) (fun _ _ _ h => h) (Or.inl ⟨by rfl, fun w' hw' => by go_simp⟩) s23 ?_
          try simp only [Act.put, List.getElem_toArray, List.getElem_cons_succ, List.getElem_cons_zero, List.setIfInBounds_toArray, List.set_cons_zero, List.set_cons_succ, Nat.zero_add, List.nil_append]
          refine wpAnyH_take (i := 9) (v := dv23) rfl (by kernel_rfl) (by kernel_rfl) (by kernel_rfl) (fun _ _ _ h => h) (Or.inl ⟨by rfl, fun w' hw' => by go_simp⟩) s23 ?_
          try simp only [Act.put, List.getElem_toArray, List.getElem_cons_succ, List.getElem_cons_zero, List.setIfInBounds_toArray, List.set_cons_zero, List.set_cons_succ, Nat.zero_add, List.nil_append]
          refine wpAnyH_ready (rs := [11]) (by kernel_rfl) (by simp) ?_
          refine AllReadyH.cons rfl (fun K hK => ?_) AllReadyH.nil
          rw [if_pos (by rfl)]
          refine wp_store_row 52 (.tmp 9) (.tmp 58) rfl sn19 ds23 rfl rfl 52 (noughtCs 0 0 0) R23.out.1 (by rw [DZ2.out]; exact msg_size) (by rw [DZ2.out]; rfl) D12.out ?_
          have s24 : Below w5.heap.size w5 (v23.setRow sn19 ds23) := s23.trans ((Keep.setRow v23 sn19 ds23).below s23.size (by have := R23.out.2; simpa using this))
          refine hK.out _ _ s24 (fun _ => ?_)
          clear hK K
          try simp only [Act.put, List.getElem_toArray, List.getElem_cons_succ, List.getElem_cons_zero, List.setIfInBounds_toArray, List.set_cons_zero, List.set_cons_succ, Nat.zero_add, List.nil_append]
          refine wpAnyH_take (i := 12) (v := dv23) rfl (by kernel_rfl) (by kernel_rfl) (by kernel_rfl) (fun _ _ _ h => h) (Or.inl ⟨by rfl, fun w' hw' => by go_simp⟩) s24 ?_
          try simp only [Act.put, List.getElem_toArray, List.getElem_cons_succ, List.getElem_cons_zero, List.setIfInBounds_toArray, List.set_cons_zero, List.set_cons_succ, Nat.zero_add, List.nil_append]
          refine wpAnyH_done (by kernel_rfl) ?_ _
          clear HX
          go_wp2_with fail
          go_meet
          exact ⟨s24, DD2.out⟩
  -- END 12
      case rest =>
        obtain ⟨hbc, hmo⟩ := hcut
        have hx := HX.out wc hbc
        have hrd := hx.2.1
        have HBC := Lib.hid hbc; have HMO := Lib.hid hmo; have HRD := Lib.hid hrd
        clear hbc hmo hrd hx
        have RK : Hid (∀ w', Below wc.heap.size wc w' → w'.cell? ⟨W.heap.size, 50, none⟩ = some (.int .u8 (by_ : Int)) ∧ w'.cell? ⟨W.heap.size, 51, none⟩ = some (.slice mo mn mc) ∧ ErrT w' ∧ Tab w' ∧ Below W.heap.size W w' ∧ W.heap.size < wc.heap.size) := Lib.hid (fun w' b => by
          have hb := below_next HBC.out b
          have hb3 := below_next HB35.out hb
          have hq := HX.out w' hb
          have h1 := (Array.getElem?_eq_some_iff.1 HR3.out).1
          exact ⟨by rw [cell_of_row w' _ 50 _ _ (0, 0) ((hb3.block _ h1).trans HR3.out), HA.out]; exact C50.out, hq.1, hq.2.2.2.1, hq.2.2.2.2, below_next HB5.out hb, by have := HB35.out.size; have := HBC.out.size; omega⟩)
        go_wp2_with (at_builtin; refine wpList_app rfl (.tmp 60) (.tmp 61) rfl rfl (Own.none' wc wc.heap.size (Nat.le_refl _)) rfl (HRD.out.below (below_alloc (Below.refl _ _) _)) HN.out (by simp) (by omega) ?_; intro ao7 cap7 w7 own7 kp7 nb7)
        rw [Nat.zero_add, List.nil_append] at own7
        have hb7 : Below wc.heap.size wc w7 := (below_alloc (Below.refl _ _) _).trans (kp7.below (by simp) (by simp [blk]))
        obtain ⟨g7, o7, rfl, hg7, hgl7, hc7, hf7⟩ := own7.at_ p HPN.out
        obtain ⟨hc50, hc51, hE7, hT7, hB7, hltW⟩ := RK.out w7 hb7
        have hby7 := own7.rd.byte p
        have e1 := u8_xor_nat (bt f p) by_ hby7 hby
        have hzl : bt f p ^^^ by_ < 256 := Nat.xor_lt_two_pow (n := 8) hby7 hby
        have hdec := HSP.out.2.2 p by_ (by rw [HN.out]; exact HPN.out) hby
        have HO7 := Lib.hid own7; have HB7 := Lib.hid hb7
        obtain ⟨z, hz⟩ : ∃ z, bt f p ^^^ by_ = z := ⟨_, rfl⟩
        rw [hz] at e1 hzl hdec
        have hset := own7.set p z HPN.out hzl
        have hle7 := own7.le; have hmax7 := own7.max
        have hpn := HPN.out
        have hpi : (p : Int) < (n : Int) := by omega
        have hne7 : g7 ≠ W.heap.size := by omega
        obtain ⟨v, hv⟩ : ∃ v, bt f p = v := ⟨_, rfl⟩
        rw [hv] at e1 hc7
        have HDE := Lib.hid hdec
        have hdr : Own ((w7.setCell ⟨g7, o7 + p, none⟩ (u8v z)).drew) wc.heap.size (some ⟨g7, o7, none⟩) n cap7 (f.set p z) := hset.below (Below.refl _ _).drew
        have HS7 := Lib.hid hdr
        have kk7 := Keep.setCell w7 ⟨g7, o7 + p, none⟩ (u8v z)
        have hb8 : Below wc.heap.size wc ((w7.setCell ⟨g7, o7 + p, none⟩ (u8v z)).drew) := (hb7.trans (kk7.below hb7.size (by simpa using hg7))).drew
        have HB8 := Lib.hid hb8
        clear hz hv hdec hset hdr kk7 hb8 own7 hby7 hb7 kp7 nb7 hE7 hT7 hB7 hc51
        go_region
        generalize World.drew (w7.setCell ⟨g7, o7 + p, none⟩ (u8v z)) = w8 at *
        clear hc50 hc7 hf7 e1 hpi hne7
        obtain ⟨hc50, hc51, hE8, hT8, hB8, _⟩ := RK.out w8 HB8.out
        have DC := Lib.hid (decode_any (some ⟨g7, o7, none⟩) n cap7 (f.set p z) (by rw [List.length_set]; exact HN.out) (by omega) hle7 w8 hE8 hT8 HS7.out.rd)
        clear hE8 hT8 hB8 hc50 hc51
        go_wp2_with fail
        refine DC.out.mono ?_; rintro e w9 h9
        obtain ⟨⟨es, ev, rfl, ez, ee, ed⟩, b9⟩ := dec_end h9
        have EZ := Lib.hid ez; have EE := Lib.hid ee; have B9 := Lib.hid (below_next HB8.out b9); have ED := Lib.hid ed
        clear h9 ez ee ed b9 DC
        go_wp2_with (refine wpList_var rfl rfl rfl (.tmp 12) (.tmp 76) rfl rfl rfl es rfl EZ.out EE.out ?_; intro w10 b10)
        obtain ⟨hc50, hc51, _, _, hB10, _⟩ := RK.out w10 (below_next B9.out b10)
        have HB10 := Lib.hid hB10
        clear b10 hB10
        have hms : ml = [] ↔ mn = 0 := by rw [← hml]; exact List.length_eq_zero_iff.symm
        rcases HMO.out with ⟨rfl, h1⟩ | ⟨⟨am, rfl⟩, h1⟩ <;> rcases ED.out with ⟨rfl, h2⟩ | ⟨⟨xx, h2⟩, aa, rfl⟩
        · have h3 : mn = 0 := hms.1 h1
          have h4 : by_ = 0 := HDE.out.1 h2
          subst h3 h4
          go_quiet (fail)
          go_wp2_with fail
          go_ret
          exact ⟨rfl, HB10.out.trans ⟨rfl, rfl, rfl, Nat.le_refl _, fun _ _ => rfl⟩⟩
        · have h3 : mn = 0 := hms.1 h1
          have h4 : by_ ≠ 0 := fun e => by obtain ⟨m', hm'⟩ := HDE.out.2 e; rw [h2] at hm'; cases hm'
          subst h3
          have h5 : ((by_ : Int) == 0) = false := by simp; omega
          go_quiet (fail)
          go_wp2_with fail
          go_ret
          exact ⟨rfl, HB10.out.trans ⟨rfl, rfl, rfl, Nat.le_refl _, fun _ _ => rfl⟩⟩
        · have h3 : mn ≠ 0 := fun e => h1 (hms.2 e)
          have h4 : by_ = 0 := HDE.out.1 h2
          subst h4
          have h5 : ((mn : Int) == 0) = false := by simp; omega
          go_quiet (fail)
          go_wp2_with fail
          go_ret
          exact ⟨rfl, HB10.out.trans ⟨rfl, rfl, rfl, Nat.le_refl _, fun _ _ => rfl⟩⟩
        · have h3 : mn ≠ 0 := fun e => h1 (hms.2 e)
          have h4 : by_ ≠ 0 := fun e => by obtain ⟨m', hm'⟩ := HDE.out.2 e; rw [h2] at hm'; cases hm'
          have h5 : ((mn : Int) == 0) = false := by simp; omega
          have h6 : ((by_ : Int) == 0) = false := by simp; omega
          go_quiet (fail)
          go_wp2_with fail
          go_ret
          exact ⟨rfl, HB10.out.trans ⟨rfl, rfl, rfl, Nat.le_refl _, fun _ _ => rfl⟩⟩
    · obtain ⟨p, hp, hpn⟩ : ∃ p : Nat, at_ % (n : Int) = (p : Int) ∧ p < n := by
        have h1 := Int.emod_nonneg at_ (show (n : Int) ≠ 0 by omega)
        have h2 := Int.emod_lt_of_pos at_ (show (0 : Int) < (n : Int) by omega)
        exact ⟨(at_ % (n : Int)).toNat, by omega, by omega⟩
      have hpc : p ≤ cap := by omega
      go_wp2_with fail
      simp only [hp]
      have HPN := Lib.hid hpn
      clear hp hneg hpc r49 hat1 hat2
      have hE3 := HE.out.below HB3.out
      have hT3 := HT.out.below HB3.out
      refine (decode_any ao p cap (f.take p) (by rw [List.length_take, HN.out]; omega) (by omega) (by omega) w3 hE3 hT3 (HO.out.rd.take p)).mono ?_
      rintro e w4 h4
      obtain ⟨⟨dcs, dv, rfl, dz, d1, dd⟩, b4⟩ := dec_end h4
      obtain ⟨a4, rfl⟩ : ∃ a, dv = .iface 112 (.pointer (some a)) := by
        rcases dd with ⟨_, m', hm'⟩ | ⟨_, h⟩
        · obtain ⟨x, hx⟩ := HSP.out.1 p (by rw [HN.out]; exact HPN.out)
          rw [hx] at hm'; cases hm'
        · exact h
      have B4 := Lib.hid b4; have DZ := Lib.hid dz; have D1 := Lib.hid d1
      clear h4 b4 dz d1 dd hE3 hT3
      go_wp2_with (refine wpList_var rfl rfl rfl (.tmp 7) (.tmp 48) rfl rfl rfl dcs rfl DZ.out D1.out ?_; intro w5 b5)
      have HB5 := Lib.hid (below_next HB3.out (below_next B4.out b5))
      have HB35 := Lib.hid (below_next B4.out b5)
      have HX : Hid (∀ w', Below w5.heap.size w5 w' → w'.cell? ⟨W.heap.size, 51, none⟩ = some (.slice mo mn mc) ∧ Rd w' ao f ∧ Rd w' mo ml ∧ ErrT w' ∧ Tab w') := Lib.hid (fun w' b => by
        have hb := below_next HB5.out b
        have hb3 := below_next HB35.out b
        exact ⟨by rw [cell_of_row w' _ 51 _ _ (0, 0) ((hb3.block _ (Array.getElem?_eq_some_iff.1 HR3.out).1).trans HR3.out), HA.out]; exact C51.out, HO.out.rd.below hb3, HR.out.below hb, HE.out.below hb, HT.out.below hb⟩)
      have HFB := Lib.hid HO.out.lt
      have HFM := Lib.hid (fun c (hc : c ∈ f ++ ml) => show c < 256 from by rcases List.mem_append.1 hc with h | h; exact HO.out.lt c h; exact HR.out.lt c h)
      clear b5
      go_cut [9, 10] from 50 to 59 (fun v9 v10 wx => Below w5.heap.size w5 wx ∧ MoreE ml v10)
      case first =>
  -- REGION 12
        refine wp_region_held_drew (S := fun w' => Below w5.heap.size w5 w') (by kernel_rfl) ((Below.refl _ _).drew) (fun s0 => ?_)
        refine wpAnyH_take (i := 1) (v := .slice ao n cap) rfl (by kernel_rfl) (by kernel_rfl) (by kernel_rfl) (fun _ _ _ h => h) (Or.inl ⟨by rfl, fun w' hw' => by go_simp⟩) s0 ?_
        try simp only [Act.put, List.getElem_toArray, List.getElem_cons_succ, List.getElem_cons_zero, List.setIfInBounds_toArray, List.set_cons_zero, List.set_cons_succ, Nat.zero_add, List.nil_append]
        refine wpAnyH_take (i := 3) (v := .pointer (some ⟨W.heap.size, 51, none⟩)) rfl (by kernel_rfl) (by kernel_rfl) (by kernel_rfl) (fun _ _ _ h => h) (Or.inl ⟨by rfl, fun w' hw' => by go_simp⟩) s0 ?_
        try simp only [Act.put, List.getElem_toArray, List.getElem_cons_succ, List.getElem_cons_zero, List.setIfInBounds_toArray, List.set_cons_zero, List.set_cons_succ, Nat.zero_add, List.nil_append]
        refine wpAnyH_take (i := 4) (v := .slice mo mn mc) rfl (by kernel_rfl) (by kernel_rfl) (by kernel_rfl) (fun _ _ _ h => h) (Or.inl ⟨by rfl, fun w' hw' => by have h51 := (HX.out w' hw').1; go_simp⟩) s0 ?_
        try simp only [Act.put, List.getElem_toArray, List.getElem_cons_succ, List.getElem_cons_zero, List.setIfInBounds_toArray, List.set_cons_zero, List.set_cons_succ, Nat.zero_add, List.nil_append]
        refine wpAnyH_ready (rs := [0, 10]) (by kernel_rfl) (by simp) ?_
        refine AllReadyH.cons rfl (fun K hK => ?_) (AllReadyH.cons rfl (fun K hK => ?_) AllReadyH.nil)
        · rw [if_pos (by rfl)]
          refine wp_build0 rfl (fun v1 hv1 => ?_)
          have b1 : Below w5.drew.heap.size w5.drew v1 := by rw [hv1]; exact below_alloc (Below.refl _ _) _
          have s1 : Below w5.heap.size w5 v1 := below_next s0 b1
          have O1 := Lib.hid (show v1.ownsRow w5.heap.size 5 1 (.slice (some ⟨w5.drew.heap.size, 0, none⟩) 0 0) 0 (YtngcbpgafjnfaaaGreatDoor.cs []) by rw [hv1]; exact owns_empty w5.drew _ s0.size)
          clear hv1
          refine hK.out _ _ s1 (fun _ => ?_)
          clear hK K
          try simp only [Act.put, List.getElem_toArray, List.getElem_cons_succ, List.getElem_cons_zero, List.setIfInBounds_toArray, List.set_cons_zero, List.set_cons_succ, Nat.zero_add, List.nil_append]
          refine wpAnyH_ready (rs := [2, 10]) (by kernel_rfl) (by simp) ?_
          refine AllReadyH.cons rfl (fun K hK => ?_) (AllReadyH.cons rfl (fun K hK => ?_) AllReadyH.nil)
          · rw [if_pos (by rfl)]
            refine wp_app_wide (.tmp 51) (.tmp 52) rfl rfl O1.out (by simp) rfl (HX.out _ s1).2.1 HN.out s1.size (by omega) (fun ao2 cap2 v2 r2 _ k2 => ?_)
            have s2 : Below w5.heap.size w5 v2 := s1.trans (k2.below s1.size (fun g hg => (owns_lt O1.out g hg).1))
            rw [Nat.zero_add] at r2
            have O2 := Lib.hid (show v2.ownsRow w5.heap.size 5 1 (.slice ao2 n cap2) n (YtngcbpgafjnfaaaGreatDoor.cs f) from r2)
            clear r2
            refine hK.out _ _ s2 (fun _ => ?_)
            clear hK K
            try simp only [Act.put, List.getElem_toArray, List.getElem_cons_succ, List.getElem_cons_zero, List.setIfInBounds_toArray, List.set_cons_zero, List.set_cons_succ, Nat.zero_add, List.nil_append]
            refine wpAnyH_ready (rs := [5, 10]) (by kernel_rfl) (by simp) ?_
            refine AllReadyH.cons rfl (fun K hK => ?_) (AllReadyH.cons rfl (fun K hK => ?_) AllReadyH.nil)
            · rw [if_pos (by rfl)]
              refine wp_app_wide (.tmp 53) (.tmp 55) rfl rfl O2.out HFB.out rfl (HX.out _ s2).2.2.1 hml s2.size (by omega) (fun ao3 cap3 v3 r3 _ k3 => ?_)
              have s3 : Below w5.heap.size w5 v3 := s2.trans (k3.below s2.size (fun g hg => (owns_lt O2.out g hg).1))
              have O3 := Lib.hid (show v3.ownsRow w5.heap.size 5 1 (.slice ao3 (n + mn) cap3) (n + mn) (YtngcbpgafjnfaaaGreatDoor.cs (f ++ ml)) from r3)
              clear r3
              refine hK.out _ _ s3 (fun _ => ?_)
              clear hK K
              try simp only [Act.put, List.getElem_toArray, List.getElem_cons_succ, List.getElem_cons_zero, List.setIfInBounds_toArray, List.set_cons_zero, List.set_cons_succ, Nat.zero_add, List.nil_append]
              refine wpAnyH_ready (rs := [6, 10]) (by kernel_rfl) (by simp) ?_
              refine AllReadyH.cons rfl (fun K hK => ?_) (AllReadyH.cons rfl (fun K hK => ?_) AllReadyH.nil)
              · obtain ⟨_, _, hxe4, own4⟩ := Own.of_owns rfl O3.out HFM.out
                cases hxe4
                have DC4 := Lib.hid (decode_any ao3 (n + mn) _ (f ++ ml) (by rw [List.length_append, HN.out, hml]) (by omega) own4.le v3 (HX.out _ s3).2.2.2.1 (HX.out _ s3).2.2.2.2 own4.rd)
                clear own4
                go_simp
                refine DC4.out.mono ?_
                rintro e v4 h4
                obtain ⟨⟨ds4, dv4, rfl, dz4, do4, dd4⟩, b4⟩ := dec_end h4
                have s4 : Below w5.heap.size w5 v4 := below_next s3 b4
                have DZ2 := Lib.hid dz4; have D12 := Lib.hid do4; have DD2 := Lib.hid (dec_more HSP.out.2.1 dd4)
                clear h4 dz4 do4 dd4
                refine hK.out _ _ s4 (fun _ => ?_)
                clear hK K
                try simp only [Act.put, List.getElem_toArray, List.getElem_cons_succ, List.getElem_cons_zero, List.setIfInBounds_toArray, List.set_cons_zero, List.set_cons_succ, Nat.zero_add, List.nil_append]
                refine wpAnyH_take (i := 7) (v := .tuple #[.agg ds4, dv4]) rfl (by kernel_rfl) (by kernel_rfl) (by kernel_rfl) (fun _ _ _ h => h) (Or.inl ⟨by rfl, fun w' hw' => by go_simp⟩) s4 ?_
                try simp only [Act.put, List.getElem_toArray, List.getElem_cons_succ, List.getElem_cons_zero, List.setIfInBounds_toArray, List.set_cons_zero, List.set_cons_succ, Nat.zero_add, List.nil_append]
                refine wpAnyH_take (i := 8) (v := .agg ds4) rfl (by kernel_rfl) (by kernel_rfl) (by kernel_rfl) (fun _ _ _ h => h) (Or.inl ⟨by rfl, fun w' hw' => by go_simp⟩) s4 ?_
                try simp only [Act.put, List.getElem_toArray, List.getElem_cons_succ, List.getElem_cons_zero, List.setIfInBounds_toArray, List.set_cons_zero, List.set_cons_succ, Nat.zero_add, List.nil_append]
                refine wpAnyH_take (i := 9) (v := dv4) rfl (by kernel_rfl) (by kernel_rfl) (by kernel_rfl) (fun _ _ _ h => h) (Or.inl ⟨by rfl, fun w' hw' => by go_simp⟩) s4 ?_
                try simp only [Act.put, List.getElem_toArray, List.getElem_cons_succ, List.getElem_cons_zero, List.setIfInBounds_toArray, List.set_cons_zero, List.set_cons_succ, Nat.zero_add, List.nil_append]
                refine wpAnyH_ready (rs := [10]) (by kernel_rfl) (by simp) ?_
                refine AllReadyH.cons rfl (fun K hK => ?_) AllReadyH.nil
                rw [if_pos (by rfl)]
                refine wp_alloc_msg rfl (fun v5 hv5 => ?_)
                have b5 : Below v4.heap.size v4 v5 := by rw [hv5]; exact below_alloc (Below.refl _ _) _
                have s5 : Below w5.heap.size w5 v5 := below_next s4 b5
                have R5 := Lib.hid (show v5.heap[v4.heap.size]? = some (.cells (noughtCs 0 0 0) 52 (0, 0)) ∧ w5.heap.size ≤ v4.heap.size from ⟨by rw [hv5]; exact heap_alloc_new _ _, s4.size⟩)
                obtain ⟨sn5, hsn5⟩ : ∃ q, v4.heap.size = q := ⟨_, rfl⟩
                rw [hsn5] at R5 ⊢
                clear hsn5 hv5
                refine hK.out _ _ s5 (fun _ => ?_)
                clear hK K
                try simp only [Act.put, List.getElem_toArray, List.getElem_cons_succ, List.getElem_cons_zero, List.setIfInBounds_toArray, List.set_cons_zero, List.set_cons_succ, Nat.zero_add, List.nil_append]
                refine wpAnyH_ready (rs := [11]) (by kernel_rfl) (by simp) ?_
                refine AllReadyH.cons rfl (fun K hK => ?_) AllReadyH.nil
                rw [if_pos (by rfl)]
                refine wp_store_row 52 (.tmp 9) (.tmp 58) rfl sn5 ds4 rfl rfl 52 (noughtCs 0 0 0) R5.out.1 (by rw [DZ2.out]; exact msg_size) (by rw [DZ2.out]; rfl) D12.out ?_
                have s6 : Below w5.heap.size w5 (v5.setRow sn5 ds4) := s5.trans ((Keep.setRow v5 sn5 ds4).below s5.size (by have := R5.out.2; simpa using this))
                refine hK.out _ _ s6 (fun _ => ?_)
                clear hK K
                try simp only [Act.put, List.getElem_toArray, List.getElem_cons_succ, List.getElem_cons_zero, List.setIfInBounds_toArray, List.set_cons_zero, List.set_cons_succ, Nat.zero_add, List.nil_append]
                refine wpAnyH_take (i := 12) (v := dv4) rfl (by kernel_rfl) (by kernel_rfl) (by kernel_rfl) (fun _ _ _ h => h) (Or.inl ⟨by rfl, fun w' hw' => by go_simp⟩) s6 ?_
                try simp only [Act.put, List.getElem_toArray, List.getElem_cons_succ, List.getElem_cons_zero, List.setIfInBounds_toArray, List.set_cons_zero, List.set_cons_succ, Nat.zero_add, List.nil_append]
                refine wpAnyH_done (by kernel_rfl) ?_ _
                clear HX
                go_wp2_with fail
                go_meet
                exact ⟨s6, DD2.out⟩
              · rw [if_pos (by rfl)]
                refine wp_alloc_msg rfl (fun v7 hv7 => ?_)
                have b7 : Below v3.heap.size v3 v7 := by rw [hv7]; exact below_alloc (Below.refl _ _) _
                have s7 : Below w5.heap.size w5 v7 := below_next s3 b7
                have O7 := Lib.hid (owns_keepS O3.out (Keep.of_below b7 []) (by simp))
                have hlt7 := fun g (hg : g ∈ blk ao3) => owns_lt O3.out g hg
                have R7 := Lib.hid (show v7.heap[v3.heap.size]? = some (.cells (noughtCs 0 0 0) 52 (0, 0)) ∧ w5.heap.size ≤ v3.heap.size ∧ v3.heap.size ∉ blk ao3 from ⟨by rw [hv7]; exact heap_alloc_new _ _, s3.size, fun hm => by have := (hlt7 _ hm).2; omega⟩)
                obtain ⟨sn7, hsn7⟩ : ∃ q, v3.heap.size = q := ⟨_, rfl⟩
                rw [hsn7] at R7 ⊢
                clear hsn7 hv7 hlt7
                refine hK.out _ _ s7 (fun _ => ?_)
                clear hK K
                try simp only [Act.put, List.getElem_toArray, List.getElem_cons_succ, List.getElem_cons_zero, List.setIfInBounds_toArray, List.set_cons_zero, List.set_cons_succ, Nat.zero_add, List.nil_append]
                refine wpAnyH_ready (rs := [6]) (by kernel_rfl) (by simp) ?_
                refine AllReadyH.cons rfl (fun K hK => ?_) AllReadyH.nil
                obtain ⟨_, _, hxe8, own8⟩ := Own.of_owns rfl O7.out HFM.out
                cases hxe8
                have DC8 := Lib.hid (decode_any ao3 (n + mn) _ (f ++ ml) (by rw [List.length_append, HN.out, hml]) (by omega) own8.le v7 (HX.out _ s7).2.2.2.1 (HX.out _ s7).2.2.2.2 own8.rd)
                clear own8
                go_simp
                refine DC8.out.mono ?_
                rintro e v8 h8
                obtain ⟨⟨ds8, dv8, rfl, dz8, do8, dd8⟩, b8⟩ := dec_end h8
                have s8 : Below w5.heap.size w5 v8 := below_next s7 b8
                have DZ2 := Lib.hid dz8; have D12 := Lib.hid do8; have DD2 := Lib.hid (dec_more HSP.out.2.1 dd8)
                have R8 := Lib.hid (show v8.heap[sn7]? = some (.cells (noughtCs 0 0 0) 52 (0, 0)) ∧ w5.heap.size ≤ sn7 from ⟨(b8.block _ (Array.getElem?_eq_some_iff.1 R7.out.1).1).trans R7.out.1, R7.out.2.1⟩)
                clear h8 dz8 do8 dd8
                refine hK.out _ _ s8 (fun _ => ?_)
                clear hK K
                try simp only [Act.put, List.getElem_toArray, List.getElem_cons_succ, List.getElem_cons_zero, List.setIfInBounds_toArray, List.set_cons_zero, List.set_cons_succ, Nat.zero_add, List.nil_append]
                refine wpAnyH_take (i := 7) (v := .tuple #[.agg ds8, dv8]) rfl (by kernel_rfl) (by kernel_rfl) (by kernel_rfl) (fun _ _ _ h => h) (Or.inl ⟨by rfl, fun w' hw' => by go_simp⟩) s8 ?_
                try simp only [Act.put, List.getElem_toArray, List.getElem_cons_succ, List.getElem_cons_zero, List.setIfInBounds_toArray, List.set_cons_zero, List.set_cons_succ, Nat.zero_add, List.nil_append]
                refine wpAnyH_take (i := 8) (v := .agg ds8) rfl (by kernel_rfl) (by kernel_rfl) (by kernel_rfl) (fun _ _ _ h => h) (Or.inl ⟨by rfl, fun w' hw' => by go_simp⟩) s8 ?_
                try simp only [Act.put, List.getElem_toArray, List.getElem_cons_succ, List.getElem_cons_zero, List.setIfInBounds_toArray, List.set_cons_zero, List.set_cons_succ, Nat.zero_add, List.nil_append]
                refine wpAnyH_take (i := 9) (v := dv8) rfl (by kernel_rfl) (by kernel_rfl) (by kernel_rfl) (fun _ _ _ h => h) (Or.inl ⟨by rfl, fun w' hw' => by go_simp⟩) s8 ?_
                try simp only [Act.put, List.getElem_toArray, List.getElem_cons_succ, List.getElem_cons_zero, List.setIfInBounds_toArray, List.set_cons_zero, List.set_cons_succ, Nat.zero_add, List.nil_append]
                refine wpAnyH_ready (rs := [11]) (by kernel_rfl) (by simp) ?_
                refine AllReadyH.cons rfl (fun K hK => ?_) AllReadyH.nil
                rw [if_pos (by rfl)]
                refine wp_store_row 52 (.tmp 9) (.tmp 58) rfl sn7 ds8 rfl rfl 52 (noughtCs 0 0 0) R8.out.1 (by rw [DZ2.out]; exact msg_size) (by rw [DZ2.out]; rfl) D12.out ?_
                have s9 : Below w5.heap.size w5 (v8.setRow sn7 ds8) := s8.trans ((Keep.setRow v8 sn7 ds8).below s8.size (by have := R8.out.2; simpa using this))
                refine hK.out _ _ s9 (fun _ => ?_)
                clear hK K
                try simp only [Act.put, List.getElem_toArray, List.getElem_cons_succ, List.getElem_cons_zero, List.setIfInBounds_toArray, List.set_cons_zero, List.set_cons_succ, Nat.zero_add, List.nil_append]
                refine wpAnyH_take (i := 12) (v := dv8) rfl (by kernel_rfl) (by kernel_rfl) (by kernel_rfl) (fun _ _ _ h => h) (Or.inl ⟨by rfl, fun w' hw' => by go_simp⟩) s9 ?_
                try simp only [Act.put, List.getElem_toArray, List.getElem_cons_succ, List.getElem_cons_zero, List.setIfInBounds_toArray, List.set_cons_zero, List.set_cons_succ, Nat.zero_add, List.nil_append]
                refine wpAnyH_done (by kernel_rfl) ?_ _
                clear HX
                go_wp2_with fail
                go_meet
                exact ⟨s9, DD2.out⟩
            · rw [if_pos (by rfl)]
              refine wp_alloc_msg rfl (fun v10 hv10 => ?_)
              have b10 : Below v2.heap.size v2 v10 := by rw [hv10]; exact below_alloc (Below.refl _ _) _
              have s10 : Below w5.heap.size w5 v10 := below_next s2 b10
              have O10 := Lib.hid (owns_keepS O2.out (Keep.of_below b10 []) (by simp))
              have hlt10 := fun g (hg : g ∈ blk ao2) => owns_lt O2.out g hg
              have R10 := Lib.hid (show v10.heap[v2.heap.size]? = some (.cells (noughtCs 0 0 0) 52 (0, 0)) ∧ w5.heap.size ≤ v2.heap.size ∧ v2.heap.size ∉ blk ao2 from ⟨by rw [hv10]; exact heap_alloc_new _ _, s2.size, fun hm => by have := (hlt10 _ hm).2; omega⟩)
              obtain ⟨sn10, hsn10⟩ : ∃ q, v2.heap.size = q := ⟨_, rfl⟩
              rw [hsn10] at R10 ⊢
              clear hsn10 hv10 hlt10
              refine hK.out _ _ s10 (fun _ => ?_)
              clear hK K
              try simp only [Act.put, List.getElem_toArray, List.getElem_cons_succ, List.getElem_cons_zero, List.setIfInBounds_toArray, List.set_cons_zero, List.set_cons_succ, Nat.zero_add, List.nil_append]
              refine wpAnyH_ready (rs := [5]) (by kernel_rfl) (by simp) ?_
              refine AllReadyH.cons rfl (fun K hK => ?_) AllReadyH.nil
              rw [if_pos (by rfl)]
              refine wp_app_wide (.tmp 53) (.tmp 55) rfl rfl O10.out HFB.out rfl (HX.out _ s10).2.2.1 hml s10.size (by omega) (fun ao11 cap11 v11 r11 _ k11 => ?_)
              have s11 : Below w5.heap.size w5 v11 := s10.trans (k11.below s10.size (fun g hg => (owns_lt O10.out g hg).1))
              have O11 := Lib.hid (show v11.ownsRow w5.heap.size 5 1 (.slice ao11 (n + mn) cap11) (n + mn) (YtngcbpgafjnfaaaGreatDoor.cs (f ++ ml)) from r11)
              have hq11 := (Array.getElem?_eq_some_iff.1 R10.out.1).1
              have R11 := Lib.hid (show v11.heap[sn10]? = some (.cells (noughtCs 0 0 0) 52 (0, 0)) ∧ w5.heap.size ≤ sn10 ∧ sn10 ∉ blk ao11 from ⟨(k11.block _ hq11 R10.out.2.2).trans R10.out.1, R10.out.2.1, fun hm => owns_type O11.out hm ((k11.block _ hq11 R10.out.2.2).trans R10.out.1)⟩)
              clear r11
              refine hK.out _ _ s11 (fun _ => ?_)
              clear hK K
              try simp only [Act.put, List.getElem_toArray, List.getElem_cons_succ, List.getElem_cons_zero, List.setIfInBounds_toArray, List.set_cons_zero, List.set_cons_succ, Nat.zero_add, List.nil_append]
              refine wpAnyH_ready (rs := [6]) (by kernel_rfl) (by simp) ?_
              refine AllReadyH.cons rfl (fun K hK => ?_) AllReadyH.nil
              obtain ⟨_, _, hxe12, own12⟩ := Own.of_owns rfl O11.out HFM.out
              cases hxe12
              have DC12 := Lib.hid (decode_any ao11 (n + mn) _ (f ++ ml) (by rw [List.length_append, HN.out, hml]) (by omega) own12.le v11 (HX.out _ s11).2.2.2.1 (HX.out _ s11).2.2.2.2 own12.rd)
              clear own12
              go_simp
              refine DC12.out.mono ?_
              rintro e v12 h12
              obtain ⟨⟨ds12, dv12, rfl, dz12, do12, dd12⟩, b12⟩ := dec_end h12
              have s12 : Below w5.heap.size w5 v12 := below_next s11 b12
              have DZ2 := Lib.hid dz12; have D12 := Lib.hid do12; have DD2 := Lib.hid (dec_more HSP.out.2.1 dd12)
              have R12 := Lib.hid (show v12.heap[sn10]? = some (.cells (noughtCs 0 0 0) 52 (0, 0)) ∧ w5.heap.size ≤ sn10 from ⟨(b12.block _ (Array.getElem?_eq_some_iff.1 R11.out.1).1).trans R11.out.1, R11.out.2.1⟩)
              clear h12 dz12 do12 dd12
              refine hK.out _ _ s12 (fun _ => ?_)
              clear hK K
              try simp only [Act.put, List.getElem_toArray, List.getElem_cons_succ, List.getElem_cons_zero, List.setIfInBounds_toArray, List.set_cons_zero, List.set_cons_succ, Nat.zero_add, List.nil_append]
              refine wpAnyH_take (i := 7) (v := .tuple #[.agg ds12, dv12]) rfl (by kernel_rfl) (by kernel_rfl) (by kernel_rfl) (fun _ _ _ h => h) (Or.inl ⟨by rfl, fun w' hw' => by go_simp⟩) s12 ?_
              try simp only [Act.put, List.getElem_toArray, List.getElem_cons_succ, List.getElem_cons_zero, List.setIfInBounds_toArray, List.set_cons_zero, List.set_cons_succ, Nat.zero_add, List.nil_append]
              refine wpAnyH_take (i := 8) (v := .agg ds12) rfl (by kernel_rfl) (by kernel_rfl) (by kernel_rfl) (fun _ _ _ h => h) (Or.inl ⟨by rfl, fun w' hw' => by go_simp⟩) s12 ?_
              try simp only [Act.put, List.getElem_toArray, List.getElem_cons_succ, List.getElem_cons_zero, List.setIfInBounds_toArray, List.set_cons_zero, List.set_cons_succ, Nat.zero_add, List.nil_append]
              refine wpAnyH_take (i := 9) (v := dv12) rfl (by kernel_rfl) (by kernel_rfl) (by kernel_rfl) (fun _ _ _ h => h) (Or.inl ⟨by rfl, fun w' hw' => by go_simp⟩) s12 ?_
              try simp only [Act.put, List.getElem_toArray, List.getElem_cons_succ, List.getElem_cons_zero, List.setIfInBounds_toArray, List.set_cons_zero, List.set_cons_succ, Nat.zero_add, List.nil_append]
              refine wpAnyH_ready (rs := [11]) (by kernel_rfl) (by simp) ?_
              refine AllReadyH.cons rfl (fun K hK => ?_) AllReadyH.nil
              rw [if_pos (by rfl)]
              refine wp_store_row 52 (.tmp 9) (.tmp 58) rfl sn10 ds12 rfl rfl 52 (noughtCs 0 0 0) R12.out.1 (by rw [DZ2.out]; exact msg_size) (by rw [DZ2.out]; rfl) D12.out ?_
              have s13 : Below w5.heap.size w5 (v12.setRow sn10 ds12) := s12.trans ((Keep.setRow v12 sn10 ds12).below s12.size (by have := R12.out.2; simpa using this))
              refine hK.out _ _ s13 (fun _ => ?_)
              clear hK K
              try simp only [Act.put, List.getElem_toArray, List.getElem_cons_succ, List.getElem_cons_zero, List.setIfInBounds_toArray, List.set_cons_zero, List.set_cons_succ, Nat.zero_add, List.nil_append]
              refine wpAnyH_take (i := 12) (v := dv12) rfl (by kernel_rfl) (by kernel_rfl) (by kernel_rfl) (fun _ _ _ h => h) (Or.inl ⟨by rfl, fun w' hw' => by go_simp⟩) s13 ?_
              try simp only [Act.put, List.getElem_toArray, List.getElem_cons_succ, List.getElem_cons_zero, List.setIfInBounds_toArray, List.set_cons_zero, List.set_cons_succ, Nat.zero_add, List.nil_append]
              refine wpAnyH_done (by kernel_rfl) ?_ _
              clear HX
              go_wp2_with fail
              go_meet
              exact ⟨s13, DD2.out⟩
          · rw [if_pos (by rfl)]
            refine wp_alloc_msg rfl (fun v14 hv14 => ?_)
            have b14 : Below v1.heap.size v1 v14 := by rw [hv14]; exact below_alloc (Below.refl _ _) _
            have s14 : Below w5.heap.size w5 v14 := below_next s1 b14
            have O14 := Lib.hid (owns_keepS O1.out (Keep.of_below b14 []) (by simp))
            have hlt14 := fun g (hg : g ∈ blk (some ⟨w5.drew.heap.size, 0, none⟩)) => owns_lt O1.out g hg
            have R14 := Lib.hid (show v14.heap[v1.heap.size]? = some (.cells (noughtCs 0 0 0) 52 (0, 0)) ∧ w5.heap.size ≤ v1.heap.size ∧ v1.heap.size ∉ blk (some ⟨w5.drew.heap.size, 0, none⟩) from ⟨by rw [hv14]; exact heap_alloc_new _ _, s1.size, fun hm => by have := (hlt14 _ hm).2; omega⟩)
            obtain ⟨sn14, hsn14⟩ : ∃ q, v1.heap.size = q := ⟨_, rfl⟩
            rw [hsn14] at R14 ⊢
            clear hsn14 hv14 hlt14
            refine hK.out _ _ s14 (fun _ => ?_)
            clear hK K
            try simp only [Act.put, List.getElem_toArray, List.getElem_cons_succ, List.getElem_cons_zero, List.setIfInBounds_toArray, List.set_cons_zero, List.set_cons_succ, Nat.zero_add, List.nil_append]
            refine wpAnyH_ready (rs := [2]) (by kernel_rfl) (by simp) ?_
            refine AllReadyH.cons rfl (fun K hK => ?_) AllReadyH.nil
            rw [if_pos (by rfl)]
            refine wp_app_wide (.tmp 51) (.tmp 52) rfl rfl O14.out (by simp) rfl (HX.out _ s14).2.1 HN.out s14.size (by omega) (fun ao15 cap15 v15 r15 _ k15 => ?_)
            have s15 : Below w5.heap.size w5 v15 := s14.trans (k15.below s14.size (fun g hg => (owns_lt O14.out g hg).1))
            rw [Nat.zero_add] at r15
            have O15 := Lib.hid (show v15.ownsRow w5.heap.size 5 1 (.slice ao15 n cap15) n (YtngcbpgafjnfaaaGreatDoor.cs f) from r15)
            have hq15 := (Array.getElem?_eq_some_iff.1 R14.out.1).1
            have R15 := Lib.hid (show v15.heap[sn14]? = some (.cells (noughtCs 0 0 0) 52 (0, 0)) ∧ w5.heap.size ≤ sn14 ∧ sn14 ∉ blk ao15 from ⟨(k15.block _ hq15 R14.out.2.2).trans R14.out.1, R14.out.2.1, fun hm => owns_type O15.out hm ((k15.block _ hq15 R14.out.2.2).trans R14.out.1)⟩)
            clear r15
            refine hK.out _ _ s15 (fun _ => ?_)
            clear hK K
            try simp only [Act.put, List.getElem_toArray, List.getElem_cons_succ, List.getElem_cons_zero, List.setIfInBounds_toArray, List.set_cons_zero, List.set_cons_succ, Nat.zero_add, List.nil_append]
            refine wpAnyH_ready (rs := [5]) (by kernel_rfl) (by simp) ?_
            refine AllReadyH.cons rfl (fun K hK => ?_) AllReadyH.nil
            rw [if_pos (by rfl)]
            refine wp_app_wide (.tmp 53) (.tmp 55) rfl rfl O15.out HFB.out rfl (HX.out _ s15).2.2.1 hml s15.size (by omega) (fun ao16 cap16 v16 r16 _ k16 => ?_)
            have s16 : Below w5.heap.size w5 v16 := s15.trans (k16.below s15.size (fun g hg => (owns_lt O15.out g hg).1))
            have O16 := Lib.hid (show v16.ownsRow w5.heap.size 5 1 (.slice ao16 (n + mn) cap16) (n + mn) (YtngcbpgafjnfaaaGreatDoor.cs (f ++ ml)) from r16)
            have hq16 := (Array.getElem?_eq_some_iff.1 R15.out.1).1
            have R16 := Lib.hid (show v16.heap[sn14]? = some (.cells (noughtCs 0 0 0) 52 (0, 0)) ∧ w5.heap.size ≤ sn14 ∧ sn14 ∉ blk ao16 from ⟨(k16.block _ hq16 R15.out.2.2).trans R15.out.1, R15.out.2.1, fun hm => owns_type O16.out hm ((k16.block _ hq16 R15.out.2.2).trans R15.out.1)⟩)
            clear r16
            refine hK.out _ _ s16 (fun _ => ?_)
            clear hK K
            try simp only [Act.put, List.getElem_toArray, List.getElem_cons_succ, List.getElem_cons_zero, List.setIfInBounds_toArray, List.set_cons_zero, List.set_cons_succ, Nat.zero_add, List.nil_append]
            refine wpAnyH_ready (rs := [6]) (by kernel_rfl) (by simp) ?_
            refine AllReadyH.cons rfl (fun K hK => ?_) AllReadyH.nil
            obtain ⟨_, _, hxe17, own17⟩ := Own.of_owns rfl O16.out HFM.out
            cases hxe17
            have DC17 := Lib.hid (decode_any ao16 (n + mn) _ (f ++ ml) (by rw [List.length_append, HN.out, hml]) (by omega) own17.le v16 (HX.out _ s16).2.2.2.1 (HX.out _ s16).2.2.2.2 own17.rd)
            clear own17
            go_simp
            refine DC17.out.mono ?_
            rintro e v17 h17
            obtain ⟨⟨ds17, dv17, rfl, dz17, do17, dd17⟩, b17⟩ := dec_end h17
            have s17 : Below w5.heap.size w5 v17 := below_next s16 b17
            have DZ2 := Lib.hid dz17; have D12 := Lib.hid do17; have DD2 := Lib.hid (dec_more HSP.out.2.1 dd17)
            have R17 := Lib.hid (show v17.heap[sn14]? = some (.cells (noughtCs 0 0 0) 52 (0, 0)) ∧ w5.heap.size ≤ sn14 from ⟨(b17.block _ (Array.getElem?_eq_some_iff.1 R16.out.1).1).trans R16.out.1, R16.out.2.1⟩)
            clear h17 dz17 do17 dd17
            refine hK.out _ _ s17 (fun _ => ?_)
            clear hK K
            try simp only [Act.put, List.getElem_toArray, List.getElem_cons_succ, List.getElem_cons_zero, List.setIfInBounds_toArray, List.set_cons_zero, List.set_cons_succ, Nat.zero_add, List.nil_append]
            refine wpAnyH_take (i := 7) (v := .tuple #[.agg ds17, dv17]) rfl (by kernel_rfl) (by kernel_rfl) (by kernel_rfl) (fun _ _ _ h => h) (Or.inl ⟨by rfl, fun w' hw' => by go_simp⟩) s17 ?_
            try simp only [Act.put, List.getElem_toArray, List.getElem_cons_succ, List.getElem_cons_zero, List.setIfInBounds_toArray, List.set_cons_zero, List.set_cons_succ, Nat.zero_add, List.nil_append]
            refine wpAnyH_take (i := 8) (v := .agg ds17) rfl (by kernel_rfl) (by kernel_rfl) (by kernel_rfl) (fun _ _ _ h => h) (Or.inl ⟨by rfl, fun w' hw' => by go_simp⟩) s17 ?_
            try simp only [Act.put, List.getElem_toArray, List.getElem_cons_succ, List.getElem_cons_zero, List.setIfInBounds_toArray, List.set_cons_zero, List.set_cons_succ, Nat.zero_add, List.nil_append]
            refine wpAnyH_take (i := 9) (v := dv17) rfl (by kernel_rfl) (by kernel_rfl) (by kernel_rfl) (fun _ _ _ h => h) (Or.inl ⟨by rfl, fun w' hw' => by go_simp⟩) s17 ?_
            try simp only [Act.put, List.getElem_toArray, List.getElem_cons_succ, List.getElem_cons_zero, List.setIfInBounds_toArray, List.set_cons_zero, List.set_cons_succ, Nat.zero_add, List.nil_append]
            refine wpAnyH_ready (rs := [11]) (by kernel_rfl) (by simp) ?_
            refine AllReadyH.cons rfl (fun K hK => ?_) AllReadyH.nil
            rw [if_pos (by rfl)]
            refine wp_store_row 52 (.tmp 9) (.tmp 58) rfl sn14 ds17 rfl rfl 52 (noughtCs 0 0 0) R17.out.1 (by rw [DZ2.out]; exact msg_size) (by rw [DZ2.out]; rfl) D12.out ?_
            have s18 : Below w5.heap.size w5 (v17.setRow sn14 ds17) := s17.trans ((Keep.setRow v17 sn14 ds17).below s17.size (by have := R17.out.2; simpa using this))
            refine hK.out _ _ s18 (fun _ => ?_)
            clear hK K
            try simp only [Act.put, List.getElem_toArray, List.getElem_cons_succ, List.getElem_cons_zero, List.setIfInBounds_toArray, List.set_cons_zero, List.set_cons_succ, Nat.zero_add, List.nil_append]
            refine wpAnyH_take (i := 12) (v := dv17) rfl (by kernel_rfl) (by kernel_rfl) (by kernel_rfl) (fun _ _ _ h => h) (Or.inl ⟨by rfl, fun w' hw' => by go_simp⟩) s18 ?_
            try simp only [Act.put, List.getElem_toArray, List.getElem_cons_succ, List.getElem_cons_zero, List.setIfInBounds_toArray, List.set_cons_zero, List.set_cons_succ, Nat.zero_add, List.nil_append]
            refine wpAnyH_done (by kernel_rfl) ?_ _
            clear HX
            go_wp2_with fail
            go_meet
            exact ⟨s18, DD2.out⟩
        · rw [if_pos (by rfl)]
          refine wp_alloc_msg rfl (fun v19 hv19 => ?_)
          have b19 : Below w5.drew.heap.size w5.drew v19 := by rw [hv19]; exact below_alloc (Below.refl _ _) _
          have s19 : Below w5.heap.size w5 v19 := below_next s0 b19
          have R19 := Lib.hid (show v19.heap[w5.drew.heap.size]? = some (.cells (noughtCs 0 0 0) 52 (0, 0)) ∧ w5.heap.size ≤ w5.drew.heap.size from ⟨by rw [hv19]; exact heap_alloc_new _ _, s0.size⟩)
          obtain ⟨sn19, hsn19⟩ : ∃ q, w5.drew.heap.size = q := ⟨_, rfl⟩
          rw [hsn19] at R19 ⊢
          clear hsn19 hv19
          refine hK.out _ _ s19 (fun _ => ?_)
          clear hK K
          try simp only [Act.put, List.getElem_toArray, List.getElem_cons_succ, List.getElem_cons_zero, List.setIfInBounds_toArray, List.set_cons_zero, List.set_cons_succ, Nat.zero_add, List.nil_append]
          refine wpAnyH_ready (rs := [0]) (by kernel_rfl) (by simp) ?_
          refine AllReadyH.cons rfl (fun K hK => ?_) AllReadyH.nil
          rw [if_pos (by rfl)]
          refine wp_build0 rfl (fun v20 hv20 => ?_)
          have b20 : Below v19.heap.size v19 v20 := by rw [hv20]; exact below_alloc (Below.refl _ _) _
          have s20 : Below w5.heap.size w5 v20 := below_next s19 b20
          have O20 := Lib.hid (show v20.ownsRow w5.heap.size 5 1 (.slice (some ⟨v19.heap.size, 0, none⟩) 0 0) 0 (YtngcbpgafjnfaaaGreatDoor.cs []) by rw [hv20]; exact owns_empty v19 _ s19.size)
          have hq20 := (Array.getElem?_eq_some_iff.1 R19.out.1).1
          have R20 := Lib.hid (show v20.heap[sn19]? = some (.cells (noughtCs 0 0 0) 52 (0, 0)) ∧ w5.heap.size ≤ sn19 ∧ sn19 ∉ blk (some ⟨v19.heap.size, 0, none⟩) from ⟨(b20.block _ hq20).trans R19.out.1, R19.out.2, by simp [blk]; omega⟩)
          clear hv20
          refine hK.out _ _ s20 (fun _ => ?_)
          clear hK K
          try simp only [Act.put, List.getElem_toArray, List.getElem_cons_succ, List.getElem_cons_zero, List.setIfInBounds_toArray, List.set_cons_zero, List.set_cons_succ, Nat.zero_add, List.nil_append]
          refine wpAnyH_ready (rs := [2]) (by kernel_rfl) (by simp) ?_
          refine AllReadyH.cons rfl (fun K hK => ?_) AllReadyH.nil
          rw [if_pos (by rfl)]
          refine wp_app_wide (.tmp 51) (.tmp 52) rfl rfl O20.out (by simp) rfl (HX.out _ s20).2.1 HN.out s20.size (by omega) (fun ao21 cap21 v21 r21 _ k21 => ?_)
          have s21 : Below w5.heap.size w5 v21 := s20.trans (k21.below s20.size (fun g hg => (owns_lt O20.out g hg).1))
          rw [Nat.zero_add] at r21
          have O21 := Lib.hid (show v21.ownsRow w5.heap.size 5 1 (.slice ao21 n cap21) n (YtngcbpgafjnfaaaGreatDoor.cs f) from r21)
          have hq21 := (Array.getElem?_eq_some_iff.1 R20.out.1).1
          have R21 := Lib.hid (show v21.heap[sn19]? = some (.cells (noughtCs 0 0 0) 52 (0, 0)) ∧ w5.heap.size ≤ sn19 ∧ sn19 ∉ blk ao21 from ⟨(k21.block _ hq21 R20.out.2.2).trans R20.out.1, R20.out.2.1, fun hm => owns_type O21.out hm ((k21.block _ hq21 R20.out.2.2).trans R20.out.1)⟩)
          clear r21
          refine hK.out _ _ s21 (fun _ => ?_)
          clear hK K
          try simp only [Act.put, List.getElem_toArray, List.getElem_cons_succ, List.getElem_cons_zero, List.setIfInBounds_toArray, List.set_cons_zero, List.set_cons_succ, Nat.zero_add, List.nil_append]
          refine wpAnyH_ready (rs := [5]) (by kernel_rfl) (by simp) ?_
          refine AllReadyH.cons rfl (fun K hK => ?_) AllReadyH.nil
          rw [if_pos (by rfl)]
          refine wp_app_wide (.tmp 53) (.tmp 55) rfl rfl O21.out HFB.out rfl (HX.out _ s21).2.2.1 hml s21.size (by omega) (fun ao22 cap22 v22 r22 _ k22 => ?_)
          have s22 : Below w5.heap.size w5 v22 := s21.trans (k22.below s21.size (fun g hg => (owns_lt O21.out g hg).1))
          have O22 := Lib.hid (show v22.ownsRow w5.heap.size 5 1 (.slice ao22 (n + mn) cap22) (n + mn) (YtngcbpgafjnfaaaGreatDoor.cs (f ++ ml)) from r22)
          have hq22 := (Array.getElem?_eq_some_iff.1 R21.out.1).1
          have R22 := Lib.hid (show v22.heap[sn19]? = some (.cells (noughtCs 0 0 0) 52 (0, 0)) ∧ w5.heap.size ≤ sn19 ∧ sn19 ∉ blk ao22 from ⟨(k22.block _ hq22 R21.out.2.2).trans R21.out.1, R21.out.2.1, fun hm => owns_type O22.out hm ((k22.block _ hq22 R21.out.2.2).trans R21.out.1)⟩)
          clear r22
          refine hK.out _ _ s22 (fun _ => ?_)
          clear hK K
          try simp only [Act.put, List.getElem_toArray, List.getElem_cons_succ, List.getElem_cons_zero, List.setIfInBounds_toArray, List.set_cons_zero, List.set_cons_succ, Nat.zero_add, List.nil_append]
          refine wpAnyH_ready (rs := [6]) (by kernel_rfl) (by simp) ?_
          refine AllReadyH.cons rfl (fun K hK => ?_) AllReadyH.nil
          obtain ⟨_, _, hxe23, own23⟩ := Own.of_owns rfl O22.out HFM.out
          cases hxe23
          have DC23 := Lib.hid (decode_any ao22 (n + mn) _ (f ++ ml) (by rw [List.length_append, HN.out, hml]) (by omega) own23.le v22 (HX.out _ s22).2.2.2.1 (HX.out _ s22).2.2.2.2 own23.rd)
          clear own23
          go_simp
          refine DC23.out.mono ?_
          rintro e v23 h23
          obtain ⟨⟨ds23, dv23, rfl, dz23, do23, dd23⟩, b23⟩ := dec_end h23
          have s23 : Below w5.heap.size w5 v23 := below_next s22 b23
          have DZ2 := Lib.hid dz23; have D12 := Lib.hid do23; have DD2 := Lib.hid (dec_more HSP.out.2.1 dd23)
          have R23 := Lib.hid (show v23.heap[sn19]? = some (.cells (noughtCs 0 0 0) 52 (0, 0)) ∧ w5.heap.size ≤ sn19 from ⟨(b23.block _ (Array.getElem?_eq_some_iff.1 R22.out.1).1).trans R22.out.1, R22.out.2.1⟩)
          clear h23 dz23 do23 dd23
          refine hK.out _ _ s23 (fun _ => ?_)
          clear hK K
          try simp only [Act.put, List.getElem_toArray, List.getElem_cons_succ, List.getElem_cons_zero, List.setIfInBounds_toArray, List.set_cons_zero, List.set_cons_succ, Nat.zero_add, List.nil_append]
          refine wpAnyH_take (i := 7) (v := .tuple #[.agg ds23, dv23]) rfl (by kernel_rfl) (by kernel_rfl) (by kernel_rfl) (fun _ _ _ h => h) (Or.inl ⟨by rfl, fun w' hw' => by go_simp⟩) s23 ?_
          try simp only [Act.put, List.getElem_toArray, List.getElem_cons_succ, List.getElem_cons_zero, List.setIfInBounds_toArray, List.set_cons_zero, List.set_cons_succ, Nat.zero_add, List.nil_append]
          refine wpAnyH_take (i := 8) (v := .agg ds23) rfl (by kernel_rfl) (by kernel_rfl) (by kernel_rfl) (fun _ _ _ h => h) (Or.inl ⟨by rfl, fun w' hw' => by go_simp⟩) s23 ?_
          try simp only [Act.put, List.getElem_toArray, List.getElem_cons_succ, List.getElem_cons_zero, List.setIfInBounds_toArray, List.set_cons_zero, List.set_cons_succ, Nat.zero_add, List.nil_append]
          refine wpAnyH_take (i := 9) (v := dv23) rfl (by kernel_rfl) (by kernel_rfl) (by kernel_rfl) (fun _ _ _ h => h) (Or.inl ⟨by rfl, fun w' hw' => by go_simp⟩) s23 ?_
          try simp only [Act.put, List.getElem_toArray, List.getElem_cons_succ, List.getElem_cons_zero, List.setIfInBounds_toArray, List.set_cons_zero, List.set_cons_succ, Nat.zero_add, List.nil_append]
          refine wpAnyH_ready (rs := [11]) (by kernel_rfl) (by simp) ?_
          refine AllReadyH.cons rfl (fun K hK => ?_) AllReadyH.nil
          rw [if_pos (by rfl)]
          refine wp_store_row 52 (.tmp 9) (.tmp 58) rfl sn19 ds23 rfl rfl 52 (noughtCs 0 0 0) R23.out.1 (by rw [DZ2.out]; exact msg_size) (by rw [DZ2.out]; rfl) D12.out ?_
          have s24 : Below w5.heap.size w5 (v23.setRow sn19 ds23) := s23.trans ((Keep.setRow v23 sn19 ds23).below s23.size (by have := R23.out.2; simpa using this))
          refine hK.out _ _ s24 (fun _ => ?_)
          clear hK K
          try simp only [Act.put, List.getElem_toArray, List.getElem_cons_succ, List.getElem_cons_zero, List.setIfInBounds_toArray, List.set_cons_zero, List.set_cons_succ, Nat.zero_add, List.nil_append]
          refine wpAnyH_take (i := 12) (v := dv23) rfl (by kernel_rfl) (by kernel_rfl) (by kernel_rfl) (fun _ _ _ h => h) (Or.inl ⟨by rfl, fun w' hw' => by go_simp⟩) s24 ?_
          try simp only [Act.put, List.getElem_toArray, List.getElem_cons_succ, List.getElem_cons_zero, List.setIfInBounds_toArray, List.set_cons_zero, List.set_cons_succ, Nat.zero_add, List.nil_append]
          refine wpAnyH_done (by kernel_rfl) ?_ _
          clear HX
          go_wp2_with fail
          go_meet
          exact ⟨s24, DD2.out⟩
  -- END 12
      case rest =>
        obtain ⟨hbc, hmo⟩ := hcut
        have hx := HX.out wc hbc
        have hrd := hx.2.1
        have HBC := Lib.hid hbc; have HMO := Lib.hid hmo; have HRD := Lib.hid hrd
        clear hbc hmo hrd hx
        have RK : Hid (∀ w', Below wc.heap.size wc w' → w'.cell? ⟨W.heap.size, 50, none⟩ = some (.int .u8 (by_ : Int)) ∧ w'.cell? ⟨W.heap.size, 51, none⟩ = some (.slice mo mn mc) ∧ ErrT w' ∧ Tab w' ∧ Below W.heap.size W w' ∧ W.heap.size < wc.heap.size) := Lib.hid (fun w' b => by
          have hb := below_next HBC.out b
          have hb3 := below_next HB35.out hb
          have hq := HX.out w' hb
          have h1 := (Array.getElem?_eq_some_iff.1 HR3.out).1
          exact ⟨by rw [cell_of_row w' _ 50 _ _ (0, 0) ((hb3.block _ h1).trans HR3.out), HA.out]; exact C50.out, hq.1, hq.2.2.2.1, hq.2.2.2.2, below_next HB5.out hb, by have := HB35.out.size; have := HBC.out.size; omega⟩)
        go_wp2_with (at_builtin; refine wpList_app rfl (.tmp 60) (.tmp 61) rfl rfl (Own.none' wc wc.heap.size (Nat.le_refl _)) rfl (HRD.out.below (below_alloc (Below.refl _ _) _)) HN.out (by simp) (by omega) ?_; intro ao7 cap7 w7 own7 kp7 nb7)
        rw [Nat.zero_add, List.nil_append] at own7
        have hb7 : Below wc.heap.size wc w7 := (below_alloc (Below.refl _ _) _).trans (kp7.below (by simp) (by simp [blk]))
        obtain ⟨g7, o7, rfl, hg7, hgl7, hc7, hf7⟩ := own7.at_ p HPN.out
        obtain ⟨hc50, hc51, hE7, hT7, hB7, hltW⟩ := RK.out w7 hb7
        have hby7 := own7.rd.byte p
        have e1 := u8_xor_nat (bt f p) by_ hby7 hby
        have hzl : bt f p ^^^ by_ < 256 := Nat.xor_lt_two_pow (n := 8) hby7 hby
        have hdec := HSP.out.2.2 p by_ (by rw [HN.out]; exact HPN.out) hby
        have HO7 := Lib.hid own7; have HB7 := Lib.hid hb7
        obtain ⟨z, hz⟩ : ∃ z, bt f p ^^^ by_ = z := ⟨_, rfl⟩
        rw [hz] at e1 hzl hdec
        have hset := own7.set p z HPN.out hzl
        have hle7 := own7.le; have hmax7 := own7.max
        have hpn := HPN.out
        have hpi : (p : Int) < (n : Int) := by omega
        have hne7 : g7 ≠ W.heap.size := by omega
        obtain ⟨v, hv⟩ : ∃ v, bt f p = v := ⟨_, rfl⟩
        rw [hv] at e1 hc7
        have HDE := Lib.hid hdec
        have hdr : Own ((w7.setCell ⟨g7, o7 + p, none⟩ (u8v z)).drew) wc.heap.size (some ⟨g7, o7, none⟩) n cap7 (f.set p z) := hset.below (Below.refl _ _).drew
        have HS7 := Lib.hid hdr
        have kk7 := Keep.setCell w7 ⟨g7, o7 + p, none⟩ (u8v z)
        have hb8 : Below wc.heap.size wc ((w7.setCell ⟨g7, o7 + p, none⟩ (u8v z)).drew) := (hb7.trans (kk7.below hb7.size (by simpa using hg7))).drew
        have HB8 := Lib.hid hb8
        clear hz hv hdec hset hdr kk7 hb8 own7 hby7 hb7 kp7 nb7 hE7 hT7 hB7 hc51
        go_region
        generalize World.drew (w7.setCell ⟨g7, o7 + p, none⟩ (u8v z)) = w8 at *
        clear hc50 hc7 hf7 e1 hpi hne7
        obtain ⟨hc50, hc51, hE8, hT8, hB8, _⟩ := RK.out w8 HB8.out
        have DC := Lib.hid (decode_any (some ⟨g7, o7, none⟩) n cap7 (f.set p z) (by rw [List.length_set]; exact HN.out) (by omega) hle7 w8 hE8 hT8 HS7.out.rd)
        clear hE8 hT8 hB8 hc50 hc51
        go_wp2_with fail
        refine DC.out.mono ?_; rintro e w9 h9
        obtain ⟨⟨es, ev, rfl, ez, ee, ed⟩, b9⟩ := dec_end h9
        have EZ := Lib.hid ez; have EE := Lib.hid ee; have B9 := Lib.hid (below_next HB8.out b9); have ED := Lib.hid ed
        clear h9 ez ee ed b9 DC
        go_wp2_with (refine wpList_var rfl rfl rfl (.tmp 12) (.tmp 76) rfl rfl rfl es rfl EZ.out EE.out ?_; intro w10 b10)
        obtain ⟨hc50, hc51, _, _, hB10, _⟩ := RK.out w10 (below_next B9.out b10)
        have HB10 := Lib.hid hB10
        clear b10 hB10
        have hms : ml = [] ↔ mn = 0 := by rw [← hml]; exact List.length_eq_zero_iff.symm
        rcases HMO.out with ⟨rfl, h1⟩ | ⟨⟨am, rfl⟩, h1⟩ <;> rcases ED.out with ⟨rfl, h2⟩ | ⟨⟨xx, h2⟩, aa, rfl⟩
        · have h3 : mn = 0 := hms.1 h1
          have h4 : by_ = 0 := HDE.out.1 h2
          subst h3 h4
          go_quiet (fail)
          go_wp2_with fail
          go_ret
          exact ⟨rfl, HB10.out.trans ⟨rfl, rfl, rfl, Nat.le_refl _, fun _ _ => rfl⟩⟩
        · have h3 : mn = 0 := hms.1 h1
          have h4 : by_ ≠ 0 := fun e => by obtain ⟨m', hm'⟩ := HDE.out.2 e; rw [h2] at hm'; cases hm'
          subst h3
          have h5 : ((by_ : Int) == 0) = false := by simp; omega
          go_quiet (fail)
          go_wp2_with fail
          go_ret
          exact ⟨rfl, HB10.out.trans ⟨rfl, rfl, rfl, Nat.le_refl _, fun _ _ => rfl⟩⟩
        · have h3 : mn ≠ 0 := fun e => h1 (hms.2 e)
          have h4 : by_ = 0 := HDE.out.1 h2
          subst h4
          have h5 : ((mn : Int) == 0) = false := by simp; omega
          go_quiet (fail)
          go_wp2_with fail
          go_ret
          exact ⟨rfl, HB10.out.trans ⟨rfl, rfl, rfl, Nat.le_refl _, fun _ _ => rfl⟩⟩
        · have h3 : mn ≠ 0 := fun e => h1 (hms.2 e)
          have h4 : by_ ≠ 0 := fun e => by obtain ⟨m', hm'⟩ := HDE.out.2 e; rw [h2] at hm'; cases hm'
          have h5 : ((mn : Int) == 0) = false := by simp; omega
          have h6 : ((by_ : Int) == 0) = false := by simp; omega
          go_quiet (fail)
          go_wp2_with fail
          go_ret
          exact ⟨rfl, HB10.out.trans ⟨rfl, rfl, rfl, Nat.le_refl _, fun _ _ => rfl⟩⟩
end Go.Proofs.YtngcbpgafjnfaaaGreatDoor


namespace Go.Proofs.YtngcbpgafjnfaaaGreatDoor
open Go.ChangeShapes Go.WideShapes Go.ChangeAt Go.RowKit
set_option linter.unusedVariables false

theorem laid_named : Tryz.prog.globalNamed "errors.errorType" = some 0 := by kernel_rfl
theorem laid_rtype : (Tryz.prog.cutTypes.find? (·.1 == "internal/reflectlite.rtype")).map (·.2) = some 262 := by kernel_rfl
theorem laid_one : ((List.range 356).filter fun t => Tryz.prog.rowNamed t [101, 114, 114, 111, 114]) = [56] := by kernel_rfl
theorem laid_size : Tryz.prog.types.size = 356 := by kernel_rfl
abbrev laidArgs : List (String × DataW Unit) := [("errors.errorType", Rows.laid_errors_errorType), ("tontine/frame.remainders", Rows.laid_tontine_frame_remainders)]
theorem laid_none : (laidArgs.filter fun x => x.2.handleName?.isNone) = [("tontine/frame.remainders", Rows.laid_tontine_frame_remainders)] := by kernel_rfl
theorem laid_some : (laidArgs.filter fun x => x.2.handleName?.isSome) = [("errors.errorType", Rows.laid_errors_errorType)] := by kernel_rfl
/-- what the card gives a walk: the variable's one cell -/
theorem errt_of_laid {W : World} (h : laidMetH Tryz.prog laidArgs W) : ErrT W := by
  have h' := (laidMetH_iff.1 h).2
  rw [laid_some] at h'
  obtain ⟨name, u, ty, e1, e2, e3, e4, e5⟩ := h' _ (List.mem_singleton.2 rfl)
  have en : name = [101, 114, 114, 111, 114] := (Option.some.inj e1).symm
  subst en
  obtain rfl := Option.some.inj (laid_rtype.symm.trans e2)
  have hm : ty ∈ (List.range 356).filter fun t => Tryz.prog.rowNamed t [101, 114, 114, 111, 114] := List.mem_filter.2 ⟨List.mem_range.2 (by rw [← laid_size]; exact e3), e4⟩
  rw [laid_one] at hm
  obtain rfl := List.mem_singleton.1 hm
  have hh : typeHandle Tryz.prog 56 = .pointer (some ⟨2, 56, none⟩) := by kernel_rfl
  rw [hh] at e5
  have h8 := World.var?_cell laid_named e5 0
  unfold ErrT
  first
    | exact h8
    | exact h8.trans (by kernel_rfl)
theorem tab_name : Tryz.prog.globalNamed "tontine/frame.remainders" = some 1 := by kernel_rfl
theorem tab_type : (Tryz.prog.globals[1]?).map (·.type) = some 274 := by kernel_rfl
def table : List Int := [0, 274646895, 549293790, 820201905, 1098587580, 1361435347, 1640403810, 1905808397, 2197175160, 2460548119, 2722870694, 2987750089, 3280807620, 3553878443, 3811616794, 4084100981]
theorem tab_at (i : Nat) (h : i < 16) : table.getD i 0 = (shifts 4 i : Nat) := by
  have : ∀ i, i < 16 → table.getD i 0 = (shifts 4 i : Nat) := by decide +kernel
  exact this i h
theorem tab_of_laid {W : World} (h0 : laidMetH Tryz.prog laidArgs W) : Tab W := by
  have h := (laidMetH_iff.1 h0).1
  rw [laid_none] at h
  have h1 : laidMet Tryz.prog (("tontine/frame.remainders", Lib.tabData .u32 table) :: []) W := h
  have h2 := Lib.tabIs_of_head tab_name tab_type Tryz.underlying274 Tryz.underlying24 (by kernel_rfl) (by kernel_rfl) h1
  have h3 : ∀ i, i < 16 → W.cell? ⟨1, i, none⟩ = some (.int .u32 (shifts 4 i : Nat)) := fun i hi => by
    rw [h2.cell tab_name i (by simpa [table] using hi), tab_at i hi]
  exact ⟨World.block_lt_of_cell? W _ (h3 0 (by omega)), h3⟩

theorem byte_cells : Tryz.prog.cellsOf 5 = 1 := by kernel_rfl
theorem byte_bytes : Tryz.prog.bytesOf 5 = 1 := by kernel_rfl

section
variable {H : Type} {enc : TypeId × Value → H} {W : World} {held : Bool}
/-- a slice of bytes by its reading, whatever is read -/
theorem bytes_of_trod {fuel : Nat} {cs0 : List Value} {d : DataW H} {p : List MemPlace} (h : DataW.trod enc Tryz.prog W 0 (fun _ => true) held fuel 54 cs0 = some (d, p)) :
    ∃ ao n cap l, cs0 = [.slice ao n cap] ∧ l.length = n ∧ n ≤ cap ∧ cap ≤ maxLen ∧ Rd W ao l ∧ (n = 0 ∨ ∃ elems spare, d = .slice elems spare ∧ elems.length = n) := by
  rcases open_ints Tryz.underlying54 Tryz.underlying5 byte_cells h with ⟨hcs, hx⟩ | ⟨a, len, cap, zs, hcs, hb, hl, hm, hz, hx, hcell, hwf⟩
  · exact ⟨none, 0, 0, [], hcs, rfl, Nat.le_refl _, Nat.zero_le _, Rd.nil _ _, .inl rfl⟩
  · simp only [if_true] at hz
    have hby : ∀ z ∈ zs, 0 ≤ z ∧ z < 256 := fun z hz => by have := bounds_u8 (hwf z hz); omega
    refine ⟨some a, len, cap, (zs.take len).map Int.toNat, hcs, by simp; omega, hl, hm, ⟨?_, ?_⟩, .inr ⟨_, _, congrArg Prod.fst hx, by simp [lits]; omega⟩⟩
    · intro c hc
      obtain ⟨z, hz1, rfl⟩ := List.mem_map.1 hc
      have := hby z (List.mem_of_mem_take hz1)
      omega
    · intro j hj
      simp at hj
      obtain ⟨b, off, rfl, hc⟩ := ints_at hcell (by omega)
      have h1 := hc j (by omega)
      refine ⟨b, off, rfl, World.block_lt_of_cell? W _ h1, ?_⟩
      rw [h1]
      have hzj : zs[j]? = some (zs.getD j 0) := by simp [List.getD, show j < zs.length by omega]
      have h2 := hby (zs.getD j 0) (List.mem_of_getElem? hzj)
      have e : bt ((zs.take len).map Int.toNat) j = (zs.getD j 0).toNat := by
        unfold bt
        rw [List.getD_eq_getElem?_getD, List.getElem?_map, List.getElem?_take, if_pos (by omega), hzj]
        rfl
      rw [e]
      unfold u8v
      rw [Int.toNat_of_nonneg h2.1]
set_option maxRecDepth 100000 in
theorem bytes_arg {base : Nat} {v : Value} {d : DataW H} {p : List MemPlace} (ok : Value.okWide Tryz.prog W .any base 54 v) (k : DataW.Trod enc Tryz.prog W 0 (fun _ => true) held 54 v d p) :
    ∃ ao n cap l, v = .slice ao n cap ∧ l.length = n ∧ n ≤ cap ∧ cap ≤ maxLen ∧ Rd W ao l ∧ (n = 0 ∨ ∃ elems spare, d = .slice elems spare ∧ elems.length = n) := by
  obtain ⟨a0, len0, cap0, rfl⟩ := okWide_slice Tryz.underlying54 ok
  obtain ⟨fuel, hf⟩ := k
  obtain ⟨ao, n, cap, l, e, h⟩ := bytes_of_trod hf
  have e' : Value.slice a0 len0 cap0 = .slice ao n cap := by simpa [Value.cells] using e
  exact ⟨ao, n, cap, l, e', h⟩
set_option maxRecDepth 100000 in
theorem bytes_size {ts : List TypeId} {ds : List (DataW H)} {d : DataW H} {n : Nat} (hsz : (DataW.weightsEach Tryz.prog ts ds).all (· ≤ reachBytes) = true) (j : Nat) (ht : ts[j]? = some 54) (hd : ds[j]? = some d)
    (h : n = 0 ∨ ∃ elems spare, d = .slice elems spare ∧ elems.length = n) : n ≤ 140737488351232 := by
  rcases h with rfl | ⟨elems, spare, rfl, rfl⟩
  · omega
  · have := sized_slice hsz ht hd Tryz.underlying54
    rw [byte_bytes] at this
    have e : reachBytes = 140737488351232 := rfl
    omega

set_option maxRecDepth 100000 in
theorem string_size {ts : List TypeId} {ds : List (DataW H)} {d : DataW H} (hsz : (DataW.weightsEach Tryz.prog ts ds).all (· ≤ reachBytes) = true) (j : Nat) (ht : ts[j]? = some 9) (hd : ds[j]? = some d)
    {b : ByteArray} {p : List MemPlace} (k : DataW.Trod enc Tryz.prog W 0 (fun _ => true) held 9 (.string b) d p) : b.size ≤ 140737488355328 := by
  obtain ⟨fuel, hf⟩ := k
  obtain ⟨s, e1, e2, e3⟩ := DataW.trod_string Tryz.underlying9 hf
  have e1' : Value.string b = .string s := by simpa [Value.cells] using e1
  cases e1'
  have hd2 : d = .lit (.string b.data.toList) := congrArg Prod.fst e2
  have h9 := sized_string hsz ht (hd2 ▸ hd)
  have e : reachBytes = 140737488351232 := rfl
  have e3 : b.data.toList.length = b.size := rfl
  omega
end
end Go.Proofs.YtngcbpgafjnfaaaGreatDoor
