/- The body of a message is written: the walk. The deferred function of Encode. Encode, from any message. -/
import Derived.Test.YtngcbpgafjnfaaaGreatDoorLot14
import Derived.Test.YtngcbpgafjnfaaaGreatDoorLot13
import Derived.Defers
import Derived.Recover
import Derived.Test.YtngcbpgafjnfaaaGreatDoorLot10

namespace Go.Proofs.YtngcbpgafjnfaaaGreatDoor
open Go.RowKit
set_option linter.unusedVariables false

set_option maxRecDepth 100000 in
set_option maxHeartbeats 8000000 in
theorem bodyof_good (m : Ms) (kd : Nat) (hkd : m.kind = kd) (h1 : 1 ≤ kd) (h2 : kd ≤ 23) (g : Nat) (w : World) (N : Nat → Prop) (hM : Slots w N g 0 (slotsOf m)) (hN : ∀ b, N b → b < w.heap.size) (hg : g < w.heap.size) (h0 : w.cell? ⟨g, 0, none⟩ = some (.int .i64 (kd : Int))) :
    Calls Tryz.prog 34 #[.pointer (some ⟨g, 0, none⟩)] w (BodyEnd m w) := by
  have hd := iskind_any (kd : Int) (by omega) (by omega) w
  rw [decide_eq_true (by omega)] at hd
  have HD := Lib.hid hd
  have HU := Lib.hid (usedby_any kd h1 h2 w)
  have HM := Lib.hid hM
  have HN := Lib.hid hN
  have H1 := Lib.hid h1
  have H2 := Lib.hid h2
  have HKD := Lib.hid hkd
  clear hd hM hN h1 h2 hkd
  go_enter Tryz.func34, Tryz.ntmps34
  go_wp2_with (first | (go_at_call 66; refine HD.out.mono ?_; rintro e w' ⟨rfl, rfl⟩) | (go_at_call 67; refine HU.out.mono ?_; rintro e w1 ⟨aou, cau, rfl, hu1, hu2, hur, hub, hun, hubel⟩; have HU1 := Lib.hid hu1; have HU2 := Lib.hid hu2; have HUR := Lib.hid hur; have HUBEL := Lib.hid hubel; clear hu1 hu2 hur hub hun hubel) | (go_at_call 68; refine (fields_any _).mono ?_; rintro e w' ⟨rfl, rfl⟩))
  have HLW := Lib.hid (loopw_start m kd w1 (.cells tableCells 170))
  have HBW : Hid (Below w.heap.size w (((w1.alloc (.cells #[.slice none 0 0, .slice none 0 0, .slice none 0 0, .slice none 0 0, .slice none 0 0, .slice none 0 0, .slice none 0 0, .slice none 0 0, .slice none 0 0, .slice none 0 0, .slice none 0 0, .slice none 0 0, .slice none 0 0, .slice none 0 0, .slice none 0 0, .slice none 0 0, .slice none 0 0, .slice none 0 0, .slice none 0 0, .slice none 0 0, .slice none 0 0, .slice none 0 0] 166)).alloc (.cells #[.bool false, .slice none 0 0, .string ⟨#[]⟩] 139)).alloc (.cells tableCells 170))) := Lib.hid (below_alloc (below_alloc (below_alloc HUBEL.out _) _) _)
  have HBW1 : Hid (Below w1.heap.size w1 (((w1.alloc (.cells #[.slice none 0 0, .slice none 0 0, .slice none 0 0, .slice none 0 0, .slice none 0 0, .slice none 0 0, .slice none 0 0, .slice none 0 0, .slice none 0 0, .slice none 0 0, .slice none 0 0, .slice none 0 0, .slice none 0 0, .slice none 0 0, .slice none 0 0, .slice none 0 0, .slice none 0 0, .slice none 0 0, .slice none 0 0, .slice none 0 0, .slice none 0 0, .slice none 0 0] 166)).alloc (.cells #[.bool false, .slice none 0 0, .string ⟨#[]⟩] 139)).alloc (.cells tableCells 170))) := Lib.hid (below_alloc (below_alloc (below_alloc (Below.refl _ _) _) _) _)
  have HSZ := Lib.hid HUBEL.out.size
  have HM0 := Lib.hid (slots_safe (M := N) HM.out (slotsOf_fine m) (safe_of_below HBW.out) hg HN.out fun b hb => hb)
  have HUR0 := Lib.hid (HUR.out.below HBW1.out)
  clear HD HU
  generalize ((w1.alloc _).alloc _).alloc _ = w0 at *
  have HG : Hid (g < w1.heap.size) := Lib.hid (by have := HSZ.out; omega)
  have HNg : Hid (∀ b, N b → b < w1.heap.size) := Lib.hid (fun b hb => by have := HSZ.out; have := HN.out b hb; omega)
  have H0 : Hid (w0.cell? ⟨g, 0, none⟩ = some (.int .i64 (kd : Int))) := Lib.hid ((HBW.out.cell (p := ⟨g, 0, none⟩) hg).trans h0)
  clear h0 hg
  generalize hgP : w1.heap.size = gP at *
  have HGP := Lib.hid hgP
  clear hgP
  go_loopw [6, 7, 8, 26] (fun a b c i wr => ∃ (k : Nat) (f : ByteArray) (L : List Cut), k ≤ 22 ∧ i = .int .i64 (k : Int) ∧ LoopW m kd gP (gP + 1) w0 k f L wr ∧ ∀ i, i < k → badW kd m i = false) (fun _ _ _ i _ => 22 - (intOf i).toNat)
  case atStart => exact ⟨0, ⟨#[]⟩, [], by omega, rfl, HLW.out, fun i hi => by omega⟩
  case round =>
    obtain ⟨k, f, L, hk, rfl, hW, hgood⟩ := hrel
    have HW := Lib.hid hW
    have HGD := Lib.hid hgood
    clear hW hgood
    by_cases hlt : k < 22
    · obtain ⟨ao, n, cap, ha, hof⟩ := HW.out.cd
      have c1 := ha.c1
      have c2 := ha.c2
      have f2 := ha.f2
      have hgc := ha.lt
      have HN0 := Lib.hid ha.len
      clear ha hof
      have CALL := Lib.hid (part_call m kd gP (gP + 1) k g hlt (by omega) HG.out w0 _ N HNg.out HM0.out f L HW.out HGD.out)
      have hcf := run_code k hlt
      have HIX := Lib.hid (run_index k hlt)
      go_wp2_with (first | (refine wpList_value rfl _ (exec_index (vx := tableV) (vi := .int .i64 (k : Int)) 170 (.tmp 25) (.tmp 26) rfl rfl rfl (HIX.out _)) ?_) | (refine wpList_store_new rfl 169 (.tmp 7) (.tmp 29) rfl #[.string (nameB k), .func (.func (codeFn k)) #[] #[]] rfl rfl _ part_info rfl (field_one _ _) ?_))
      refine (CALL.out _).mono ?_
      rintro e w2 ⟨hs, h⟩
      have hs2 := hs.size
      have HB2 : Hid (Below gP w0 w2) := Lib.hid (HW.out.below.trans (hs.mono (Q := (· < gP)) fun b hb => by show b < gP + 1; omega).below)
      have HWB2 : Hid (Below w.heap.size w w2) := Lib.hid (HBW.out.trans (HB2.out.mono (by have := HSZ.out; omega)))
      rcases h with ⟨hno, a, q1, q2, rfl, q3, q4⟩ | ⟨hyes, rfl, hcd⟩
      · have HEND := Lib.hid (body_bad HKD.out H1.out H2.out hlt HGD.out (badW_fok hno) HWB2.out ⟨a, by have := HWB2.out.size; have := HBW.out.size; have := HW.out.below.size; omega, q2, rfl, q3, q4⟩)
        clear hs hs2 q1 q2 q3 q4 c1 c2 f2 hgc hcf
        exact ⟨rfl, HEND.out⟩
      · obtain ⟨ao2, n2, cap2, ha2, hof2⟩ := hcd
        have d0 := ha2.c0
        have d1 := ha2.c1
        have d2 := ha2.c2
        have hl2 := ha2.len
        rw [List.length_append, HN0.out] at hl2
        have HNN : Hid (n ≤ n2) := Lib.hid (by omega)
        have HLE := Lib.hid ha2.le
        have HMX := Lib.hid ha2.max
        clear hl2
        have HCUT := Lib.hid (run_cut2 w2 ao2 n2 cap2 n HNN.out)
        have p1 : w2.cell? ⟨gP, k, none⟩ = some (.slice none 0 0) := (hs.cell (a := ⟨gP, k, none⟩) (show gP < gP + 1 by omega)).trans (HW.out.rest k (Nat.le_refl _) hlt)
        have p2 : w2.frozen? ⟨gP, k, none⟩ = false := (World.frozen?_of_block (a := ⟨gP, k, none⟩) (hs.block gP (show gP < gP + 1 by omega))).trans (HW.out.fz k)
        have HNEXT := Lib.hid (fun w3 hw3 => HW.out.next (w2 := w3) hlt (by omega) hs ha2 hof2 hw3)
        rw [HN0.out] at HNEXT
        have HYES := Lib.hid hyes
        clear hs hs2 ha2 hof2 hyes c1 c2 f2 hgc hcf
        go_wp2_with (refine wpList_value rfl _ (exec_slice (vx := .slice ao2 n2 cap2) (lv := some (.int .i64 (n : Int))) (hv := none) 54 (.tmp 42) (some (.tmp 43)) none rfl rfl rfl rfl HCUT.out) ?_)
        have hb3 : Below gP w0 (w2.setCell ⟨gP, k, none⟩ (.slice (sh ao2 cap2 n) (n2 - n) (cap2 - n))) := HB2.out.setCell (Nat.le_refl _) _
        have NX := HNEXT.out _ rfl
        generalize w2.setCell _ _ = w3 at *
        have HB3 := Lib.hid hb3
        have HNX := Lib.hid NX
        have HLL := Lib.hid HW.out.len
        have hmem : (⟨sh ao2 cap2 n, n2 - n, cap2 - n, fenc k m⟩ : Cut) ∈ L ++ [⟨sh ao2 cap2 n, n2 - n, cap2 - n, fenc k m⟩] := by simp
        have HPK : Hid (w3.cell? ⟨gP, k, none⟩ = some (.slice (sh ao2 cap2 n) (n2 - n) (cap2 - n))) := Lib.hid (NX.part k ⟨sh ao2 cap2 n, n2 - n, cap2 - n, fenc k m⟩ (by rw [List.getElem?_append_right (by rw [HLL.out]; exact Nat.le_refl _), HLL.out, Nat.sub_self]; rfl))
        obtain ⟨ao3, n3, cap3, ha3, hof3⟩ := NX.cd
        have HRK := Lib.hid (cut_rd ha3 hmem (NX.ok _ hmem))
        have HLK := Lib.hid (NX.ok _ hmem).len
        have e0 := ha3.c0
        have e2 := ha3.c2
        have HZ := Lib.hid (iszero_any (sh ao2 cap2 n) (n2 - n) (cap2 - n) (fenc k m) HLK.out (by have := HLE.out; have := HMX.out; unfold maxLen at this; omega) w3 HRK.out)
        have HNO := Lib.hid (need_no (gP + 1) false (nameB k) w3 e0 e2)
        have hsz3 := ha3.lt
        have HWB3 : Hid (Below w.heap.size w w3) := Lib.hid (HBW.out.trans (HB3.out.mono (by have := HSZ.out; omega)))
        have HS3 : Hid (w.heap.size ≤ w3.heap.size) := Lib.hid HWB3.out.size
        clear hb3 NX d0 d1 d2 p1 p2 HNEXT hmem ha3 hof3 e0 e2 hsz3
        refine (contains_any aou _ cau (all_ kd) rfl (by have := all_len kd H2.out; omega) (fun x hx => by have := all_lt hx; omega) k (by omega) w3 (HUR.out.below (by rw [HGP.out]; exact HBW1.out.trans HB3.out))).mono ?_
        rintro e w' ⟨rfl, rfl⟩
        by_cases hin : k ∈ all_ kd
        · rw [decide_eq_true hin]
          have HBAD : Hid (badW kd m k = false) := Lib.hid (by unfold badW; rw [HYES.out, decide_eq_true hin]; rfl)
          go_wp2_with fail
          refine (need_yes (gP + 1) _).mono ?_
          rintro e w' ⟨rfl, rfl⟩
          go_wp2_with fail
          refine ⟨⟨k + 1, nameB k, _, by omega, by go_num, HNX.out, fun i hi => ?_⟩, by simp [intOf]; omega⟩
          by_cases e : i = k
          · rw [e]; exact HBAD.out
          · exact HGD.out i (by omega)
        · rw [decide_eq_false hin]
          have hpk := HPK.out
          have HBAD : Hid (badW kd m k = !zok k m) := Lib.hid (by unfold badW; rw [HYES.out, decide_eq_false hin]; rfl)
          go_wp2_with fail
          refine HZ.out.mono ?_
          rintro e w' ⟨rfl, rfl⟩
          cases hz : (fenc k m).all (· == 0)
          · rw [show zok k m = false from hz] at HBAD
            go_wp2_with fail
            refine HNO.out.mono ?_
            rintro e w' ⟨rfl, rfl⟩
            have HEND := Lib.hid (body_bad HKD.out H1.out H2.out hlt HGD.out HBAD.out (below_alloc HWB3.out _) (⟨w3.heap.size, HS3.out, by simp, rfl, by go_simp, by go_simp⟩ : GaveN 42 (nameB k) _ w (w3.alloc (.cells #[.int .i64 42, .string (nameB k)] 121))))
            exact ⟨rfl, HEND.out⟩
          · rw [show zok k m = true from hz] at HBAD
            go_wp2_with fail
            refine (need_yes (gP + 1) _).mono ?_
            rintro e w' ⟨rfl, rfl⟩
            go_wp2_with fail
            refine ⟨⟨k + 1, nameB k, _, by omega, by go_num, HNX.out, fun i hi => ?_⟩, by simp [intOf]; omega⟩
            by_cases e : i = k
            · rw [e]; exact HBAD.out
            · exact HGD.out i (by omega)
    · obtain rfl : k = 22 := by omega
      have h0r : wr.cell? ⟨g, 0, none⟩ = some (.int .i64 (kd : Int)) := (HW.out.below.cell (p := ⟨g, 0, none⟩) HG.out).trans H0.out
      go_wp2_with fail
      have hmod : (kd : Int) % 256 = ((kd : Nat) : Int) := by have := H2.out; omega
      rw [hmod]
      have HO1 := Lib.hid (Own.one wr wr.heap.size kd (by have := H2.out; omega) (Nat.le_refl _))
      have HBR := Lib.hid (below_alloc (Below.refl wr.heap.size wr) (.cells #[u8v kd] 5))
      have HWR : Hid (Below w.heap.size w wr) := Lib.hid (HBW.out.trans (HW.out.below.mono (by have := HSZ.out; omega)))
      have HURR : Hid (RdI wr aou (all_ kd)) := Lib.hid (HUR.out.below (by rw [HGP.out]; exact HBW1.out.trans HW.out.below))
      have HAL := Lib.hid (accW_len HGD.out)
      have HA7 := Lib.hid (all_len kd H2.out)
      clear h0r hmod
      generalize hwx : wr.alloc (.cells #[.int .u8 (kd : Int)] 5) = wx
      have hwx' : wx = wr.alloc (.cells #[u8v kd] 5) := hwx.symm
      rw [← hwx'] at HO1 HBR
      clear hwx hwx'
      generalize hw4 : wr = w4 at *
      clear hw4
      go_loopw [9, 11, 65] (fun s b i wz => ∃ (q : Nat) (ao : Option Addr) (cap : Nat), q ≤ (all_ kd).length ∧ i = .int .i64 (q : Int) ∧ s = .slice ao (accW m kd q).length cap ∧ Own wz w4.heap.size ao (accW m kd q).length cap (accW m kd q) ∧ Below w4.heap.size w4 wz) (fun _ _ i _ => (all_ kd).length - (intOf i).toNat)
      case atStart => exact ⟨0, _, 1, by omega, rfl, rfl, HO1.out, HBR.out⟩
      case round =>
        obtain ⟨q, ao, cap, hq, rfl, rfl, hown, hbel⟩ := hrel
        have HOWN := Lib.hid hown
        have HBEL := Lib.hid hbel
        have HWB := Lib.hid (HWR.out.trans (hbel.mono HWR.out.size))
        clear hown hbel
        by_cases hlt : q < (all_ kd).length
        · have hx : (all_ kd)[q]? = some ((all_ kd)[q]'hlt) := List.getElem?_eq_getElem _
          generalize (all_ kd)[q]'hlt = i at hx
          have hi := all_lt (List.mem_of_getElem? hx)
          have HSUC := Lib.hid (accW_succ m hx)
          obtain ⟨gu, ou, rfl, hu1, hu2⟩ := HURR.out.below HBEL.out q i hx
          have hLi : L[i]? = some (L[i]'(by rw [HW.out.len]; exact hi)) := List.getElem?_eq_getElem _
          generalize L[i]'(by rw [HW.out.len]; exact hi) = c at hLi
          have HLI := Lib.hid hLi
          have hgPw : gP < w4.heap.size := by have := HW.out.cd.lt; omega
          have hcp := (HBEL.out.cell (p := ⟨gP, i, none⟩) hgPw).trans (HW.out.part i c hLi)
          obtain ⟨ao3, n3, cap3, ha3, hof3⟩ := HW.out.cd
          have hmem := List.mem_of_getElem? hLi
          have HRD := Lib.hid ((cut_rd ha3 hmem (HW.out.ok c hmem)).below HBEL.out)
          have HCL := Lib.hid (HW.out.ok c hmem).len
          have HCB := Lib.hid (HW.out.bytes i c hLi)
          have HLE := Lib.hid (HAL.out (q + 1) (by omega))
          rw [HSUC.out, List.length_append, ← HCB.out, HCL.out] at HLE
          have hcn : (accW m kd q).length + c.n ≤ 140737488355328 := by have := HLE.out; have := HA7.out; omega
          clear hx hLi hmem ha3 hof3 hgPw
          generalize hla : (accW m kd q).length = la at *
          have HLA := Lib.hid hla
          clear hla
          have h7 : q < 7 := by have := HA7.out; omega
          go_wp2_with (at_builtin; refine wpList_app rfl (.tmp 69) (.tmp 72) rfl rfl HOWN.out rfl HRD.out HCL.out HBEL.out.size hcn ?_; intro ao5 cap5 w5 o5 k5 n5)
          go_roundw
          case rel =>
            refine ⟨_, _, _, _, _, _, _, _, _, _, _, _, ?_, rfl⟩
            exact ⟨q + 1, ao5, cap5, by omega, by go_num, by rw [HSUC.out, List.length_append, HLA.out, ← HCB.out, HCL.out], by rw [HSUC.out, List.length_append, HLA.out, ← HCB.out, HCL.out]; exact o5, HOWN.out.step HBEL.out HBEL.out.size k5⟩
          case measure => simp [intOf]; omega
        · obtain rfl : q = (all_ kd).length := by omega
          have HEND := Lib.hid (body_fine HKD.out H1.out H2.out HGD.out HWB.out (HOWN.out.base HWR.out.size))
          go_wp2_with fail
          go_ret
          exact HEND.out
/-- the body of a message, written -/
theorem bodyof_any (m : Ms) (hI : I64 m.kind) (g : Nat) (w : World) (N : Nat → Prop) (hM : Slots w N g 0 (slotsOf m)) (hN : ∀ b, N b → b < w.heap.size) (hg : g < w.heap.size) (h0 : w.cell? ⟨g, 0, none⟩ = some (.int .i64 m.kind)) :
    Calls Tryz.prog 34 #[.pointer (some ⟨g, 0, none⟩)] w (BodyEnd m w) := by
  by_cases hb : m.kind < 1 ∨ 23 < m.kind
  · exact bodyof_kind m g w h0 hI hb
  · have e : m.kind = ((m.kind.toNat : Nat) : Int) := by omega
    exact bodyof_good m m.kind.toNat e (by omega) (by omega) g w N hM hN hg (by rw [h0, ← e])
end Go.Proofs.YtngcbpgafjnfaaaGreatDoor


namespace Go.Proofs.YtngcbpgafjnfaaaGreatDoor
open Go.RowKit
set_option linter.unusedVariables false

theorem idle21 (p q : Addr) (w : World) : CallsD Tryz.prog 31 #[.pointer (some p), .pointer (some q)] .returning w fun e u' w' => e = .returned (.tuple #[]) ∧ u' = .returning ∧ w' = w := by
  refine callsD_of_wpS Tryz.func31 rfl fun c₀ cs hu => ?_
  apply wpS_seq
  apply wpS_region
  simp [wpOpsS, go_sem, recoverD, hu, Tryz.ntmps31, Exit.thenS]
  apply wpS_seq
  apply wpS_region
  simp [wpOpsS, go_sem, Exit.thenS]
  refine wpS_cond (t := false) (by simp [Act.eval, Array.replicate]) ?_
  simp only [Bool.false_eq_true, if_false]
  refine wpS_of_wp (wp_skip ?_)
  cases c₀
  simp_all [bodyPostS, results, Tryz.results31]

set_option maxHeartbeats 1000000 in
/-- a fault was given up -/
theorem caught21 (gs ge : Nat) (a : Addr) (vs ve : Value) (w : World) (hE : ErrT w) (hga : a.block < w.heap.size) (hs : w.cell? ⟨gs, 0, none⟩ = some vs) (he : w.cell? ⟨ge, 0, none⟩ = some ve) (hne : gs ≠ ge) (hfs : w.frozen? ⟨gs, 0, none⟩ = false) (hfe : w.frozen? ⟨ge, 0, none⟩ = false) (ha1 : a.block ≠ gs) (ha2 : a.block ≠ ge) :
    CallsD Tryz.prog 31 #[.pointer (some ⟨gs, 0, none⟩), .pointer (some ⟨ge, 0, none⟩)] (.panicking [{ v := .iface 112 (.pointer (some a)), recovered := false }]) w fun e u' w' =>
      e = .returned (.tuple #[]) ∧ u' = .panicking [{ v := .iface 112 (.pointer (some a)), recovered := true }] ∧ w'.cell? ⟨gs, 0, none⟩ = some (.slice none 0 0) ∧ w'.cell? ⟨ge, 0, none⟩ = some (.iface 112 (.pointer (some a))) ∧ (∀ j, w'.cell? ⟨a.block, j, none⟩ = w.cell? ⟨a.block, j, none⟩) ∧ w.heap.size ≤ w'.heap.size ∧ ∀ B, B ≤ gs → B ≤ ge → B ≤ w.heap.size → Below B w w' := by
  refine callsD_of_wpS Tryz.func31 rfl fun c₀ cs hu => ?_
  apply wpS_seq
  apply wpS_region
  simp [wpOpsS, go_sem, recoverD, hu, Tryz.ntmps31, Exit.thenS]
  have hgs := World.block_lt_of_cell? w _ hs
  have hge := World.block_lt_of_cell? w _ he
  have FO := Lib.hid (faultof_any a w hE)
  clear hE
  refine wpS_of_wp ?_
  go_wp2_with fail
  refine FO.out.mono ?_
  rintro e w1 ⟨rfl, hb⟩
  have hs1 := (hb.cell (p := ⟨gs, 0, none⟩) hgs).trans hs
  have he1 := (hb.cell (p := ⟨ge, 0, none⟩) hge).trans he
  have hfs1 := (hb.frozen (p := ⟨gs, 0, none⟩) hgs).trans hfs
  have hfe1 := (hb.frozen (p := ⟨ge, 0, none⟩) hge).trans hfe
  have HB := Lib.hid hb
  have HA := Lib.hid (fun j : Nat => hb.cell (p := ⟨a.block, j, none⟩) hga)
  clear hb hs he hfs hfe
  go_wp2_with fail
  refine ⟨rfl, _, rfl, .tuple #[], by simp [results, Tryz.results31], rfl, rfl, ?_, ?_, fun j => ?_, ?_, fun B h1 h2 h3 => ?_⟩
  · rw [World.cell?_setCell_other _ _ _ _ (by intro e; cases e; exact hne rfl)]
    exact World.cell?_setCell_same w1 ⟨gs, 0, none⟩ _ hs1
  · exact World.cell?_setCell_same _ ⟨ge, 0, none⟩ _ (show _ = some ve from by rw [World.cell?_setCell_other _ _ _ _ (by intro e; cases e; exact hne rfl)]; exact he1)
  · rw [World.cell?_setCell_other _ _ _ _ (by intro e; cases e; exact ha2 rfl), World.cell?_setCell_other _ _ _ _ (by intro e; cases e; exact ha1 rfl)]
    exact HA.out j
  · simpa [World.setCell] using HB.out.size
  · exact ((HB.out.mono h3).setCell h1 _).setCell h2 _
end Go.Proofs.YtngcbpgafjnfaaaGreatDoor


namespace Go.Proofs.YtngcbpgafjnfaaaGreatDoor
open Go.RowKit
set_option linter.unusedVariables false

/-- the frame of a message, as it is written; or the error, and of what -/
def encW (m : Ms) : Except (Nat × ByteArray) (List Nat) :=
  match bodyW m with
  | .error x => .error x
  | .ok b => if 65536 < b.length then .error (43, ⟨#[98, 111, 100, 121]⟩) else .ok (frameOf b)
/-- what Encode comes to -/
def EncEnd (m : Ms) (w : World) (e : Ending) (w' : World) : Prop :=
  Below w.heap.size w w' ∧ match encW m with
  | .error (n, s) => ∃ a, e = .returned (.tuple #[.slice none 0 0, .iface 112 (.pointer (some ⟨a, 0, none⟩))]) ∧ w.heap.size ≤ a ∧ w'.cell? ⟨a, 0, none⟩ = some (.int .i64 n) ∧ w'.cell? ⟨a, 1, none⟩ = some (.string s)
  | .ok f => ∃ ao cap, e = .returned (.tuple #[.slice ao f.length cap, .nilIface]) ∧ Own w' w.heap.size ao f.length cap f

theorem GaveN.below {n : Int} {f : ByteArray} {e : Ending} {w w' w'' : World} (h : GaveN n f e w w') (b : Below w'.heap.size w' w'') : GaveN n f e w w'' := by
  obtain ⟨a, h1, h2, h3, h4, h5⟩ := h
  exact ⟨a, h1, Nat.lt_of_lt_of_le h2 b.size, h3, (b.cell (p := ⟨a, 0, none⟩) h2).trans h4, (b.cell (p := ⟨a, 1, none⟩) h2).trans h5⟩

set_option maxRecDepth 100000 in
set_option maxHeartbeats 4000000 in
theorem encode_any (m : Ms) (hI : I64 m.kind) (cs : Array Value) (w : World) (hE : ErrT w) (hT : Tab w) (N : Nat → Prop) (hsz : cs.size = 49)
    (hM : Slots (w.alloc (.cells cs 52)) N w.heap.size 0 (slotsOf m)) (hN : ∀ b, N b → b < w.heap.size + 1) (h0 : cs[0]? = some (.int .i64 m.kind)) :
    Calls Tryz.prog 10 #[.agg cs] w (EncEnd m w) := by
  have hmf : ∀ (fn : Fn) (first cap : Array Value) (w : World), (Instr.makeFunc fn first cap).run Tryz.prog w = .ok (.func fn first cap) w := fun _ _ _ _ => rfl
  have hrow : (w.alloc (.cells cs 52)).heap[w.heap.size]? = some (.cells cs 52 (0, 0)) := heap_alloc_new w _
  have hs1 : (w.alloc (.cells cs 52)).heap.size = w.heap.size + 1 := by simp
  have hb1 : Below w.heap.size w (w.alloc (.cells cs 52)) := below_alloc (Below.refl _ _) _
  have HE := Lib.hid hE
  have HT := Lib.hid hT
  clear hE hT
  go_enter_defers Tryz.func10, Tryz.ntmps10
  go_wp2_with fail
  generalize w.alloc (.cells cs 52) = w1 at *
  have hb3 : Below w1.heap.size w1 ((w1.alloc (.cells #[.slice none 0 0] 54)).alloc (.cells #[.nilIface] 56)) := below_alloc (below_alloc (Below.refl _ _) _) _
  have k1 : ((w1.alloc (.cells #[.slice none 0 0] 54)).alloc (.cells #[.nilIface] 56)).cell? ⟨w.heap.size + 1, 0, none⟩ = some (.slice none 0 0) := by rw [← hs1]; go_simp
  have k2 : ((w1.alloc (.cells #[.slice none 0 0] 54)).alloc (.cells #[.nilIface] 56)).cell? ⟨w.heap.size + 1 + 1, 0, none⟩ = some .nilIface := by rw [← hs1]; go_simp
  have f1 : ((w1.alloc (.cells #[.slice none 0 0] 54)).alloc (.cells #[.nilIface] 56)).frozen? ⟨w.heap.size + 1, 0, none⟩ = false := by rw [← hs1]; go_simp
  have f2 : ((w1.alloc (.cells #[.slice none 0 0] 54)).alloc (.cells #[.nilIface] 56)).frozen? ⟨w.heap.size + 1 + 1, 0, none⟩ = false := by rw [← hs1]; go_simp
  have hs3 : ((w1.alloc (.cells #[.slice none 0 0] 54)).alloc (.cells #[.nilIface] 56)).heap.size = w.heap.size + 1 + 1 + 1 := by simp [hs1]
  generalize (w1.alloc (.cells #[.slice none 0 0] 54)).alloc (.cells #[.nilIface] 56) = w3 at *
  have HB3 : Hid (Below w.heap.size w w3) := Lib.hid (hb1.trans (hb3.mono (by omega)))
  have BODY := Lib.hid (bodyof_any m hI w.heap.size w3 N (slots_safe (P := (· < w1.heap.size)) hM (slotsOf_fine m) (safe_of_below hb3) (by show w.heap.size < _; omega) (fun b hb => by have := hN b hb; show b < w1.heap.size; omega) (fun b hb => hb)) (fun b hb => by have := hN b hb; omega) (by omega) (by rw [hb3.cell (p := ⟨w.heap.size, 0, none⟩) (by show w.heap.size < _; omega), cell_of_row w1 w.heap.size 0 _ _ (0, 0) hrow]; exact h0))
  have HS3 := Lib.hid hs3
  clear hb1 hb3 hrow hs1 hM hN h0 hsz
  clear w1
  refine BODY.out.mono ?_
  rintro e w4 ⟨hb, hm⟩
  have HB4 : Hid (Below w.heap.size w w4) := Lib.hid (HB3.out.trans (hb.mono HB3.out.size))
  have k14 := (hb.cell (p := ⟨w.heap.size + 1, 0, none⟩) (by show w.heap.size + 1 < _; omega)).trans k1
  have k24 := (hb.cell (p := ⟨w.heap.size + 1 + 1, 0, none⟩) (by show w.heap.size + 1 + 1 < _; omega)).trans k2
  have f14 := (hb.frozen (p := ⟨w.heap.size + 1, 0, none⟩) (by show w.heap.size + 1 < _; omega)).trans f1
  have f24 := (hb.frozen (p := ⟨w.heap.size + 1 + 1, 0, none⟩) (by show w.heap.size + 1 + 1 < _; omega)).trans f2
  have hs4 : w.heap.size + 1 + 1 + 1 ≤ w4.heap.size := by have := hb.size; omega
  clear k1 k2 f1 f2 hb hs3 BODY
  cases hbw : bodyW m with
  | error x =>
    obtain ⟨n, s⟩ := x
    rw [hbw] at hm
    obtain ⟨a, q1, q2, rfl, q3, q4⟩ := hm
    have ha : w.heap.size + 1 + 1 + 1 ≤ a := by have := HS3.out; omega
    refine leaves_cons (f := 31) (args := #[.pointer (some ⟨w.heap.size + 1, 0, none⟩), .pointer (some ⟨w.heap.size + 1 + 1, 0, none⟩)]) (by simp) (by simp [go_sem]) ?_
    refine (caught21 (w.heap.size + 1) (w.heap.size + 1 + 1) ⟨a, 0, none⟩ _ _ w4 (HE.out.below HB4.out) q2 k14 k24 (by omega) f14 f24 (by show a ≠ _; omega) (by show a ≠ _; omega)).mono ?_
    rintro e u' w5 ⟨rfl, rfl, r1, r2, r3, r4, r5⟩
    have HEND : Hid (EncEnd m w (.returned (.tuple #[.slice none 0 0, .iface 112 (.pointer (some ⟨a, 0, none⟩))])) w5) := Lib.hid (by
      unfold EncEnd encW
      rw [hbw]
      exact ⟨HB4.out.trans (r5 w.heap.size (by omega) (by omega) HB4.out.size), a, rfl, by omega, (r3 0).trans q3, (r3 1).trans q4⟩)
    clear r3 r4 r5 q1 q2 q3 q4 k14 k24 f14 f24
    simp [Leaves, settle, results, Tryz.results10, go_sem, r1, r2]
    exact HEND.out
  | ok b =>
    rw [hbw] at hm
    obtain ⟨ao, cap, rfl, ho⟩ := hm
    have HO := Lib.hid ho
    have hlen : b.length ≤ 9223372036854775807 := by have h1 := ho.le; have h2 := ho.max; unfold maxLen at h2; omega
    have WR := Lib.hid (wrap_any ao b.length cap b rfl hlen w4 (HT.out.below HB4.out) ho.rd)
    have HBW := Lib.hid hbw
    clear ho hlen hbw
    go_wp2_with fail
    refine WR.out.mono ?_
    rintro e w5 (⟨hbig, rfl, rfl⟩ | ⟨hle, ao2, cap2, rfl, o2, hb2⟩)
    · have HBIG := Lib.hid hbig
      clear hbig
      go_wp2_with (go_at_call 35; refine (giveup_any _ _ _).mono ?_; rintro e w' ⟨rfl, rfl⟩)
      have g1 : ((w5.setCell ⟨w.heap.size + 1, 0, none⟩ (.slice none 0 0)).alloc (.cells #[.int .i64 43, .string ⟨#[98, 111, 100, 121]⟩] 121)).cell? ⟨w.heap.size + 1, 0, none⟩ = some (.slice none 0 0) := by
        rw [World.cell?_alloc_lt _ _ ⟨w.heap.size + 1, 0, none⟩ (by show w.heap.size + 1 < (w5.setCell _ _).heap.size; simp [World.setCell]; omega)]
        exact World.cell?_setCell_same w5 ⟨w.heap.size + 1, 0, none⟩ _ k14
      have g2 : ((w5.setCell ⟨w.heap.size + 1, 0, none⟩ (.slice none 0 0)).alloc (.cells #[.int .i64 43, .string ⟨#[98, 111, 100, 121]⟩] 121)).cell? ⟨w.heap.size + 1 + 1, 0, none⟩ = some .nilIface := by
        rw [World.cell?_alloc_lt _ _ ⟨w.heap.size + 1 + 1, 0, none⟩ (by show w.heap.size + 1 + 1 < (w5.setCell _ _).heap.size; simp [World.setCell]; omega), World.cell?_setCell_other _ _ _ _ (by simp)]
        exact k24
      have hss : (w5.setCell ⟨w.heap.size + 1, 0, none⟩ (.slice none 0 0)).heap.size = w5.heap.size := by simp [World.setCell]
      have hob := fun (j : Nat) (hj : j < w5.heap.size) => heap_alloc_old (w5.setCell ⟨w.heap.size + 1, 0, none⟩ (.slice none 0 0)) (.cells #[.int .i64 43, .string ⟨#[98, 111, 100, 121]⟩] 121) (r := j) (by rw [hss]; exact hj)
      have g3 := (World.frozen?_of_block (a := ⟨w.heap.size + 1, 0, none⟩) (hob (w.heap.size + 1) (by omega))).trans ((World.frozen?_setCell _ _ _ _).trans f14)
      have g4 := (World.frozen?_of_block (a := ⟨w.heap.size + 1 + 1, 0, none⟩) (hob (w.heap.size + 1 + 1) (by omega))).trans ((World.frozen?_setCell _ _ _ _).trans f24)
      have hrow := heap_alloc_new (w5.setCell ⟨w.heap.size + 1, 0, none⟩ (.slice none 0 0)) (.cells #[.int .i64 43, .string ⟨#[98, 111, 100, 121]⟩] 121)
      rw [hss] at hrow
      have g5 := cell_of_row _ w5.heap.size 0 _ _ (0, 0) hrow
      have g6 := cell_of_row _ w5.heap.size 1 _ _ (0, 0) hrow
      have g7 : w5.heap.size < ((w5.setCell ⟨w.heap.size + 1, 0, none⟩ (.slice none 0 0)).alloc (.cells #[.int .i64 43, .string ⟨#[98, 111, 100, 121]⟩] 121)).heap.size := by simp [World.setCell]
      have HB6 : Hid (Below w.heap.size w ((w5.setCell ⟨w.heap.size + 1, 0, none⟩ (.slice none 0 0)).alloc (.cells #[.int .i64 43, .string ⟨#[98, 111, 100, 121]⟩] 121))) := Lib.hid (below_alloc (HB4.out.setCell (by show w.heap.size ≤ w.heap.size + 1; omega) _) _)
      clear k14 k24 f14 f24 hss hob hrow WR
      generalize (w5.setCell ⟨w.heap.size + 1, 0, none⟩ (.slice none 0 0)).alloc (.cells #[.int .i64 43, .string ⟨#[98, 111, 100, 121]⟩] 121) = w6 at *
      generalize ha0 : w5.heap.size = a at *
      refine leaves_cons (f := 31) (args := #[.pointer (some ⟨w.heap.size + 1, 0, none⟩), .pointer (some ⟨w.heap.size + 1 + 1, 0, none⟩)]) (by simp) (by simp [go_sem]) ?_
      refine (caught21 (w.heap.size + 1) (w.heap.size + 1 + 1) ⟨a, 0, none⟩ _ _ w6 (HE.out.below HB6.out) g7 g1 g2 (by omega) g3 g4 (by show a ≠ _; omega) (by show a ≠ _; omega)).mono ?_
      rintro e u' w7 ⟨rfl, rfl, r1, r2, r3, r4, r5⟩
      have HEND : Hid (EncEnd m w (.returned (.tuple #[.slice none 0 0, .iface 112 (.pointer (some ⟨a, 0, none⟩))])) w7) := Lib.hid (by
        unfold EncEnd encW
        rw [HBW.out]
        simp only [HBIG.out, if_true]
        exact ⟨HB6.out.trans (r5 w.heap.size (by omega) (by omega) HB6.out.size), a, rfl, by omega, (r3 0).trans g5, (r3 1).trans g6⟩)
      clear r3 r4 r5 g1 g2 g3 g4 g5 g6 g7
      simp [Leaves, settle, results, Tryz.results10, go_sem, r1, r2]
      exact HEND.out
    · have HLE := Lib.hid hle
      have HO2 := Lib.hid o2
      have k15 := (hb2.cell (p := ⟨w.heap.size + 1, 0, none⟩) (by show w.heap.size + 1 < _; omega)).trans k14
      have k25 := (hb2.cell (p := ⟨w.heap.size + 1 + 1, 0, none⟩) (by show w.heap.size + 1 + 1 < _; omega)).trans k24
      have f15 := (hb2.frozen (p := ⟨w.heap.size + 1, 0, none⟩) (by show w.heap.size + 1 < _; omega)).trans f14
      have f25 := (hb2.frozen (p := ⟨w.heap.size + 1 + 1, 0, none⟩) (by show w.heap.size + 1 + 1 < _; omega)).trans f24
      have HB5 := Lib.hid (HB4.out.trans (hb2.mono HB4.out.size))
      clear hle o2 hb2 k14 k24 f14 f24
      go_wp2_with fail
      refine leaves_cons (f := 31) (args := #[.pointer (some ⟨w.heap.size + 1, 0, none⟩), .pointer (some ⟨w.heap.size + 1 + 1, 0, none⟩)]) (by simp) (by simp [go_sem]) ?_
      refine (idle21 _ _ _).mono ?_
      rintro e u' w7 ⟨rfl, rfl, hw⟩
      have r0 := World.cell?_setCell_same w5 ⟨w.heap.size + 1, 0, none⟩ (.slice ao2 (b.length + 10) cap2) k15
      have r1 : w7.cell? ⟨w.heap.size + 1, 0, none⟩ = some (.slice ao2 (b.length + 10) cap2) := by
        rw [hw, World.cell?_setCell_other _ _ _ _ (by simp)]
        exact World.cell?_setCell_same _ ⟨w.heap.size + 1, 0, none⟩ _ r0
      have r2 : w7.cell? ⟨w.heap.size + 1 + 1, 0, none⟩ = some .nilIface := by
        rw [hw]
        exact World.cell?_setCell_same _ ⟨w.heap.size + 1 + 1, 0, none⟩ _ (show _ = some Value.nilIface from by rw [World.cell?_setCell_other _ _ _ _ (by simp), World.cell?_setCell_other _ _ _ _ (by simp)]; exact k25)
      have ks : ∀ g ∈ blk ao2, w4.heap.size ≤ g := fun g hg => (HO2.out.lt_size g hg).1
      have HB7 : Hid (Below w.heap.size w w7) := Lib.hid (by
        rw [hw]
        exact ((HB5.out.setCell (by show w.heap.size ≤ w.heap.size + 1; omega) _).setCell (by show w.heap.size ≤ w.heap.size + 1; omega) _).setCell (by show w.heap.size ≤ w.heap.size + 1 + 1; omega) _)
      have o7 : Own w7 w4.heap.size ao2 (b.length + 10) cap2 (frameOf b) := by
        rw [hw]
        refine ((HO2.out.keep (Keep.setCell _ ⟨w.heap.size + 1, 0, none⟩ _) fun g hg hm => ?_).keep (Keep.setCell _ ⟨w.heap.size + 1, 0, none⟩ _) fun g hg hm => ?_).keep (Keep.setCell _ ⟨w.heap.size + 1 + 1, 0, none⟩ _) fun g hg hm => ?_
        · have := ks g hg; simp at hm; omega
        · have := ks g hg; simp at hm; omega
        · have := ks g hg; simp at hm; omega
      have HEND : Hid (EncEnd m w (.returned (.tuple #[.slice ao2 (b.length + 10) cap2, .nilIface])) w7) := Lib.hid (by
        unfold EncEnd encW
        rw [HBW.out]
        simp only [show ¬ 65536 < b.length from by have := HLE.out; omega, if_false]
        refine ⟨HB7.out, ao2, cap2, by rw [o7.len], ?_⟩
        rw [o7.len]
        exact o7.base HB4.out.size)
      clear hw r0 ks o7 k15 k25 f15 f25 WR
      simp [Leaves, settle, results, Tryz.results10, go_sem, r1, r2]
      exact HEND.out
end Go.Proofs.YtngcbpgafjnfaaaGreatDoor
