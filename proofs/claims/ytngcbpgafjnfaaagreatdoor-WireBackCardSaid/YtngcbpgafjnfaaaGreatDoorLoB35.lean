/- WireBack: the walk. Arguments: a decree, a string, a slice of bytes; the variables' cells, out of what the card lays. -/
import Derived.Test.YtngcbpgafjnfaaaGreatDoorLoB34
import Derived.Test.YtngcbpgafjnfaaaGreatDoorLoB21
import Derived.Test.YtngcbpgafjnfaaaGreatDoorLoB22
import Derived.Test.YtngcbpgafjnfaaaGreatDoorLoB13
import Derived.SizedLaws
import Derived.Lib.LaidTab
import Derived.LaidMore
import Derived.LaidSub
import Derived.LaidHandle
import Derived.LaidLaws
import Derived.MakeChecks
import Derived.Deep.Slices
import Derived.Deep.SlicePairs
import Derived.ChangeArms
set_option linter.unusedSimpArgs false
set_option linter.unusedVariables false

namespace Go.Proofs.YtngcbpgafjnfaaaGreatDoor
open Go.RowKit Go.Sort
set_option linter.unusedVariables false
set_option linter.unusedSimpArgs false

/-- what was decoded, read in a world that goes on -/
theorem decoded_in {w w4 w5 : World} {ds : Array Value} {N : Nat → Prop} {m : Ms} (h : ds.size = 49 ∧ (∀ q, N q → w.heap.size ≤ q ∧ q < w4.heap.size) ∧ Slots (w4.alloc (.cells ds 52)) N w4.heap.size 0 (slotsOf m)) (b5 : Below w4.heap.size w4 w5) (s5 : w5.heap.size = w4.heap.size + 1) :
    SlIn w5 (Here w5) ds.toList (slotsOf m) := by
  obtain ⟨hdz, hN, hsl⟩ := h
  have h1 := Slots.ins (heap_alloc_new w4 (.cells ds 52)) hsl (slotsOf_fine m)
  have hs : Safe N (w4.alloc (.cells ds 52)) w5 := ⟨b5.os, b5.tape, b5.output, by rw [s5]; simp, fun k hk => by
    rw [b5.block k (hN k hk).2]
    exact (heap_alloc_old w4 _ (hN k hk).2).symm⟩
  exact (h1.move hs (fun _ h => h) (slotsOf_fine m)).wide (fun k hk => by have := (hN k hk).2; show k < w5.heap.size; omega) (slotsOf_fine m)
theorem decoded_in2 {w4 w5 : World} {ds : Array Value} {N : Nat → Prop} {m : Ms} (h : ds.size = 49 ∧ (∀ q, N q → 0 ≤ q ∧ q < w4.heap.size) ∧ Slots (w4.alloc (.cells ds 52)) N w4.heap.size 0 (slotsOf m)) (b5 : Below w4.heap.size w4 w5) (s5 : w5.heap.size = w4.heap.size + 1) :
    SlIn w5 (Here w5) ds.toList (slotsOf m) := by
  obtain ⟨hdz, hN, hsl⟩ := h
  have h1 := Slots.ins (heap_alloc_new w4 (.cells ds 52)) hsl (slotsOf_fine m)
  have hs : Safe N (w4.alloc (.cells ds 52)) w5 := ⟨b5.os, b5.tape, b5.output, by rw [s5]; simp, fun k hk => by
    rw [b5.block k (hN k hk).2]
    exact (heap_alloc_old w4 _ (hN k hk).2).symm⟩
  exact (h1.move hs (fun _ h => h) (slotsOf_fine m)).wide (fun k hk => by have := (hN k hk).2; show k < w5.heap.size; omega) (slotsOf_fine m)
set_option maxRecDepth 100000 in
set_option maxHeartbeats 4000000 in
theorem wireBack_law (m : Ms) (hI : I64 m.kind) (cs : List Value) (hz : cs.length = 49) (h0 : cs[0]? = some (.int .i64 m.kind)) (ao : Option Addr) (n cap : Nat) (l : List Nat) (hl : l.length = n) (hc : n ≤ cap) (hm : cap ≤ maxLen) (hmz : n ≤ 140737488351232) (W : World)
    (hE : ErrT W) (hT : Tab W) (hS : SlIn W (Old W) cs (slotsOf m)) (hr : Rd W ao l) :
    Calls Tryz.prog 5 #[.agg cs.toArray, .slice ao n cap] W (LawOk W) := by
  obtain ⟨A, hA⟩ : ∃ A, A = cs.toArray := ⟨_, rfl⟩
  rw [← hA]
  have hb0 := below_alloc (Below.refl W.heap.size W) (.cells A 52)
  have hrow := heap_alloc_new W (.cells A 52)
  have hs1 : (W.alloc (.cells A 52)).heap.size = W.heap.size + 1 := by simp
  have HE := Lib.hid hE; have HT := Lib.hid hT; have HR := Lib.hid hr; have HS := Lib.hid hS; have HB0 := Lib.hid hb0; have HROW := Lib.hid hrow; have HS1 := Lib.hid hs1
  have AW := Lib.hid (awake_any _ (hE.below hb0) (hT.below hb0))
  have HZ := Lib.hid hz; have H0 := Lib.hid h0; have HA := Lib.hid hA; have HL := Lib.hid hl
  have hn : n ≤ 9223372036854775807 := by omega
  clear hE hT hr hS hb0 hrow hz h0 hA hs1 hl
  go_enter Tryz.func5, Tryz.ntmps5
  go_wp2_with fail
  generalize W.alloc (.cells A 52) = w1 at *
  refine AW.out.mono ?_; rintro e w2 ⟨rfl, b2⟩
  have hrow2 := (b2.block W.heap.size (by have := HS1.out; omega)).trans HROW.out
  have HRA : Hid (w2.rangeAt W.heap.size 0 cs) := Lib.hid (fun j v hv => by
      rw [cell_of_row w2 W.heap.size (0 + j) _ _ (0, 0) hrow2, HA.out, List.getElem?_toArray, Nat.zero_add]; exact hv)
  have hb2 := below_next HB0.out b2
  have HB2 := Lib.hid hb2
  have hal := below_alloc hb2 (.cells cs.toArray 52)
  have EN := Lib.hid (encode_any m hI cs.toArray w2 (HE.out.below hb2) (HT.out.below hb2) (Old W) (by simp [HZ.out]) (HS.out.slots (P := Old W) ⟨hal.os, hal.tape, hal.output, hal.size, fun k hk => hal.block k hk⟩ (fun _ h => h) (fun j u hu => by
      rw [cell_of_row _ w2.heap.size j _ _ (0, 0) (heap_alloc_new w2 (.cells cs.toArray 52)), List.getElem?_toArray]; exact hu) (slotsOf_fine m)) (fun b hb => by have : b < W.heap.size := hb; have := hb2.size; omega) (by rw [List.getElem?_toArray]; exact H0.out))
  have HR2 := Lib.hid hrow2
  clear hb2 hal b2 hrow2 AW
  have HSZ := Lib.hid (show (Tryz.prog.info? 52).map (·.size) = some cs.length by rw [HZ.out]; exact msg_size)
  go_wp2_with (refine wpList_load_mid rfl 52 (.tmp 2) rfl W.heap.size 0 rfl cs _ HRA.out Tryz.underlying52 rfl HSZ.out ?_)
  refine EN.out.mono ?_; rintro e w3 ⟨b3, hm⟩
  rw [encW_eq] at hm
  have HB3 := Lib.hid (below_next HB2.out b3)
  have HR3 := Lib.hid ((b3.block W.heap.size (by have := (Array.getElem?_eq_some_iff.1 HR2.out).1; omega)).trans HR2.out)
  clear b3 HRA EN HR2
  cases henc : encode m
  case' error x =>
    obtain ⟨nn, s⟩ := x
    rw [henc] at hm
    obtain ⟨a, rfl, _⟩ := hm
    clear HR3
    go_wp2_with fail
    have HBZ := HB3
    clear HB3
    generalize w3 = wz at *
  case' ok f =>
    rw [henc] at hm
    obtain ⟨fo, fc, rfl, own⟩ := hm
    have HO := Lib.hid own
    obtain ⟨hk1, hbb, hl1, hfr, hby2⟩ := encode_ok henc
    have hf1 := frameOf_length (bodyOf m)
    rw [← hfr] at hf1
    have hfn : f.length ≤ 70000 := by omega
    have hfle : f.length ≤ fc := own.le
    have DEC := Lib.hid (decode_any fo f.length fc f rfl (by omega) hfle w3 (HE.out.below HB3.out) (HT.out.below HB3.out) own.rd)
    have hde := decode_encode henc
    clear hk1 hbb hl1 hfr hby2 hf1 own
    go_wp2_with fail
    refine DEC.out.mono ?_
    rintro e w4 ⟨b4, h4⟩
    rw [decW_eq, hde] at h4
    obtain ⟨ds, N, rfl, hdz, hN, hsl⟩ := h4
    have hone := msgcs_one hdz hsl
    have HB4 := Lib.hid (below_next HB3.out b4)
    have HR4 := Lib.hid ((b4.block W.heap.size (Array.getElem?_eq_some_iff.1 HR3.out).1).trans HR3.out)
    have HD := Lib.hid (And.intro hdz (And.intro hN hsl))
    clear DEC HB3 HR3 b4 hN hsl
    go_wp2_with (first
      | (refine wpList_var_row rfl rfl rfl (.tmp 8) (.tmp 29) rfl rfl rfl ds rfl hdz hone ?_
         intro w5 b5 s5 r5
         have HR5 := Lib.hid ((b5.block W.heap.size (Array.getElem?_eq_some_iff.1 HR4.out).1).trans HR4.out)
         have HB5 := Lib.hid (below_next HB4.out b5)
         have IN : Hid (SlIn w5 (Here w5) ds.toList (slotsOf m)) := Lib.hid (decoded_in HD.out b5 s5)
         have IM : Hid (SlIn w5 (Here w5) cs (slotsOf m)) := Lib.hid (SlIn.grow HS.out (slotsOf_fine m) HB5.out)
         have SAME := Lib.hid (msg_same ds.toList cs m w5 (by simpa using hdz) HZ.out IN.out IM.out)
         have HRA : Hid (w5.rangeAt W.heap.size 0 cs) := Lib.hid (fun j v hv => by
           rw [cell_of_row w5 W.heap.size (0 + j) _ _ (0, 0) HR5.out, HA.out, List.getElem?_toArray, Nat.zero_add]; exact hv)
         have HRD : Hid (w5.rangeAt w4.heap.size 0 ds.toList) := Lib.hid (fun j v hv => by
           rw [cell_of_row w5 w4.heap.size (0 + j) _ _ (0, 0) r5, Nat.zero_add, ← Array.getElem?_toList]; exact hv)
         have HSD := Lib.hid (show (Tryz.prog.info? 52).map (·.size) = some ds.toList.length by rw [Array.length_toList, hdz]; exact msg_size)
         clear HR4 HB4 HD b5 s5 r5 IN IM HR5 hone)
      | refine wpList_load_mid rfl 52 (.tmp 8) rfl w4.heap.size 0 rfl ds.toList _ HRD.out Tryz.underlying52 rfl HSD.out ?_
      | refine wpList_load_mid rfl 52 (.tmp 2) rfl W.heap.size 0 rfl cs _ HRA.out Tryz.underlying52 rfl HSZ.out ?_)
    refine SAME.out.mono ?_
    rintro e wz ⟨rfl, b6⟩
    have HBZ := Lib.hid (below_next HB5.out b6)
    clear SAME HRA HRD HSD b6 hdz
    go_wp2_with fail
  all_goals
    refine (rwrap_any ao n cap l HL.out hn wz (HR.out.below HBZ.out)).mono ?_
    rintro e w7 (⟨h, rfl, rfl⟩ | ⟨h, co, cc, rfl, own, b7⟩)
    · go_wp2_with fail
      go_ret
      exact ⟨rfl, HBZ.out⟩
    · have HFL := Lib.hid (frameOf_length l)
      have B7 := Lib.hid (below_next HBZ.out b7)
      have DEC := Lib.hid (decode_any co (l.length + 10) cc (frameOf l) HFL.out (by omega) own.le w7 (HE.out.below B7.out) (HT.out.below B7.out) own.rd)
      have OWN := Lib.hid own; have HLE := Lib.hid h
      clear own b7
      go_wp2_with fail
      refine DEC.out.mono ?_
      rintro e w8 ⟨b8, h8⟩
      rw [decW_eq] at h8
      have B8 := Lib.hid (below_next B7.out b8)
      have OW8 := Lib.hid (OWN.out.below b8)
      clear b8 OWN DEC
      cases hd : decode (frameOf l) with
      | error x =>
        obtain ⟨nn2, s2⟩ := x
        rw [hd] at h8
        obtain ⟨a2, rfl, _⟩ := h8
        go_wp2_with (first
          | (refine wpList_var_row rfl rfl rfl (.tmp 13) (.tmp 51) rfl rfl rfl (noughtCs 0 0 0) rfl rfl (nought_one 0) ?_
             intro w9 b9 s9 r9
             have B9 := Lib.hid (below_next B8.out b9)
             have SAME := Lib.hid (msg_same (noughtCs 0 0 0).toList (noughtCs 0 0 0).toList (nought 0 0 0) w9 rfl rfl (nought_in _ _) (nought_in _ _))
             have HRD : Hid (w9.rangeAt w8.heap.size 0 (noughtCs 0 0 0).toList) := Lib.hid (fun j v hv => by
               rw [cell_of_row w9 w8.heap.size (0 + j) _ _ (0, 0) r9, Nat.zero_add, ← Array.getElem?_toList]; exact hv)
             clear b9 s9 r9)
          | refine wpList_load_mid rfl 52 (.tmp 13) rfl w8.heap.size 0 rfl (noughtCs 0 0 0).toList _ HRD.out Tryz.underlying52 rfl msg_size ?_
          | refine wpList_zero_msg rfl rfl ?_)
        refine SAME.out.mono ?_
        rintro e w10 ⟨rfl, b10⟩
        go_wp2_with fail
        go_ret
        exact ⟨rfl, below_next B9.out b10⟩
      | ok m2 =>
        rw [hd] at h8
        obtain ⟨ds2, N2, rfl, hdz2, hN2, hsl2⟩ := h8
        have hone2 := msgcs_one hdz2 hsl2
        have hb2 : Bytes l := HR.out.1
        have henc2 := encode_decode HLE.out hb2 hd
        have hk2 := (encode_ok henc2).1
        have HDD := Lib.hid (And.intro hdz2 (And.intro (fun q hq => And.intro (Nat.zero_le q) (hN2 q hq).2) hsl2))
        clear hN2 hsl2
        go_wp2_with (first
          | (refine wpList_var_row rfl rfl rfl (.tmp 13) (.tmp 51) rfl rfl rfl ds2 rfl hdz2 hone2 ?_
             intro w9 b9 s9 r9
             have B9 := Lib.hid (below_next B8.out b9)
             have OW9 := Lib.hid (OW8.out.below b9)
             have IN := decoded_in2 HDD.out b9 s9
             have hal := below_alloc (Below.refl w9.heap.size w9) (.cells ds2.toList.toArray 52)
             have ENC := Lib.hid (encode_any m2 (by unfold I64; omega) ds2.toList.toArray w9 (HE.out.below B9.out) (HT.out.below B9.out) (Here w9) (by simpa using hdz2) (IN.slots (P := Here w9) (here_safe hal) (fun _ h => h) (fun j u hu => by
               rw [cell_of_row _ w9.heap.size j _ _ (0, 0) (heap_alloc_new w9 (.cells ds2.toList.toArray 52)), List.getElem?_toArray]; exact hu) (slotsOf_fine m2)) (fun b hb => Nat.lt_succ_of_lt hb) (by rw [List.getElem?_toArray]; exact IN.kind))
             have HRD : Hid (w9.rangeAt w8.heap.size 0 ds2.toList) := Lib.hid (fun j v hv => by
               rw [cell_of_row w9 w8.heap.size (0 + j) _ _ (0, 0) r9, Nat.zero_add, ← Array.getElem?_toList]; exact hv)
             have HSD := Lib.hid (show (Tryz.prog.info? 52).map (·.size) = some ds2.toList.length by rw [Array.length_toList, hdz2]; exact msg_size)
             clear b9 s9 r9 IN hal HDD hone2 hdz2 hk2 OW8)
          | refine wpList_load_mid rfl 52 (.tmp 13) rfl w8.heap.size 0 rfl ds2.toList _ HRD.out Tryz.underlying52 rfl HSD.out ?_)
        refine ENC.out.mono ?_
        rintro e w10 ⟨b10, h10⟩
        rw [encW_eq, henc2] at h10
        obtain ⟨fo2, fc2, rfl, own2⟩ := h10
        have B10 := Lib.hid (below_next B9.out b10)
        have SM := Lib.hid (rsame_any fo2 co (frameOf l).length (l.length + 10) fc2 cc (frameOf l) (frameOf l) rfl HFL.out (by have := HFL.out; have := HLE.out; omega) w10 own2.rd (OW9.out.below b10).rd)
        rw [beq_self_eq_true] at SM
        clear b10 own2 ENC HRD HSD OW9
        go_wp2_with fail
        refine SM.out.mono ?_
        rintro e w11 ⟨rfl, b11⟩
        go_wp2_with fail
        go_ret
        exact ⟨rfl, below_next B10.out b11⟩
end Go.Proofs.YtngcbpgafjnfaaaGreatDoor


namespace Go.Proofs.YtngcbpgafjnfaaaGreatDoor
open Go.ChangeShapes Go.WideShapes Go.ChangeAt Go.RowKit
set_option linter.unusedVariables false

theorem laid_named : Tryz.prog.globalNamed "errors.errorType" = some 0 := by kernel_rfl
theorem laid_rtype : (Tryz.prog.cutTypes.find? (·.1 == "internal/reflectlite.rtype")).map (·.2) = some 262 := by kernel_rfl
theorem laid_one : ((List.range 356).filter fun t => Tryz.prog.rowNamed t [101, 114, 114, 111, 114]) = [56] := by kernel_rfl
theorem laid_size : Tryz.prog.types.size = 356 := by kernel_rfl
abbrev laidArgs : List (String × DataW Unit) := [("errors.errorType", Rows.laid_errors_errorType), ("tontine/frame.remainders", Rows.laid_tontine_frame_remainders)]
theorem laid_none : (laidArgs.filter fun x => x.2.handleName?.isNone) = [("tontine/frame.remainders", Rows.laid_tontine_frame_remainders)] := by kernel_rfl
theorem laid_some : (laidArgs.filter fun x => x.2.handleName?.isSome) = [("errors.errorType", Rows.laid_errors_errorType)] := by kernel_rfl
/-- what the card gives a walk: the variable's one cell -/
theorem errt_of_laid {W : World} (h : laidMetH Tryz.prog laidArgs W) : ErrT W := by
  have h' := (laidMetH_iff.1 h).2
  rw [laid_some] at h'
  obtain ⟨name, u, ty, e1, e2, e3, e4, e5⟩ := h' _ (List.mem_singleton.2 rfl)
  have en : name = [101, 114, 114, 111, 114] := (Option.some.inj e1).symm
  subst en
  obtain rfl := Option.some.inj (laid_rtype.symm.trans e2)
  have hm : ty ∈ (List.range 356).filter fun t => Tryz.prog.rowNamed t [101, 114, 114, 111, 114] := List.mem_filter.2 ⟨List.mem_range.2 (by rw [← laid_size]; exact e3), e4⟩
  rw [laid_one] at hm
  obtain rfl := List.mem_singleton.1 hm
  have hh : typeHandle Tryz.prog 56 = .pointer (some ⟨2, 56, none⟩) := by kernel_rfl
  rw [hh] at e5
  have h8 := World.var?_cell laid_named e5 0
  unfold ErrT
  first
    | exact h8
    | exact h8.trans (by kernel_rfl)
theorem tab_name : Tryz.prog.globalNamed "tontine/frame.remainders" = some 1 := by kernel_rfl
theorem tab_type : (Tryz.prog.globals[1]?).map (·.type) = some 274 := by kernel_rfl
def table : List Int := [0, 274646895, 549293790, 820201905, 1098587580, 1361435347, 1640403810, 1905808397, 2197175160, 2460548119, 2722870694, 2987750089, 3280807620, 3553878443, 3811616794, 4084100981]
theorem tab_at (i : Nat) (h : i < 16) : table.getD i 0 = (shifts 4 i : Nat) := by
  have : ∀ i, i < 16 → table.getD i 0 = (shifts 4 i : Nat) := by decide +kernel
  exact this i h
theorem tab_of_laid {W : World} (h0 : laidMetH Tryz.prog laidArgs W) : Tab W := by
  have h := (laidMetH_iff.1 h0).1
  rw [laid_none] at h
  have h1 : laidMet Tryz.prog (("tontine/frame.remainders", Lib.tabData .u32 table) :: []) W := h
  have h2 := Lib.tabIs_of_head tab_name tab_type Tryz.underlying274 Tryz.underlying24 (by kernel_rfl) (by kernel_rfl) h1
  have h3 : ∀ i, i < 16 → W.cell? ⟨1, i, none⟩ = some (.int .u32 (shifts 4 i : Nat)) := fun i hi => by
    rw [h2.cell tab_name i (by simpa [table] using hi), tab_at i hi]
  exact ⟨World.block_lt_of_cell? W _ (h3 0 (by omega)), h3⟩

theorem byte_cells : Tryz.prog.cellsOf 5 = 1 := by kernel_rfl
theorem byte_bytes : Tryz.prog.bytesOf 5 = 1 := by kernel_rfl

section
variable {H : Type} {enc : TypeId × Value → H} {W : World} {held : Bool}
/-- a slice of bytes by its reading, whatever is read -/
theorem bytes_of_trod {fuel : Nat} {cs0 : List Value} {d : DataW H} {p : List MemPlace} (h : DataW.trod enc Tryz.prog W 0 (fun _ => true) held fuel 54 cs0 = some (d, p)) :
    ∃ ao n cap l, cs0 = [.slice ao n cap] ∧ l.length = n ∧ n ≤ cap ∧ cap ≤ maxLen ∧ Rd W ao l ∧ (n = 0 ∨ ∃ elems spare, d = .slice elems spare ∧ elems.length = n) := by
  rcases open_ints Tryz.underlying54 Tryz.underlying5 byte_cells h with ⟨hcs, hx⟩ | ⟨a, len, cap, zs, hcs, hb, hl, hm, hz, hx, hcell, hwf⟩
  · exact ⟨none, 0, 0, [], hcs, rfl, Nat.le_refl _, Nat.zero_le _, Rd.nil _ _, .inl rfl⟩
  · simp only [if_true] at hz
    have hby : ∀ z ∈ zs, 0 ≤ z ∧ z < 256 := fun z hz => by have := bounds_u8 (hwf z hz); omega
    refine ⟨some a, len, cap, (zs.take len).map Int.toNat, hcs, by simp; omega, hl, hm, ⟨?_, ?_⟩, .inr ⟨_, _, congrArg Prod.fst hx, by simp [lits]; omega⟩⟩
    · intro c hc
      obtain ⟨z, hz1, rfl⟩ := List.mem_map.1 hc
      have := hby z (List.mem_of_mem_take hz1)
      omega
    · intro j hj
      simp at hj
      obtain ⟨b, off, rfl, hc⟩ := ints_at hcell (by omega)
      have h1 := hc j (by omega)
      refine ⟨b, off, rfl, World.block_lt_of_cell? W _ h1, ?_⟩
      rw [h1]
      have hzj : zs[j]? = some (zs.getD j 0) := by simp [List.getD, show j < zs.length by omega]
      have h2 := hby (zs.getD j 0) (List.mem_of_getElem? hzj)
      have e : bt ((zs.take len).map Int.toNat) j = (zs.getD j 0).toNat := by
        unfold bt
        rw [List.getD_eq_getElem?_getD, List.getElem?_map, List.getElem?_take, if_pos (by omega), hzj]
        rfl
      rw [e]
      unfold u8v
      rw [Int.toNat_of_nonneg h2.1]
set_option maxRecDepth 100000 in
theorem bytes_arg {base : Nat} {v : Value} {d : DataW H} {p : List MemPlace} (ok : Value.okWide Tryz.prog W .any base 54 v) (k : DataW.Trod enc Tryz.prog W 0 (fun _ => true) held 54 v d p) :
    ∃ ao n cap l, v = .slice ao n cap ∧ l.length = n ∧ n ≤ cap ∧ cap ≤ maxLen ∧ Rd W ao l ∧ (n = 0 ∨ ∃ elems spare, d = .slice elems spare ∧ elems.length = n) := by
  obtain ⟨a0, len0, cap0, rfl⟩ := okWide_slice Tryz.underlying54 ok
  obtain ⟨fuel, hf⟩ := k
  obtain ⟨ao, n, cap, l, e, h⟩ := bytes_of_trod hf
  have e' : Value.slice a0 len0 cap0 = .slice ao n cap := by simpa [Value.cells] using e
  exact ⟨ao, n, cap, l, e', h⟩
set_option maxRecDepth 100000 in
theorem bytes_size {ts : List TypeId} {ds : List (DataW H)} {d : DataW H} {n : Nat} (hsz : (DataW.weightsEach Tryz.prog ts ds).all (· ≤ reachBytes) = true) (j : Nat) (ht : ts[j]? = some 54) (hd : ds[j]? = some d)
    (h : n = 0 ∨ ∃ elems spare, d = .slice elems spare ∧ elems.length = n) : n ≤ 140737488351232 := by
  rcases h with rfl | ⟨elems, spare, rfl, rfl⟩
  · omega
  · have := sized_slice hsz ht hd Tryz.underlying54
    rw [byte_bytes] at this
    have e : reachBytes = 140737488351232 := rfl
    omega

set_option maxRecDepth 100000 in
theorem string_size {ts : List TypeId} {ds : List (DataW H)} {d : DataW H} (hsz : (DataW.weightsEach Tryz.prog ts ds).all (· ≤ reachBytes) = true) (j : Nat) (ht : ts[j]? = some 9) (hd : ds[j]? = some d)
    {b : ByteArray} {p : List MemPlace} (k : DataW.Trod enc Tryz.prog W 0 (fun _ => true) held 9 (.string b) d p) : b.size ≤ 140737488355328 := by
  obtain ⟨fuel, hf⟩ := k
  obtain ⟨s, e1, e2, e3⟩ := DataW.trod_string Tryz.underlying9 hf
  have e1' : Value.string b = .string s := by simpa [Value.cells] using e1
  cases e1'
  have hd2 : d = .lit (.string b.data.toList) := congrArg Prod.fst e2
  have h9 := sized_string hsz ht (hd2 ▸ hd)
  have e : reachBytes = 140737488351232 := rfl
  have e3 : b.data.toList.length = b.size := rfl
  omega
end
end Go.Proofs.YtngcbpgafjnfaaaGreatDoor
