/- The document's writer: managers, an item. The document's writer: a transaction. -/
import Derived.Test.YtngcbpgafjnfaaaGreatDoorLoB4
set_option linter.unusedSimpArgs false
set_option linter.unusedVariables false

namespace Go.Proofs.YtngcbpgafjnfaaaGreatDoor
open Go.RowKit
set_option linter.unusedVariables false

def mansOut (l : List Int) : List Nat := l.flatMap (wholeOut 1)
theorem mans_ok (l : List Int) : mansC.ok l = (decide (l.length = 3) && l.all node.ok) := rfl
theorem mansOut_enc {l : List Int} (h : mansC.ok l = true) : mansOut l = mansC.enc l := by
  rw [mans_ok, Bool.and_eq_true, List.all_eq_true] at h
  show l.flatMap _ = l.flatMap _
  have : ∀ m : List Int, (∀ x ∈ m, node.ok x = true) → m.flatMap (wholeOut 1) = m.flatMap node.enc := by
    intro m hm
    induction m with
    | nil => rfl
    | cons x m ih => rw [List.flatMap_cons, List.flatMap_cons, wholeOut_enc (hm x (by simp)), ih fun y hy => hm y (by simp [hy])]
  exact this l h.2
/-- an int of 64 bits -/
def I64 (v : Int) : Prop := -9223372036854775808 ≤ v ∧ v ≤ 9223372036854775807

set_option maxHeartbeats 8000000 in
theorem omans_any (P : Nat → Prop) (g : Nat) (l : List Nat) (ok : Bool) (a b c : Int) (ha : I64 a) (hb : I64 b) (hc : I64 c) (hl : l.length + 3 ≤ 140737488355328) (w : World) (h : OutIs w P g l ok) :
    Calls Tryz.prog 172 #[.pointer (some ⟨g, 0, none⟩), .agg #[.int .i64 a, .int .i64 b, .int .i64 c]] w (Wrote w P g (l ++ mansOut [a, b, c]) (ok && mansC.ok [a, b, c])) := by
  have H0 := Lib.hid (h.alloc (.cells #[.int .i64 a, .int .i64 b, .int .i64 c] 31))
  have HS := Lib.hid ((Safe.refl P w).alloc h.lt (.cells #[.int .i64 a, .int .i64 b, .int .i64 c] 31))
  have hq : ∀ k, k < 3 → (w.alloc (.cells #[.int .i64 a, .int .i64 b, .int .i64 c] 31)).cell? ⟨w.heap.size, k, none⟩ = some (.int .i64 ([a, b, c].getD k 0)) := by
    intro k hk
    rcases (by omega : k = 0 ∨ k = 1 ∨ k = 2) with rfl | rfl | rfl <;> go_simp
  have hi : ∀ k, I64 ([a, b, c].getD k 0) := by
    intro k
    by_cases hk : k < 3
    · rcases (by omega : k = 0 ∨ k = 1 ∨ k = 2) with rfl | rfl | rfl
      · exact ha
      · exact hb
      · exact hc
    · simp [List.getD, List.getElem?_eq_none (show [a, b, c].length ≤ k by simp; omega), I64]
  have hm : ∀ k, k < 3 → [a, b, c][k]? = some ([a, b, c].getD k 0) := fun k hk => by simp [List.getD, hk]
  have hlen2 : ∀ k, k < 3 → (([a, b, c].take k).flatMap (wholeOut 1)).length ≤ k := by
    intro k hk
    have h1 := wholeOut_length 1 a
    have h2 := wholeOut_length 1 b
    rcases (by omega : k = 0 ∨ k = 1 ∨ k = 2) with rfl | rfl | rfl <;> simp <;> omega
  have HQ := Lib.hid hq; have HI := Lib.hid hi; have HM := Lib.hid hm; have HN := Lib.hid hlen2
  clear h hq hi hm ha hb hc hlen2
  go_enter Tryz.func172, Tryz.ntmps172
  go_wp2_with fail
  have HE := Lib.hid (show mansC.ok [a, b, c] = ([a, b, c].take 3).all node.ok from by simp [mans_ok])
  have HO3 := Lib.hid (show mansOut [a, b, c] = ([a, b, c].take 3).flatMap (wholeOut 1) from rfl)
  generalize [a, b, c] = m at *
  generalize w.alloc _ = w0 at *
  go_loopw [4] (fun i wr => ∃ (k : Nat), k ≤ 3 ∧ i = .int .i64 (k : Int) ∧ OutIs wr (fun q => P q ∨ q = w.heap.size) g (l ++ (m.take k).flatMap (wholeOut 1)) (ok && (m.take k).all node.ok) ∧ Safe (fun q => P q ∨ q = w.heap.size) w0 wr) (fun i _ => 3 - (intOf i).toNat)
  case atStart => exact ⟨0, by omega, rfl, by simpa using H0.out, Safe.refl _ _⟩
  case round =>
    obtain ⟨k, hk, rfl, ho, hs⟩ := hrel
    have HO := Lib.hid ho
    have HS2 := Lib.hid hs
    clear ho hs
    by_cases hlt : k < 3
    · have hc := (HS2.out.cell (a := ⟨w.heap.size, k, none⟩) (.inr rfl)).trans (HQ.out k hlt)
      have hb := HI.out k
      have HA := Lib.hid (map_more (HM.out k hlt) (wholeOut 1))
      have HK := Lib.hid (all_more (HM.out k hlt) node.ok)
      generalize m.getD k 0 = x at *
      obtain ⟨hx1, hx2⟩ := hb
      have T := Lib.hid (owhole_any _ g _ _ x hx2 1 (by omega) (by have := HN.out k hlt; simp only [List.length_append]; omega) 255 wr HO.out)
      go_wp2_with fail
      refine T.out.mono ?_
      rintro e wa ⟨rfl, q1, q2⟩
      have Q1 := Lib.hid q1
      have Q2 := Lib.hid (HS2.out.trans q2)
      clear q1 q2 hc
      go_wp2_with fail
      go_roundw
      case rel =>
        refine ⟨k + 1, by omega, by go_num, ?_, Q2.out⟩
        have q := Q1.out
        rw [HA.out, HK.out]
        simpa only [List.append_assoc, Bool.and_assoc] using q
      case measure => simp [intOf]; omega
    · obtain rfl : k = 3 := by omega
      go_wp2_with fail
      go_end0
      rw [HE.out, HO3.out]
      exact ⟨rfl, HO.out.mono fun q hq => .inl hq, HS.out.trans (HS2.out.mono fun q hq => .inl hq)⟩

/-- an item by its cells -/
def ItmIs (w : World) (P : Nat → Prop) (cs : List Value) (i : Itm) : Prop :=
  ∃ ao n cap i0 i1 i2 i3, cs = [.int .i64 i.bucket, .int .u32 (i.ver : Int), .bool i.write, .slice ao n cap, .int .u32 ((i0 : Nat) : Int), .int .u32 ((i1 : Nat) : Int), .int .u32 ((i2 : Nat) : Int), .int .u32 ((i3 : Nat) : Int)] ∧
    i.incs = [i0, i1, i2, i3] ∧ EntsIs w P ao n cap i.data ∧ I64 i.bucket ∧ i.ver ≤ 4294967295 ∧ i0 ≤ 4294967295 ∧ i1 ≤ 4294967295 ∧ i2 ≤ 4294967295 ∧ i3 ≤ 4294967295
theorem ItmIs.safe {w w' : World} {P : Nat → Prop} {cs : List Value} {i : Itm} (h : ItmIs w P cs i) (b : Safe P w w') : ItmIs w' P cs i := by
  obtain ⟨ao, n, cap, i0, i1, i2, i3, h1, h2, h3, h4⟩ := h
  exact ⟨ao, n, cap, i0, i1, i2, i3, h1, h2, h3.safe b, h4⟩
/-- what the writer lays of an item -/
def itmOut (i : Itm) : List Nat := wholeOut 1 i.bucket ++ (le 4 i.ver ++ (flag.enc i.write ++ (i.incs.flatMap (le 4) ++ (if i.write then listOut 8 entC i.data else []))))
theorem itm_ok (i : Itm) : itmC.ok i = (bucketC.ok i.bucket && (four_.ok i.ver && ((rep four_ 4).ok i.incs && (dataC i.write).ok i.data))) := by
  show (true && (bucketC.ok i.bucket && (four_.ok i.ver && (flag.ok i.write && ((rep four_ 4).ok i.incs && (dataC i.write).ok i.data))))) = _
  have : flag.ok i.write = true := by cases i.write <;> rfl
  rw [this, Bool.true_and, Bool.true_and]
theorem itmOut_enc {i : Itm} (h : itmC.ok i = true) : itmOut i = itmC.enc i := by
  have h' := h
  rw [itm_ok] at h'
  simp only [Bool.and_eq_true] at h'
  show _ = bucketC.enc i.bucket ++ (four_.enc i.ver ++ (flag.enc i.write ++ ((rep four_ 4).enc i.incs ++ (dataC i.write).enc i.data)))
  rw [itmOut, wholeOut_enc h'.1]
  congr 4
  cases e : i.write
  · rfl
  · rw [e] at h'
    exact listOut_enc h'.2.2.2
theorem SlIs.mono {α : Type} {size : Nat} {is : World → (Nat → Prop) → List Value → α → Prop} {w : World} {P Q : Nat → Prop} {ao : Option Addr} {n cap : Nat} {l : List α} (hi : ∀ cs a, is w P cs a → is w Q cs a)
    (h : SlIs size is w P ao n cap l) (hq : ∀ k, P k → Q k) : SlIs size is w Q ao n cap l :=
  ⟨h.1, h.2.1, h.2.2.1, fun i a ha => by
    obtain ⟨g, o, cs, h1, h2, h3, h4⟩ := h.2.2.2 i a ha
    exact ⟨g, o, cs, h1, hq g h2, hi _ _ h3, h4⟩⟩
theorem EntsIs.mono {w : World} {P Q : Nat → Prop} {ao : Option Addr} {n cap : Nat} {l : List Ent} (h : EntsIs w P ao n cap l) (hq : ∀ k, P k → Q k) : EntsIs w Q ao n cap l := SlIs.mono (is := EntIs) (P := P) (Q := Q) (fun _ _ h => h) h hq
theorem four_ok {v : Nat} (h : v ≤ 4294967295) : decide (v ≤ 4294967295) = true := decide_eq_true h

set_option maxHeartbeats 16000000 in
theorem oitem_any (P : Nat → Prop) (g : Nat) (l : List Nat) (ok : Bool) (i : Itm) (cs : List Value) (w : World) (hi : ItmIs w P cs i) (hl : (l ++ itmOut i).length ≤ 140737488355328) (h : OutIs w P g l ok) :
    Calls Tryz.prog 173 #[.pointer (some ⟨g, 0, none⟩), .agg cs.toArray] w (Wrote w P g (l ++ itmOut i) (ok && itmC.ok i)) := by
  obtain ⟨ao, n, cap, i0, i1, i2, i3, rfl, hinc, hd, ⟨hb1, hb2⟩, hv, h0, h1, h2, h3⟩ := hi
  obtain ⟨bucket, ver, write, data, incs⟩ := i
  simp only at hinc hd hb1 hb2 hv ⊢
  subst hinc
  have HLL := Lib.hid (show l.length + (wholeOut 1 bucket).length + 4 + 1 + 16 + (if write then listOut 8 entC data else []).length ≤ 140737488355328 by
    have e : (flag.enc write).length = 1 := by cases write <;> rfl
    simp only [itmOut, List.length_append, le_length, e, List.flatMap_cons, List.flatMap_nil, List.length_nil] at hl
    omega)
  generalize hbx : (Obj.cells #[.int .i64 bucket, .int .u32 (ver : Int), .bool write, .slice ao n cap, .int .u32 ((i0 : Nat) : Int), .int .u32 ((i1 : Nat) : Int), .int .u32 ((i2 : Nat) : Int), .int .u32 ((i3 : Nat) : Int)] 187) = ob
  have H0 := h.alloc ob
  have HS := Lib.hid ((Safe.refl P w).alloc h.lt ob)
  have HD := Lib.hid ((hd.safe HS.out).mono (Q := fun q => P q ∨ q = w.heap.size) fun k hk => .inl hk)
  have hc : ∀ wr, Safe (fun q => P q ∨ q = w.heap.size) (w.alloc ob) wr → wr.cell? ⟨w.heap.size, 0, none⟩ = some (.int .i64 bucket) ∧ wr.cell? ⟨w.heap.size, 1, none⟩ = some (.int .u32 (ver : Int)) ∧ wr.cell? ⟨w.heap.size, 2, none⟩ = some (.bool write) ∧ wr.cell? ⟨w.heap.size, 3, none⟩ = some (.slice ao n cap) ∧
      ∀ k, k < 4 → wr.cell? ⟨w.heap.size, 4 + k, none⟩ = some (.int .u32 ((bt [i0, i1, i2, i3] k : Nat) : Int)) := by
    intro wr hs
    have hx : ∀ j, wr.cell? ⟨w.heap.size, j, none⟩ = (w.alloc ob).cell? ⟨w.heap.size, j, none⟩ := fun j => hs.cell (a := ⟨w.heap.size, j, none⟩) (.inr rfl)
    subst hbx
    refine ⟨?_, ?_, ?_, ?_, fun k hk => ?_⟩
    · rw [hx]; go_simp
    · rw [hx]; go_simp
    · rw [hx]; go_simp
    · rw [hx]; go_simp
    · rw [hx]
      rcases (by omega : k = 0 ∨ k = 1 ∨ k = 2 ∨ k = 3) with rfl | rfl | rfl | rfl <;> go_simp <;> rfl
  have HC := Lib.hid hc
  have T1 := Lib.hid (owhole_any _ g l ok bucket hb2 1 (by omega) (by have := HLL.out; omega) 63 (w.alloc ob) H0)
  have HV := Lib.hid hv
  have HI4 := Lib.hid (show ∀ k, bt [i0, i1, i2, i3] k ≤ 4294967295 from fun k => by
    by_cases hk : k < 4
    · rcases (by omega : k = 0 ∨ k = 1 ∨ k = 2 ∨ k = 3) with rfl | rfl | rfl | rfl
      · exact h0
      · exact h1
      · exact h2
      · exact h3
    · simp [bt, List.getD, List.getElem?_eq_none (show [i0, i1, i2, i3].length ≤ k by simp; omega)])
  have HOK := Lib.hid (show itmC.ok ⟨bucket, ver, write, data, [i0, i1, i2, i3]⟩ = (bucketC.ok bucket && (dataC write).ok data) by
    rw [itm_ok]
    have e1 : four_.ok ver = true := four_ok hv
    have e2 : (rep four_ 4).ok [i0, i1, i2, i3] = true := by
      show (decide (4 = 4) && (four_.ok i0 && (four_.ok i1 && (four_.ok i2 && (four_.ok i3 && true))))) = true
      rw [show four_.ok i0 = true from four_ok h0, show four_.ok i1 = true from four_ok h1, show four_.ok i2 = true from four_ok h2, show four_.ok i3 = true from four_ok h3]
      rfl
    rw [e1, e2, Bool.true_and, Bool.true_and])
  have HOUT := Lib.hid (show itmOut ⟨bucket, ver, write, data, [i0, i1, i2, i3]⟩ = wholeOut 1 bucket ++ (le 4 ver ++ (flag.enc write ++ (([i0, i1, i2, i3].take 4).flatMap (le 4) ++ (if write then listOut 8 entC data else [])))) from rfl)
  have HLE := Lib.hid (show ∀ k, (([i0, i1, i2, i3].take k).flatMap (le 4)).length ≤ 4 * k from fun k => by
    by_cases hk : k < 4
    · rcases (by omega : k = 0 ∨ k = 1 ∨ k = 2 ∨ k = 3) with rfl | rfl | rfl | rfl <;> simp [le_length]
    · rw [List.take_of_length_le (by simp; omega)]; simp [le_length]; omega)
  have HGET := Lib.hid (show ∀ k, k < 4 → [i0, i1, i2, i3][k]? = some (bt [i0, i1, i2, i3] k) from fun k hk => bt_get (by simpa using hk))
  have hwn := wholeOut_length 1 bucket
  have c0 := (hc _ (Safe.refl _ _)).1
  clear H0 hc h hd hv h0 h1 h2 h3 hl
  rw [← hbx] at T1 HC HS HD c0
  clear hbx
  generalize hw0 : w.alloc _ = w0 at T1 HC HS HD c0
  have HP := Lib.hid (show ∀ k, P k → (fun q => P q ∨ q = w.heap.size) k from fun k hk => .inl hk)
  generalize (fun q => P q ∨ q = w.heap.size) = P' at T1 HC HD HP
  have HW0 := Lib.hid hw0
  clear hw0
  generalize itmOut _ = O at HOUT ⊢
  generalize itmC.ok _ = K2 at HOK ⊢
  go_enter Tryz.func173, Tryz.ntmps173
  go_wp2_with fail
  rw [HW0.out]
  refine T1.out.mono ?_
  rintro e w1 ⟨rfl, q1, q2⟩
  have Q2 := Lib.hid q2
  have T2 := Lib.hid (onum_any _ g _ _ ver (by have := HV.out; omega) 4 (by omega) (by have := HLL.out; simp only [List.length_append]; omega) 4294967295 w1 q1)
  have c1 := (HC.out w1 q2).2.1
  clear c0 q1 q2 HW0
  have hv := HV.out
  go_wp2_with fail
  clear hv
  refine T2.out.mono ?_
  rintro e w2 ⟨rfl, q1, q2⟩
  have Q3 := Lib.hid (Q2.out.trans q2)
  have T3 := Lib.hid (oflag_any _ g _ _ (by have := HLL.out; simp only [List.length_append, le_length]; omega) write w2 q1)
  have c2 := (HC.out w2 Q3.out).2.2.1
  clear c1 q1 q2
  go_wp2_with fail
  refine T3.out.mono ?_
  rintro e w3 ⟨rfl, q1, q2⟩
  have Q4 := Lib.hid (Q3.out.trans q2)
  have Q5 := Lib.hid q1
  clear c2 q1 q2
  go_wp2_with fail
  have HX := Lib.hid (show O = wholeOut 1 bucket ++ (le 4 ver ++ (flag.enc write ++ (([i0, i1, i2, i3].take 4).flatMap (le 4) ++ (if write then listOut 8 entC data else [])))) from HOUT.out)
  clear HOUT
  have HV2 := Lib.hid (four_ok HV.out)
  go_loopw [4] (fun i wr => ∃ (k : Nat), k ≤ 4 ∧ i = .int .i64 (k : Int) ∧ OutIs wr P' g (l ++ wholeOut 1 bucket ++ le 4 ver ++ flag.enc write ++ ([i0, i1, i2, i3].take k).flatMap (le 4)) (ok && (whole 1 63).ok bucket) ∧ Safe P' w0 wr) (fun i _ => 4 - (intOf i).toNat)
  case atStart => exact ⟨0, by omega, rfl, by have q := Q5.out; rw [HV2.out, Bool.and_true] at q; simpa using q, Q4.out⟩
  case round =>
    obtain ⟨k, hk, rfl, ho, hs⟩ := hrel
    have HO := Lib.hid ho
    have HS2 := Lib.hid hs
    clear ho hs
    by_cases hlt : k < 4
    · have hc := (HC.out wr HS2.out).2.2.2.2 k hlt
      have hb := HI4.out k
      have HA := Lib.hid (map_more (HGET.out k hlt) (le 4))
      have hle := HLE.out k
      generalize bt [i0, i1, i2, i3] k = x at *
      have T := Lib.hid (onum_any _ g _ _ x (by omega) 4 (by omega) (by have := HLL.out; have e : (flag.enc write).length = 1 := (by cases write <;> rfl); simp only [List.length_append, le_length, e]; omega) 4294967295 wr HO.out)
      go_wp2_with fail
      refine T.out.mono ?_
      rintro e wa ⟨rfl, q1, q2⟩
      have Q1 := Lib.hid q1
      have Q2 := Lib.hid (HS2.out.trans q2)
      have HF := Lib.hid (four_ok hb)
      clear q1 q2 hc hb
      go_wp2_with fail
      go_roundw
      case rel =>
        refine ⟨k + 1, by omega, by go_num, ?_, Q2.out⟩
        have q := Q1.out
        rw [HF.out, Bool.and_true] at q
        rw [HA.out]
        simpa only [List.append_assoc] using q
      case measure => simp [intOf]; omega
    · obtain rfl : k = 4 := by omega
      have c2 := (HC.out wr HS2.out).2.2.1
      have c3 := (HC.out wr HS2.out).2.2.2.1
      cases write
      · obtain ⟨ao5, n5, cap5, ho, hof⟩ := HO.out
        have HN := HD.out.1
        have HZ := Lib.hid (show (ok && K2) = ((ok && (whole 1 63).ok bucket) && data.isEmpty) by rw [HOK.out, ← Bool.and_assoc]; rfl)
        have HY := Lib.hid (show l ++ O = l ++ wholeOut 1 bucket ++ le 4 ver ++ flag.enc false ++ ([i0, i1, i2, i3].take 4).flatMap (le 4) by rw [HX.out]; simp)
        have HEM := Lib.hid (show data.isEmpty = ((n : Int) == 0) by rw [← HN]; cases data <;> simp <;> omega)
        generalize (ok && (whole 1 63).ok bucket) = okx at ho HZ
        have d1 := ho.c1
        have f1 := ho.f1
        have HO5 := Lib.hid (ho.put (okx && data.isEmpty))
        have HF5 := Lib.hid (hof.put HS2.out (.bool (okx && data.isEmpty)) 1)
        clear ho hof HN
        cases okx
        all_goals
          simp only [Bool.false_and, Bool.true_and] at HO5 HF5 HZ
          try rw [HEM.out] at HO5 HF5 HZ
          go_wp2_with fail
          go_end0
          rw [HZ.out, HY.out]
          exact ⟨rfl, ⟨ao5, n5, cap5, HO5.out, fun b hb => HF5.out.2 b (HP.out b hb)⟩, HS.out.trans (HF5.out.1.mono HP.out)⟩
      · have T4 := Lib.hid (oentries_any _ g _ _ ao n cap data (by have := HLL.out; have e : (flag.enc true).length = 1 := rfl; simp only [List.length_append, le_length, e, if_true] at this ⊢; have := HLE.out 4; omega) wr (HD.out.safe HS2.out) HO.out)
        go_wp2_with fail
        refine T4.out.mono ?_
        rintro e wa ⟨rfl, q1, q2⟩
        have Q1 := Lib.hid q1
        have Q2 := Lib.hid (HS2.out.trans q2)
        clear q1 q2 c2 c3
        go_wp2_with fail
        go_end0
        rw [HX.out, HOK.out]
        simp only [if_true]
        refine ⟨rfl, ?_, HS.out.trans (Q2.out.mono HP.out)⟩
        show OutIs wa P g _ (ok && ((whole 1 63).ok bucket && entsC.ok data))
        have q := Q1.out.mono HP.out
        simpa only [List.append_assoc, Bool.and_assoc] using q
end Go.Proofs.YtngcbpgafjnfaaaGreatDoor


namespace Go.Proofs.YtngcbpgafjnfaaaGreatDoor
open Go.RowKit
set_option linter.unusedVariables false

abbrev ItmsIs := @SlIs Itm 8 ItmIs
theorem ItmIs.mono {w : World} {P Q : Nat → Prop} {cs : List Value} {i : Itm} (h : ItmIs w P cs i) (hq : ∀ k, P k → Q k) : ItmIs w Q cs i := by
  obtain ⟨ao, n, cap, i0, i1, i2, i3, h1, h2, h3, h4⟩ := h
  exact ⟨ao, n, cap, i0, i1, i2, i3, h1, h2, h3.mono hq, h4⟩
theorem ItmsIs.safe {w w' : World} {P : Nat → Prop} {ao : Option Addr} {n cap : Nat} {l : List Itm} (h : ItmsIs w P ao n cap l) (b : Safe P w w') : ItmsIs w' P ao n cap l := SlIs.safe (w := w) (w' := w') (is := ItmIs) (fun _ _ h => h.safe b) h b
theorem ItmsIs.mono {w : World} {P Q : Nat → Prop} {ao : Option Addr} {n cap : Nat} {l : List Itm} (h : ItmsIs w P ao n cap l) (hq : ∀ k, P k → Q k) : ItmsIs w Q ao n cap l := SlIs.mono (is := ItmIs) (P := P) (Q := Q) (fun _ _ h => h.mono hq) h hq
/-- a transaction by its cells -/
def TxnIs (w : World) (P : Nat → Prop) (cs : List Value) (t : Txn) : Prop :=
  ∃ ao n cap a b c, cs = [.int .u64 (t.id : Int), .int .i64 t.client, .int .i64 a, .int .i64 b, .int .i64 c, .slice ao n cap] ∧ t.mans = [a, b, c] ∧ ItmsIs w P ao n cap t.items ∧ I64 t.client ∧ I64 a ∧ I64 b ∧ I64 c ∧ t.id < 18446744073709551616
/-- what the writer lays of a transaction -/
def txOut (t : Txn) : List Nat := le 8 t.id ++ (wholeOut 4 t.client ++ (mansOut t.mans ++ (le 1 t.items.length ++ (t.items.take 8).flatMap itmOut)))
theorem flat_same {α : Type} {f g : α → List Nat} {l : List α} (h : ∀ a ∈ l, f a = g a) : l.flatMap f = l.flatMap g := by
  induction l with
  | nil => rfl
  | cons a l ih => rw [List.flatMap_cons, List.flatMap_cons, h a (by simp), ih fun b hb => h b (by simp [hb])]
theorem tx_ok (t : Txn) : txC.ok t = (eight.ok t.id && ((whole 4 2147483647).ok t.client && (mansC.ok t.mans && (list 8 itmC).ok t.items))) := by
  show (true && _) = _
  rw [Bool.true_and]
  rfl
theorem txOut_enc {t : Txn} (h : txC.ok t = true) : txOut t = txC.enc t := by
  rw [tx_ok] at h
  simp only [Bool.and_eq_true] at h
  show _ = eight.enc t.id ++ ((whole 4 2147483647).enc t.client ++ (mansC.enc t.mans ++ (list 8 itmC).enc t.items))
  rw [txOut, wholeOut_enc h.2.1, mansOut_enc h.2.2.1, list_enc]
  have h2 := h.2.2.2
  rw [list_ok, Bool.and_eq_true, List.all_eq_true, decide_eq_true_eq] at h2
  rw [List.take_of_length_le h2.1, flat_same fun a ha => itmOut_enc (h2.2 a ha)]
  rfl

set_option maxHeartbeats 16000000 in
theorem otx_any (P : Nat → Prop) (g : Nat) (l : List Nat) (ok : Bool) (t : Txn) (cs : List Value) (w : World) (hi : TxnIs w P cs t) (hl : (l ++ txOut t).length + 16 ≤ 140737488355328) (h : OutIs w P g l ok) :
    Calls Tryz.prog 140 #[.pointer (some ⟨g, 0, none⟩), .agg cs.toArray] w (Wrote w P g (l ++ txOut t) (ok && txC.ok t)) := by
  obtain ⟨ao, n, cap, a, b, c, rfl, hman, hd, ⟨hb1, hb2⟩, ha, hb, hc3, hid⟩ := hi
  obtain ⟨id, client, mans, items⟩ := t
  simp only at hman hd hb1 hb2 hid ⊢
  subst hman
  have hn : n ≤ 9223372036854775807 := Nat.le_trans hd.2.1 hd.2.2.1
  have hil := hd.1
  have HLL := Lib.hid (show l.length + 8 + (wholeOut 4 client).length + (mansOut [a, b, c]).length + 1 + ((items.take 8).flatMap itmOut).length + 16 ≤ 140737488355328 by
    simp only [txOut, List.length_append, le_length] at hl
    omega)
  generalize hbx : (Obj.cells #[.int .u64 (id : Int), .int .i64 client, .int .i64 a, .int .i64 b, .int .i64 c, .slice ao n cap] 34) = ob
  have H0 := h.alloc ob
  have HS := Lib.hid ((Safe.refl P w).alloc h.lt ob)
  have HD := Lib.hid ((hd.safe HS.out).mono (Q := fun q => P q ∨ q = w.heap.size) fun k hk => .inl hk)
  have hc : ∀ wr, Safe (fun q => P q ∨ q = w.heap.size) (w.alloc ob) wr → wr.cell? ⟨w.heap.size, 0, none⟩ = some (.int .u64 (id : Int)) ∧ wr.cell? ⟨w.heap.size, 1, none⟩ = some (.int .i64 client) ∧ (wr.cell? ⟨w.heap.size, 2, none⟩ = some (.int .i64 a) ∧ wr.cell? ⟨w.heap.size, 3, none⟩ = some (.int .i64 b) ∧ wr.cell? ⟨w.heap.size, 4, none⟩ = some (.int .i64 c)) ∧
      wr.cell? ⟨w.heap.size, 5, none⟩ = some (.slice ao n cap) := by
    intro wr hs
    have hx : ∀ j, wr.cell? ⟨w.heap.size, j, none⟩ = (w.alloc ob).cell? ⟨w.heap.size, j, none⟩ := fun j => hs.cell (a := ⟨w.heap.size, j, none⟩) (.inr rfl)
    subst hbx
    refine ⟨?_, ?_, ⟨?_, ?_, ?_⟩, ?_⟩ <;> (rw [hx]; go_simp)
  have HC := Lib.hid hc
  have T1 := Lib.hid (onum_any _ g l ok id hid 8 (by omega) (by have := HLL.out; omega) 18446744073709551615 (w.alloc ob) H0)
  have HOK := Lib.hid (show txC.ok ⟨id, client, [a, b, c], items⟩ = ((whole 4 2147483647).ok client && (mansC.ok [a, b, c] && (list 8 itmC).ok items)) by
    rw [tx_ok]
    have e1 : eight.ok id = true := decide_eq_true (by omega)
    rw [e1, Bool.true_and])
  have HOUT := Lib.hid (show txOut ⟨id, client, [a, b, c], items⟩ = le 8 id ++ (wholeOut 4 client ++ (mansOut [a, b, c] ++ (le 1 n ++ (items.take 8).flatMap itmOut))) by rw [← hil]; rfl)
  have HID := Lib.hid (show decide (id ≤ 18446744073709551615) = true from decide_eq_true (by omega))
  have hwn := wholeOut_length 4 client
  have c0 := (hc _ (Safe.refl _ _)).1
  rw [← hbx] at T1 HC HS HD c0
  clear H0 hc h hd hl hbx
  generalize hw0 : w.alloc _ = w0 at T1 HC HS HD c0
  have HP := Lib.hid (show ∀ k, P k → (fun q => P q ∨ q = w.heap.size) k from fun k hk => .inl hk)
  generalize (fun q => P q ∨ q = w.heap.size) = P' at T1 HC HD HP
  have HW0 := Lib.hid hw0
  clear hw0
  generalize txOut _ = O at HOUT ⊢
  generalize txC.ok _ = K2 at HOK ⊢
  go_enter Tryz.func140, Tryz.ntmps140
  go_wp2_with fail
  rw [HW0.out]
  refine T1.out.mono ?_
  rintro e w1 ⟨rfl, q1, q2⟩
  rw [HID.out, Bool.and_true] at q1
  have Q2 := Lib.hid q2
  have T2 := Lib.hid (owhole_any _ g _ _ client hb2 4 (by omega) (by have := HLL.out; simp only [List.length_append, le_length]; omega) 2147483647 w1 q1)
  have c1 := (HC.out w1 q2).2.1
  clear c0 q1 q2 HW0
  go_wp2_with fail
  refine T2.out.mono ?_
  rintro e w2 ⟨rfl, q1, q2⟩
  have Q3 := Lib.hid (Q2.out.trans q2)
  have T3 := Lib.hid (omans_any _ g _ _ a b c ha hb hc3 (by have := HLL.out; simp only [List.length_append, le_length]; omega) w2 q1)
  obtain ⟨m0, m1, m2⟩ := (HC.out w2 Q3.out).2.2.1
  clear c1 q1 q2
  go_wp2_with fail
  refine T3.out.mono ?_
  rintro e w3 ⟨rfl, q1, q2⟩
  have Q4 := Lib.hid (Q3.out.trans q2)
  have T4 := Lib.hid (onum_any _ g _ _ n (by omega) 1 (by omega) (by have := HLL.out; simp only [List.length_append, le_length]; omega) 8 w3 q1)
  have c5 := (HC.out w3 Q4.out).2.2.2
  clear m0 m1 m2 q1 q2
  go_wp2_with fail
  refine T4.out.mono ?_
  rintro e w4 ⟨rfl, q1, q2⟩
  have Q5 := Lib.hid (Q4.out.trans q2)
  have Q6 := Lib.hid q1
  clear c5 q1 q2
  go_wp2_with fail
  go_loopw [4] (fun i wr => ∃ (k : Nat), k ≤ n ∧ k ≤ 8 ∧ i = .int .i64 (k : Int) ∧ OutIs wr P' g (l ++ le 8 id ++ wholeOut 4 client ++ mansOut [a, b, c] ++ le 1 n ++ (items.take k).flatMap itmOut) (ok && (whole 4 2147483647).ok client && mansC.ok [a, b, c] && decide (n ≤ 8) && (items.take k).all itmC.ok) ∧ Safe P' w0 wr) (fun i _ => 8 - (intOf i).toNat)
  case atStart => exact ⟨0, by omega, by omega, rfl, by simpa using Q6.out, Q5.out⟩
  case round =>
    obtain ⟨k, hk, hk8, rfl, ho, hs⟩ := hrel
    have HO := Lib.hid ho
    have HS2 := Lib.hid hs
    clear ho hs
    have c5 := (HC.out wr HS2.out).2.2.2
    by_cases hlt : k < n
    · by_cases h8 : k < 8
      · obtain ⟨x, hx⟩ := HD.out.lt hlt
        have hd2 := HD.out.safe HS2.out
        obtain ⟨g2, o2, cs2, e1, hg2, e2, e3⟩ := hd2.2.2.2 k x hx
        have HI := Lib.hid e2
        obtain ⟨ao3, n3, cap3, i0, i1, i2, i3, e4, _⟩ := e2
        subst e1
        have k0 : wr.cell? ⟨g2, o2 + k * 8, none⟩ = some (.int .i64 x.bucket) := e3 0 _ (by rw [e4]; rfl)
        have k1 : wr.cell? ⟨g2, o2 + k * 8 + 1, none⟩ = some (.int .u32 (x.ver : Int)) := e3 1 _ (by rw [e4]; rfl)
        have k2 : wr.cell? ⟨g2, o2 + k * 8 + 2, none⟩ = some (.bool x.write) := e3 2 _ (by rw [e4]; rfl)
        have k3 : wr.cell? ⟨g2, o2 + k * 8 + 3, none⟩ = some (.slice ao3 n3 cap3) := e3 3 _ (by rw [e4]; rfl)
        have k4 : wr.cell? ⟨g2, o2 + k * 8 + 4, none⟩ = some (.int .u32 ((i0 : Nat) : Int)) := e3 4 _ (by rw [e4]; rfl)
        have k5 : wr.cell? ⟨g2, o2 + k * 8 + 5, none⟩ = some (.int .u32 ((i1 : Nat) : Int)) := e3 5 _ (by rw [e4]; rfl)
        have k6 : wr.cell? ⟨g2, o2 + k * 8 + 6, none⟩ = some (.int .u32 ((i2 : Nat) : Int)) := e3 6 _ (by rw [e4]; rfl)
        have k7 : wr.cell? ⟨g2, o2 + k * 8 + 7, none⟩ = some (.int .u32 ((i3 : Nat) : Int)) := e3 7 _ (by rw [e4]; rfl)
        rw [e4] at HI
        have HA := Lib.hid (map_more hx itmOut)
        have HK := Lib.hid (all_more hx itmC.ok)
        have hlen := take_len items itmOut (show k + 1 ≤ 8 by omega)
        rw [HA.out, List.length_append] at hlen
        have T := Lib.hid (oitem_any _ g _ _ x _ wr HI.out (by have := HLL.out; simp only [List.length_append, le_length]; omega) HO.out)
        clear hlen e3 e4 hd2 hg2
        go_wp2_with fail
        refine T.out.mono ?_
        rintro e wa ⟨rfl, q1, q2⟩
        have Q1 := Lib.hid q1
        have Q2 := Lib.hid (HS2.out.trans q2)
        clear q1 q2 k0 k1 k2 k3 k4 k5 k6 k7 c5
        go_wp2_with fail
        go_roundw
        case rel =>
          refine ⟨k + 1, by omega, by omega, by go_num, ?_, Q2.out⟩
          have q := Q1.out
          rw [HA.out, HK.out]
          simpa only [List.append_assoc, Bool.and_assoc] using q
        case measure => simp [intOf]; omega
      · obtain rfl : k = 8 := by omega
        go_wp2_with fail
        go_end0
        rw [HOUT.out, HOK.out, ← listMay_ok, listMay, hil]
        refine ⟨rfl, ?_, HS.out.trans (HS2.out.mono HP.out)⟩
        have q := HO.out.mono HP.out
        simpa only [List.append_assoc, Bool.and_assoc] using q
    · obtain rfl : n = k := by omega
      go_wp2_with fail
      go_end0
      rw [HOUT.out, HOK.out, ← listMay_ok, listMay, hil, List.take_of_length_le (show items.length ≤ 8 by omega)]
      refine ⟨rfl, ?_, HS.out.trans (HS2.out.mono HP.out)⟩
      have q := HO.out.mono HP.out
      rw [List.take_of_length_le (show items.length ≤ n by omega)] at q
      simpa only [List.append_assoc, Bool.and_assoc] using q
end Go.Proofs.YtngcbpgafjnfaaaGreatDoor
