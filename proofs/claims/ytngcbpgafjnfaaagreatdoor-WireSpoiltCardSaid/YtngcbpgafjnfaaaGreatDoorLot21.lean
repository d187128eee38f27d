/- The argument of the fourth law of wire: a message, a place, a byte and bytes. -/
import Derived.Test.YtngcbpgafjnfaaaGreatDoorLot20

namespace Go.Proofs.YtngcbpgafjnfaaaGreatDoor
open Go.ChangeShapes Go.WideShapes Go.ChangeAt Go.RowKit Go.Deep
set_option linter.unusedVariables false

section
variable {H : Type} {enc : TypeId × Value → H} {W : World} {held : Bool}
set_option maxRecDepth 100000 in
set_option maxHeartbeats 2000000 in
theorem spoilt_arg {ts : List TypeId} {ds : List (DataW H)} (hsz : (DataW.weightsEach Tryz.prog ts ds).all (· ≤ reachBytes) = true) {d : DataW H} (j : Nat) (ht : ts[j]? = some 75) (hd : ds[j]? = some d)
    {base : Nat} {v : Value} {p : List MemPlace} (ok : Value.okWide Tryz.prog W .any base 75 v) (k : DataW.Trod enc Tryz.prog W 0 (fun _ => true) held 75 v d p) :
    ∃ (m : Ms) (cs : List Value) (at_ : Int) (by_ : Nat) (mo : Option Addr) (mn mc : Nat) (ml : List Nat), v = .agg (spCs cs at_ by_ mo mn mc) ∧ I64 m.kind ∧ cs.length = 49 ∧ cs[0]? = some (.int .i64 m.kind) ∧ I64 at_ ∧ by_ < 256 ∧
      ml.length = mn ∧ mn ≤ 140737488351232 ∧ Rd W mo ml ∧ SlIn W (Old W) cs (slotsOf m) := by
  obtain ⟨A, rfl, hA⟩ := okWide_struct Tryz.underlying75 ok
  have hA2 : A.toList.length = 52 := by
    rw [Array.length_toList, hA]; kernel_rfl
  clear hA ok
  obtain ⟨fuel, hf⟩ := k
  have hce : (Value.agg A).cells = A := rfl
  rw [hce] at hf
  obtain ⟨L, hL⟩ : ∃ L, L = A.toList := ⟨_, rfl⟩
  rw [← hL] at hf hA2
  obtain rfl : A = L.toArray := by rw [hL]
  clear hL hce
  obtain ⟨c0, c1, c2, e3⟩ := list3 (L.drop 49) (by rw [List.length_drop, hA2])
  obtain ⟨C, hC⟩ : ∃ C, C = L.take 49 := ⟨_, rfl⟩
  have hCl : C.length = 49 := by rw [hC, List.length_take, hA2]; rfl
  obtain rfl : L = C ++ [c0, c1, c2] := by rw [hC, ← e3, List.take_append_drop]
  clear hC e3
  obtain ⟨xs, n2, _, hy, _, hlen, hf2⟩ := DataW.trod_struct Tryz.underlying75 hf
  obtain ⟨y0, y1, y2, y3, rfl⟩ := list4 xs hlen
  have t0 : DataW.trod enc Tryz.prog W 0 (fun _ => true) held n2 52 (((C ++ [c0, c1, c2]).drop 0).take (Tryz.prog.cellsOf 52)) = some y0 := hf2 0 _ rfl
  have t1 : DataW.trod enc Tryz.prog W 0 (fun _ => true) held n2 3 (((C ++ [c0, c1, c2]).drop 49).take (Tryz.prog.cellsOf 3)) = some y1 := hf2 1 _ rfl
  have t2 : DataW.trod enc Tryz.prog W 0 (fun _ => true) held n2 5 (((C ++ [c0, c1, c2]).drop 50).take (Tryz.prog.cellsOf 5)) = some y2 := hf2 2 _ rfl
  have t3 : DataW.trod enc Tryz.prog W 0 (fun _ => true) held n2 54 (((C ++ [c0, c1, c2]).drop 51).take (Tryz.prog.cellsOf 54)) = some y3 := hf2 3 _ rfl
  rw [show Tryz.prog.cellsOf 52 = 49 by kernel_rfl, List.drop_zero, ← hCl, List.take_left] at t0
  have d49 : (C ++ [c0, c1, c2]).drop 49 = [c0, c1, c2] := by rw [← hCl, List.drop_left]
  have d50 : (C ++ [c0, c1, c2]).drop 50 = [c1, c2] := by rw [show 50 = 49 + 1 from rfl, ← List.drop_drop, d49]; rfl
  have d51 : (C ++ [c0, c1, c2]).drop 51 = [c2] := by rw [show 51 = 49 + 2 from rfl, ← List.drop_drop, d49]; rfl
  rw [show Tryz.prog.cellsOf 3 = 1 by kernel_rfl, d49] at t1
  rw [show Tryz.prog.cellsOf 5 = 1 by kernel_rfl, d50] at t2
  rw [show Tryz.prog.cellsOf 54 = 1 by kernel_rfl, d51] at t3
  have t1' : DataW.trod enc Tryz.prog W 0 (fun _ => true) held n2 3 [c0] = some y1 := t1
  have t2' : DataW.trod enc Tryz.prog W 0 (fun _ => true) held n2 5 [c1] = some y2 := t2
  have t3' : DataW.trod enc Tryz.prog W 0 (fun _ => true) held n2 54 [c2] = some y3 := t3
  obtain ⟨m, hI, h0, _, hS⟩ := msg_open t0
  obtain ⟨at_, e1, _, w1⟩ := DataW.trod_int Tryz.underlying3 t1'
  obtain ⟨by_, e2, _, w2⟩ := DataW.trod_int Tryz.underlying5 t2'
  obtain ⟨mo, n', c', l, e3, h3, h4, h5, h6, h9⟩ := bytes_of_trod t3'
  simp only [List.cons.injEq, and_true] at e1 e2 e3
  subst e1 e2 e3 h3
  have hx2 := bounds_u8 w2
  have hx1 := bounds_i64 w1
  obtain ⟨b, rfl⟩ : ∃ k : Nat, by_ = (k : Int) := ⟨by_.toNat, by omega⟩
  refine ⟨m, C, at_, b, mo, _, c', l, rfl, hI, hCl, h0, by unfold I64; omega, by omega, rfl, ?_, h6, hS⟩
  rcases h9 with h9 | ⟨es, sp, e9, h9⟩
  · omega
  · have hds : d = .agg [y0.1, y1.1, y2.1, .slice es sp] := by
      have := congrArg Prod.fst hy
      simp only at this
      rw [this, ← e9]
      rfl
    have hmem : (es.length + sp.length) * Tryz.prog.bytesOf 5 ∈ DataW.weights Tryz.prog 75 d := by
      rw [hds]
      have u2 := Tryz.underlying75
      have u3 := Tryz.underlying54
      simp [DataW.weights, DataW.weightsEach, u2, u3]
    have := List.all_eq_true.1 hsz _ (DataW.weights_mem_each ht hd _ hmem)
    rw [byte_bytes] at this
    have e : reachBytes = 140737488351232 := rfl
    simp at this
    omega
end
end Go.Proofs.YtngcbpgafjnfaaaGreatDoor
