/- Suspects. -/
import Derived.Test.YtlfnkplgjlpaaaaWatch
import Derived.Test.YtlfnkplgjlpaaaaRow
namespace Go.Proofs.Ytlfnkplgjlpaaaa
open Go.RowKit Go.Sort
set_option linter.unusedVariables false

/-- the numbers of those that are suspected -/
def bads (S : List Nd) (now : Nat) : List Int := (S.filter fun n => n.susp now).map (·.id)
theorem bads_len (S : List Nd) (now : Nat) : (bads S now).length ≤ S.length := by unfold bads; rw [List.length_map]; exact List.length_filter_le _ _
theorem take_next {α : Type} {l : List α} {k : Nat} {x : α} (h : l[k]? = some x) : l.take (k + 1) = l.take k ++ [x] := by
  rw [List.take_add_one, h]; rfl
theorem bads_next {S : List Nd} {k now : Nat} {n : Nd} (h : S.take (k + 1) = S.take k ++ [n]) : bads (S.take (k + 1)) now = bads (S.take k) now ++ (if n.susp now then [n.id] else []) := by
  rw [h]
  unfold bads
  rw [List.filter_append, List.map_append]
  congr 1
  cases hs : n.susp now <;> simp [hs]
section
variable {w w' : World} {B hn guess : Nat} {mg : Option Nat} {S : List Nd} {Bs : List Nat}
set_option maxHeartbeats 800000 in
theorem suspects_no (p : Value) (now : Int) (hnow : isT now = false) (w : World) : Calls Try.prog 13 #[p, .int .i64 now] w fun e w' => e = .returned (.slice none 0 0) ∧ w = w' := by
  have T1 := fun w => isTime_any now w
  rw [hnow] at T1
  have T1 := Lib.hid T1
  clear hnow
  go_enter Try.func13, Try.ntmps13
  go_wp2_with fail
  refine (T1.out _).mono ?_; rintro e w2 ⟨rfl, rfl⟩
  go_wp2_with fail
  go_ret
  exact ⟨rfl, rfl⟩
set_option maxRecDepth 10000 in
set_option maxHeartbeats 4000000 in
theorem suspects_yes {now : Nat} (hnow : now ≤ 1099511627776) (w : World) (h : Det w B hn Bs S guess) : Calls Try.prog 13 #[.pointer (some ⟨hn, 0, none⟩), .int .i64 (now : Int)] w fun e w' =>
    ∃ v, e = .returned v ∧ w'.ownsRow w.heap.size 3 1 v (bads S now).length ((bads S now).map encZ) ∧ Below w.heap.size w w' := by
  have T1 := fun w => isTime_any (now : Int) w
  rw [isT_nat hnow] at T1
  have T1 := Lib.hid T1
  have P1 := Lib.hid (peers_any w h)
  have SU := Lib.hid (fun (n : Nd) (hn : n.Ok) => (show Ret _ _ _ from fun w => susp_any n hn hnow w))
  have H := Lib.hid h
  obtain ⟨i0, hi0, hz0, hz1, hz2⟩ := info_parts int_info
  have HI := Lib.hid hi0; have HZ0 := Lib.hid hz0; have HZ1 := Lib.hid hz1; have HZ2 := Lib.hid hz2
  have hfew : S.length ≤ 12 := by obtain ⟨_, _, h⟩ := h; exact h.few
  clear h hi0 hz0 hz1 hz2 hnow
  obtain ⟨m, hm⟩ : ∃ m, S.length = m := ⟨_, rfl⟩
  have HM := Lib.hid hm
  rw [hm] at hfew P1
  have hfi : (m : Int) ≤ 12 := by omega
  clear hm hfew
  go_enter Try.func13, Try.ntmps13
  go_wp2_with fail
  refine (T1.out _).mono ?_; rintro e w1 ⟨rfl, rfl⟩
  go_wp2_with fail
  refine P1.out.mono ?_; rintro e w1 ⟨vp, rfl, hown, b1⟩
  obtain ⟨ap, cp, rfl, hcp1, hcp2⟩ := owns_shape hown
  have HP := Lib.hid hown; have B1 := Lib.hid b1
  have h1 := H.out.below b1
  have H1 := Lib.hid h1
  clear hown b1 h1 H T1 P1
  go_wp2_with fail
  go_loopw [5, 7, 14] (fun v5 v7 v14 wr => ∃ k : Nat, k ≤ m ∧ v14 = .int .i64 (k : Int) ∧ wr.ownsRow w1.heap.size 3 1 v5 (bads (S.take k) now).length ((bads (S.take k) now).map encZ) ∧ Below w1.heap.size w1 wr) (fun _ _ v14 _ => m - (intOf v14).toNat)
  case atStart => exact ⟨0, Nat.zero_le _, rfl, by simpa [bads] using World.ownsRow_nil _ _ _ _, Below.refl _ _⟩
  case round =>
    obtain ⟨k, hk, rfl, hacc, hbl⟩ := hrel
    obtain ⟨ac, cc, rfl, hcc1, hcc2⟩ := owns_shape hacc
    have HACC := Lib.hid hacc; have HB := Lib.hid hbl
    by_cases hlt : k < m
    · have hSk : k < S.length := by rw [HM.out]; exact hlt
      obtain ⟨n, hn0⟩ : ∃ n, S[k]? = some n := ⟨_, List.getElem?_eq_getElem hSk⟩
      have hmem := List.mem_of_getElem? hn0
      obtain ⟨mg, hBs, hD⟩ := H1.out.below hbl
      have hnok := hD.ok n hmem
      have c1 := hD.at1
      have hlk := hD.map.look1 n.id (wf_small (by have := hnok.id0; omega) (by have := hnok.id1; omega))
      rw [hD.inc.look hmem] at hlk
      simp only [Option.map_some, Option.getD_some] at hlk
      have S1 := Lib.hid (SU.out n hnok)
      have hrowP := owns_keep HP.out (Keep.of_below hbl []) (by simp)
      obtain ⟨g, v, rfl, hg1, hg2, hv1, hv2, _⟩ := owns_cell1 hrowP k hlt
      obtain rfl : v = .int .i64 n.id := by
        rw [List.getElem?_map, List.getElem?_map, hn0] at hv1
        simpa using hv1.symm
      have hki : (0 : Int) ≤ (k : Int) := by omega
      have hki2 : (k : Int) < (m : Int) := by omega
      have hnext := take_next hn0
      have hsz1 : w1.heap.size ≤ wr.heap.size := hbl.size
      obtain ⟨nid, last, mean, marg, bad⟩ := n
      have NX := Lib.hid hnext
      clear hD hrowP hacc hbl hmem hnok hv1 hn0 hnext hSk
      generalize hsus : Nd.susp ⟨nid, last, mean, marg, bad⟩ now = sb at *
      have HSB := Lib.hid hsus; clear hsus
      go_wp2_with fail
      refine (S1.out _).mono ?_; rintro e w2 ⟨rfl, b2⟩
      have hl := bads_next (now := now) NX.out
      rw [HSB.out] at hl
      have B2 := Lib.hid b2
      have hlen := Nat.le_trans (bads_len (S.take k) now) (List.length_take_le k S)
      cases sb
      · simp only [Bool.false_eq_true, if_false, List.append_nil] at hl
        have HL := Lib.hid hl
        clear b2 hl c1 hlk NX
        go_wp2_with fail
        go_roundw
        case rel => exact ⟨k + 1, by omega, by go_num, by rw [HL.out]; exact owns_keep HACC.out (Keep.of_below B2.out []) (by simp), HB.out.trans (B2.out.mono hsz1)⟩
        case measure => simp [intOf]; omega
      · simp only [if_true] at hl
        have HL := Lib.hid hl
        have hown2 := owns_keep HACC.out (Keep.of_below b2 []) (by simp)
        generalize hls : bads (S.take k) now = ls at *
        have hbase : ∀ g, (Value.slice ac ls.length cc).ownBlock = some g → w1.heap.size ≤ g := fun g hg => (HACC.out.lt g hg).1
        have hlsm : ls.length ≤ k := hlen
        have HBW := Lib.hid (HB.out.trans (b2.mono hsz1))
        have hsz2 : w1.heap.size ≤ w2.heap.size := Nat.le_trans hsz1 b2.size
        have HBASE := Lib.hid hbase
        clear b2 hl c1 hlk NX hls hbase hlen
        go_wp2_with (at_builtin; refine wpList_append_own _ rfl (.tmp 26) (.tmp 28) 39 rfl w1.heap.size 3 i0 (.int .i64 0) 1 8 Try.underlying39 HI.out HZ0.out HZ1.out HZ2.out rfl (by omega) _ ls.length _ rfl (hown2.alloc _) ⟨w2.heap.size, 0, none⟩ 1 1 [.int .i64 nid] rfl rfl (cell_one _ _ _) (one_i64 _) (by unfold maxLen; omega) (by omega) (by simp; omega) ?_; intro v6 w5 hown5 hg5 hv5)
        have HO5 := Lib.hid hown5; have HG5 := Lib.hid hg5
        clear hown5 hg5 hv5 hown2
        go_wp2_with fail
        go_roundw
        case rel =>
          refine ⟨k + 1, by omega, by go_num, ?_, ?_⟩
          · rw [HL.out, List.length_append, List.map_append]; exact HO5.out
          · exact below_grown (below_alloc' HBW.out hsz2 _) (by simp; omega) HG5.out HBASE.out
        case measure => simp [intOf]; omega
    · obtain rfl : k = m := by omega
      clear hacc hbl
      go_wp2_with fail
      go_ret
      have hx := owns_base HACC.out B1.out.size
      have hb : bads (S.take k) now = bads S now := by rw [← HM.out, List.take_length]
      refine ⟨_, rfl, ?_, B1.out.trans (HB.out.mono B1.out.size)⟩
      show World.ownsRow _ _ _ _ (Value.slice ac (bads (S.take k) now).length cc) _ _
      rw [hb] at hx ⊢
      exact hx
end
end Go.Proofs.Ytlfnkplgjlpaaaa
