/- The waits of all nodes, of both. -/
import Derived.Test.YtlfnkplgjlpaaaaTw
namespace Go.Proofs.Ytlfnkplgjlpaaaa
open Go.RowKit Go.Sort
set_option linter.unusedVariables false

set_option maxRecDepth 10000 in
set_option maxHeartbeats 8000000 in
theorem waits_any {W : World} {B tb hn hb guess now : Nat} {S : List Nd} (w : World) (h : Tx W w B tb hn hb S S guess now []) :
    Calls Try.prog 11 #[.pointer (some ⟨tb, 0, none⟩)] w fun e w' => e = .returned (.bool true) ∧ Below w.heap.size w w' := by
  obtain ⟨c0, c1, _⟩ := h.at_
  obtain ⟨Bs, Cs, hX⟩ := h
  obtain ⟨ao, cap, hCs, hR⟩ := hX.rf
  have hfew := hR.few
  have r1 := hR.at1
  have HD := Lib.hid hX.det; have HR := Lib.hid hR
  clear hX hR
  go_enter Try.func11, Try.ntmps11
  go_wp2_with fail
  refine (peers_any w HD.out).mono ?_; rintro e w1 ⟨v, rfl, o1, b1⟩
  have D1 := Lib.hid (HD.out.below b1); have R1 := Lib.hid (HR.out.below b1)
  have C0 := Lib.hid ((b1.cell (block_lt_of_cell c0)).trans c0)
  have C1 := Lib.hid ((b1.cell (block_lt_of_cell c1)).trans c1)
  have B1 := Lib.hid b1; have O1 := Lib.hid o1
  obtain ⟨al, cl, rfl, _, _⟩ := owns_shape o1
  have q1 := C1.out
  have r1 := R1.out.at1
  obtain ⟨m, hm⟩ : ∃ m, S.length = m := ⟨_, rfl⟩
  rw [hm] at r1 hfew ⊢
  rw [hm] at O1
  have HM := Lib.hid hm
  have hne : ((m : Int) != (m : Int)) = false := by simp
  have hmi : (m : Int) ≤ 12 := by omega
  clear hm o1 b1 c0 c1 HD HR
  go_wp2_with fail
  go_loopw [4, 5, 6] (fun v4 v5 v6 wr => ∃ k : Nat, v4 = .int .i64 (k : Int) ∧ k ≤ m ∧ Below w1.heap.size w1 wr) (fun v4 _ _ _ => m - (intOf v4).toNat)
  case atStart => exact ⟨0, rfl, by omega, Below.refl _ _⟩
  case round =>
    clear q1 r1 hne
    obtain ⟨k, rfl, hk, hbl⟩ := hrel
    have HB := Lib.hid hbl
    by_cases hlt : k < m
    · obtain ⟨n, hn0⟩ : ∃ n, S[k]? = some n := ⟨_, List.getElem?_eq_getElem (by rw [HM.out]; exact hlt)⟩
      have hmem := List.mem_of_getElem? hn0
      have hR := R1.out.below hbl
      have hok := hR.ok n hmem
      have hlook := hR.inc.look hmem
      have hwf : (Lit.int .i64 n.id).wf = true := wf_small (by have := hok.id0; omega) (by have := hok.id1; omega)
      obtain ⟨g1, v, rfl, _, _, hv1, hv2, _⟩ := owns_cell1 (owns_keep O1.out (Keep.of_below hbl []) (by simp)) k (by omega)
      obtain rfl : v = .int .i64 n.id := by
        rw [List.getElem?_map, List.getElem?_map, hn0] at hv1
        simpa using hv1.symm
      obtain ⟨g2, rfl, hg2, _, hc5⟩ := hR.node hn0
      have e0 := (hc5 0 _ rfl).1; have e1 := (hc5 1 _ rfl).1; have e2 := (hc5 2 _ rfl).1; have e3 := (hc5 3 _ rfl).1; have e4 := (hc5 4 _ rfl).1
      rw [Nat.add_zero] at e0
      have er := hR.at1
      rw [HM.out] at er
      have q0 := (hbl.cell (block_lt_of_cell C0.out)).trans C0.out
      have q1 := (hbl.cell (block_lt_of_cell C1.out)).trans C1.out
      have hki : (0 : Int) ≤ (k : Int) := by omega
      have hki2 : (k : Int) < (m : Int) := by omega
      have WA := Lib.hid (fun d os => Calls.regrown_of (waitM_yes n.id hwf (grow (redrawn wr d) os) ((D1.out.below hbl).below (below_regrown wr d os)) hlook hok))
      have k1 := cell_regrown hv2; have k0 := cell_regrown q0
      have EE := Lib.hid (show _ ∧ _ ∧ _ ∧ _ ∧ _ ∧ _ ∧ _ ∧ _ from ⟨e0, e1, e2, e3, e4, er, q1, hv2⟩)
      have HOK := Lib.hid hok
      obtain ⟨nid, last, mean, marg, bad⟩ := n
      generalize hnw : Nd.wait ⟨nid, last, mean, marg, bad⟩ = nw at *
      have HNW := Lib.hid hnw
      have hz1 : (nid != nid) = false := by simp
      have hz2 : ((nw : Int) != (nw : Int)) = false := by simp
      clear hnw hn0 hmem hR hok hlook hwf hv1 hv2 hc5 e0 e1 e2 e3 e4 er q0 q1 hbl
      simp only at k1
      go_wp2_with fail
      refine wp_region_quiet_below (by kernel_rfl) (by kernel_rfl) ?_
      repeat (go_big_quiet_step (exact WA.out _ _))
      refine wpQuiet_nil ?_
      intro _ hw'
      obtain ⟨⟨dq, osq⟩, hw''⟩ := hw'
      subst hw''
      have b5 := below_regrown wr dq osq
      have lk := Lib.hid (below_next HB.out b5)
      obtain ⟨e0, e1, e2, e3, e4, er, q1, hv2⟩ := EE.out
      have a0 := (b5.cell (block_lt_of_cell e0)).trans e0; have a1 := (b5.cell (block_lt_of_cell e1)).trans e1; have a2 := (b5.cell (block_lt_of_cell e2)).trans e2; have a3 := (b5.cell (block_lt_of_cell e3)).trans e3; have a4 := (b5.cell (block_lt_of_cell e4)).trans e4
      have ar := (b5.cell (block_lt_of_cell er)).trans er; have a6 := (b5.cell (block_lt_of_cell q1)).trans q1; have a7 := (b5.cell (block_lt_of_cell hv2)).trans hv2
      clear k0 k1 WA EE e0 e1 e2 e3 e4 er q1 hv2 b5
      generalize grow (redrawn wr dq) osq = w5 at *
      have WC := Lib.hid (fun d os => Calls.regrown_of (rwait_any _ HOK.out (grow (redrawn w5 d) os)))
      rw [HNW.out] at WC
      have k0 := cell_regrown a0; have k1 := cell_regrown a1; have k2 := cell_regrown a2; have k3 := cell_regrown a3; have k4 := cell_regrown a4; have kr := cell_regrown ar; have k6 := cell_regrown a6; have k7 := cell_regrown a7
      go_wp2_with fail
      refine wp_region_quiet_below (by kernel_rfl) (by kernel_rfl) ?_
      repeat (go_big_quiet_step (exact WC.out _ _))
      refine wpQuiet_nil ?_
      intro _ hw'
      obtain ⟨⟨dq, osq⟩, hw''⟩ := hw'
      subst hw''
      have lk2 := Lib.hid (below_next lk.out (below_regrown w5 dq osq))
      clear k0 k1 k2 k3 k4 kr k6 k7 a0 a1 a2 a3 a4 ar a6 a7 WC
      generalize grow (redrawn w5 dq) osq = w6 at *
      go_wp2_with fail
      go_roundw
      case rel => exact ⟨k + 1, by go_num, by omega, lk2.out⟩
      case measure => simp [intOf]; omega
    · obtain rfl : k = m := by omega
      have q0 := (hbl.cell (block_lt_of_cell C0.out)).trans C0.out
      have hl : look S 300 = none := by
        cases hl : look S 300 with
        | none => rfl
        | some n =>
          obtain ⟨hm1, hid⟩ := look_some hl
          have := (R1.out.ok n hm1).id1
          omega
      have WA := Lib.hid (waitM_no 300 (by decide) wr (D1.out.below hbl) hl)
      clear hbl
      go_wp2_with fail
      refine WA.out.mono ?_; rintro e w7 ⟨rfl, b7⟩
      have HB7 := Lib.hid (below_next B1.out (below_next HB.out b7))
      clear b7
      go_wp2_with fail
      go_ret
      exact ⟨rfl, HB7.out⟩
end Go.Proofs.Ytlfnkplgjlpaaaa
