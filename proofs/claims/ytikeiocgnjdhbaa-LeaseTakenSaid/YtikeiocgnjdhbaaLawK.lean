/- LeaseTaken: the walk (gen_lawk.py writes it). -/
import Derived.Test.YtikeiocgnjdhbaaLd
namespace Go.Proofs.Ytikeiocgnjdhbaa
open Go.RowKit Go.Sort
set_option linter.unusedVariables false
set_option linter.unusedSimpArgs false
set_option maxRecDepth 100000

theorem ap_yes {T : Tb} (h : T.Ok) (D : Dc) (c0 : 0 ≤ D.cnt) (c1 : D.cnt ≤ 4294967295) (h0 : refuse T D = 0) : Ret 13 #[T.v, D.v] (.returned (.tuple #[.agg ⟨(behindT T D).list⟩, .int .i64 0])) := by
  have := apply_any T h.sz D (by have := h.v0; omega) h.r c0 c1
  rwa [show apR T D = .tuple #[.agg ⟨(behindT T D).list⟩, .int .i64 0] by unfold apR apT; rw [if_pos h0, h0]] at this
theorem ap_no {T : Tb} (h : T.Ok) (D : Dc) (c0 : 0 ≤ D.cnt) (c1 : D.cnt ≤ 4294967295) (e : Int) (h0 : refuse T D = e) (he : ¬ e = 0) : Ret 13 #[T.v, D.v] (.returned (.tuple #[.agg ⟨T.list⟩, .int .i64 e])) := by
  have := apply_any T h.sz D (by have := h.v0; omega) h.r c0 c1
  rwa [show apR T D = .tuple #[.agg ⟨T.list⟩, .int .i64 e] by unfold apR apT; rw [h0, if_neg he]] at this
theorem ok_behind {T : Tb} (h : T.Ok) {D : Dc} (c0 : 0 ≤ D.cnt) (c1 : D.cnt ≤ 4294967295) (h0 : refuse T D = 0) : (behindT T D).Ok := by
  have := apT_ok h D c0 c1
  unfold apT at this
  rwa [if_pos h0] at this
theorem zle : (0 : Int) ≤ 0 := by omega
theorem zle32 : (0 : Int) ≤ 4294967295 := by omega

set_option maxHeartbeats 8000000 in
theorem leaseTaken_law (a : Int) (wa : (Lit.int .i64 a).wf = true) (f : Int) (wf : (Lit.int .i64 f).wf = true) (z : Int) (wz : (Lit.int .i64 z).wf = true) (b : Int) (wb : (Lit.int .i64 b).wf = true) (c : Int) (wc : (Lit.int .i64 c).wf = true) (w : World) :
    Calls Try.prog 9 #[.agg #[.int .i64 a, .int .i64 f, .int .i64 z, .int .i64 b, .int .i64 c]] w (LawOk w) := by
  have ha := bounds_i64 wa; have hb := bounds_i64 wb; have hc := bounds_i64 wc
  clear wa wb wf wz wc
  have hz := zero_run
  go_enter Try.func9, Try.ntmps9
  go_upto_region 1 with (fail)
  have HW := Lib.hid (show Below w.heap.size w (w.alloc (.cells #[.int .i64 a, .int .i64 f, .int .i64 z, .int .i64 b, .int .i64 c] 54)) from below_alloc (Below.refl _ _) _)
  have hS := heap_alloc_new w (.cells #[.int .i64 a, .int .i64 f, .int .i64 z, .int .i64 b, .int .i64 c] 54)
  have hA0 : w.heap.size < (w.alloc (.cells #[.int .i64 a, .int .i64 f, .int .i64 z, .int .i64 b, .int .i64 c] 54)).heap.size := by simp
  generalize w.alloc (.cells #[.int .i64 a, .int .i64 f, .int .i64 z, .int .i64 b, .int .i64 c] 54) = W0 at *
  have q0 : W0.cell? ⟨w.heap.size, 0, none⟩ = some (.int .i64 a) := cell_of_row W0 _ 0 _ _ (0, 0) hS
  have q1 : W0.cell? ⟨w.heap.size, 1, none⟩ = some (.int .i64 f) := cell_of_row W0 _ 1 _ _ (0, 0) hS
  have q2 : W0.cell? ⟨w.heap.size, 2, none⟩ = some (.int .i64 z) := cell_of_row W0 _ 2 _ _ (0, 0) hS
  have q3 : W0.cell? ⟨w.heap.size, 3, none⟩ = some (.int .i64 b) := cell_of_row W0 _ 3 _ _ (0, 0) hS
  have q4 : W0.cell? ⟨w.heap.size, 4, none⟩ = some (.int .i64 c) := cell_of_row W0 _ 4 _ _ (0, 0) hS
  clear hS
  go_region
  clear q0 q1 q2 q3 q4
  have hS := heap_alloc_new W0 (.cells #[.int .i64 f, .int .i64 z] 37)
  have hl := (below_alloc (Below.refl W0.heap.size W0) (.cells #[.int .i64 f, .int .i64 z] 37)).drew
  replace HW := Lib.hid (below_next HW.out hl)
  have q0 : (W0.alloc (.cells #[.int .i64 f, .int .i64 z] 37)).drew.cell? ⟨W0.heap.size, 0, none⟩ = some (.int .i64 f) := cell_of_row _ _ 0 _ _ (0, 0) hS
  have q1 : (W0.alloc (.cells #[.int .i64 f, .int .i64 z] 37)).drew.cell? ⟨W0.heap.size, 1, none⟩ = some (.int .i64 z) := cell_of_row _ _ 1 _ _ (0, 0) hS
  have hA : W0.heap.size < (W0.alloc (.cells #[.int .i64 f, .int .i64 z] 37)).drew.heap.size := by simp [World.drew]
  have HG := Lib.hid (And.intro q0 q1)
  clear q0 q1 hl hS hA0
  generalize (W0.alloc (.cells #[.int .i64 f, .int .i64 z] 37)).drew = W at *
  generalize W0.heap.size = bA at *
  go_upto_if 29 with (fail)
  go_cut [3] from 28 to 32 (fun s wx => ∃ r : Nat, s = .int .i64 (r : Int) ∧ r ≤ 9223372036854775807 ∧ W = wx)
  case first =>
    as_aux_lemma =>
      by_cases h0 : a < 0
      · obtain ⟨r, hr⟩ : ∃ r : Nat, (r : Int) = -(a + 1) := ⟨(-(a + 1)).toNat, by omega⟩
        have e0 : decide (a < 0) = true := by simpa using h0
        go_wp2_with fail
        go_meet
        case rel => exact ⟨r, by rw [hr], by omega, rfl⟩
      · obtain ⟨r, rfl⟩ : ∃ r : Nat, a = r := ⟨a.toNat, by omega⟩
        have e0 : decide ((r : Int) < 0) = false := by simp
        go_wp2_with fail
        go_meet
        case rel => exact ⟨r, rfl, by omega, rfl⟩
  case rest =>
    obtain ⟨r, rfl, hr, rfl⟩ := hcut
    go_upto_if 34 with (fail)
    go_cut [5] from 33 to 37 (fun s wx => ∃ r : Nat, s = .int .i64 (r : Int) ∧ r ≤ 9223372036854775807 ∧ W = wx)
    case first =>
      as_aux_lemma =>
        by_cases h0 : b < 0
        · obtain ⟨r, hr⟩ : ∃ r : Nat, (r : Int) = -(b + 1) := ⟨(-(b + 1)).toNat, by omega⟩
          have e0 : decide (b < 0) = true := by simpa using h0
          go_wp2_with fail
          go_meet
          case rel => exact ⟨r, by rw [hr], by omega, rfl⟩
        · obtain ⟨r, rfl⟩ : ∃ r : Nat, b = r := ⟨b.toNat, by omega⟩
          have e0 : decide ((r : Int) < 0) = false := by simp
          go_wp2_with fail
          go_meet
          case rel => exact ⟨r, rfl, by omega, rfl⟩
    case rest =>
      obtain ⟨t, rfl, ht, rfl⟩ := hcut
      go_upto_if 39 with (fail)
      go_cut [6] from 38 to 42 (fun s wx => ∃ r : Nat, s = .int .i64 (r : Int) ∧ r ≤ 9223372036854775807 ∧ W = wx)
      case first =>
        as_aux_lemma =>
          by_cases h0 : c < 0
          · obtain ⟨r, hr⟩ : ∃ r : Nat, (r : Int) = -(c + 1) := ⟨(-(c + 1)).toNat, by omega⟩
            have e0 : decide (c < 0) = true := by simpa using h0
            go_wp2_with fail
            go_meet
            case rel => exact ⟨r, by rw [hr], by omega, rfl⟩
          · obtain ⟨r, rfl⟩ : ∃ r : Nat, c = r := ⟨c.toNat, by omega⟩
            have e0 : decide ((r : Int) < 0) = false := by simp
            go_wp2_with fail
            go_meet
            case rel => exact ⟨r, rfl, by omega, rfl⟩
      case rest =>
        obtain ⟨g, rfl, hg, rfl⟩ := hcut
        clear ha hb hc hr ht hg
        obtain ⟨m9, em9, hm9⟩ : ∃ m : Nat, r % 9 = m ∧ m < 9 := ⟨_, rfl, Nat.mod_lt _ (by omega)⟩
        have t1 : (r : Int).tmod 9 = (m9 : Int) := by rw [Int.tmod_eq_emod_of_nonneg (by omega)]; omega
        have u1 : (r : Int) % 9 = (m9 : Int) := by omega
        obtain ⟨n, hn⟩ : ∃ n : Nat, n = 4 + m9 := ⟨_, rfl⟩
        have v1 : (4 : Int) + (m9 : Int) = (n : Int) := by omega
        have n0 : 4 ≤ n := by omega
        have n1 : n ≤ 12 := by omega
        have hn12 : (n : Int) ≤ 12 := by omega
        clear hn em9
        have NW := Lib.hid (fun w => new_yes n n0 n1 w)
        go_wp2_with fail
        refine (NW.out _).mono ?_
        rintro e w1 ⟨rfl, l1⟩
        obtain ⟨h2, l2, hlt2⟩ := laid_tb (w := w1) (T := newT n) (U := Tb.zero)
        have H1 := Lib.hid (TbR.new w1 Tb.zero)
        have HT := Lib.hid h2
        have hok := Lib.hid (newT_ok n n0 n1)
        have sT := newT_sz n
        have HVer : Hid ((newT n).ver = 1) := Lib.hid rfl
        have HTm := Lib.hid (fun k hk => newT_m n k hk)
        replace HG := Lib.hid (And.intro ((l2.cell (p := ⟨bA, 0, none⟩) (Nat.lt_of_lt_of_le hA l1.size)).trans ((l1.cell (p := ⟨bA, 0, none⟩) hA).trans HG.out.1)) ((l2.cell (p := ⟨bA, 1, none⟩) (Nat.lt_of_lt_of_le hA l1.size)).trans ((l1.cell (p := ⟨bA, 1, none⟩) hA).trans HG.out.2)))
        replace HW := Lib.hid (below_next (below_next HW.out l1) l2)
        have hA1 : bA < w1.heap.size := Nat.lt_of_lt_of_le hA l1.size
        clear h2 l2 l1 NW t1 u1 v1
        generalize newT n = T at *
        go_upto_region 10 with (first
          | (refine store_tb (U := T) rfl rfl rfl rfl H1.out Tb.zero_sz sT ?_))
        clear H1
        generalize (w1.alloc (.cells ⟨Tb.zero.list⟩ 29)).setRow w1.heap.size ⟨T.list⟩ = W2 at *
        have hbT : w1.heap.size < W2.heap.size := hlt2
        clear hlt2
        generalize w1.heap.size = bT at *
        go_wp2_with fail
        refine (alive_any _).mono ?_
        rintro e w3 ⟨rfl, l3⟩
        replace HT := Lib.hid (HT.out.keep l3)
        have hA3 : bA < w3.heap.size := by have := l3.size; omega
        have c0 := (l3.cell (p := ⟨bA, 0, none⟩) (by simp; omega)).trans HG.out.1
        have c1 := (l3.cell (p := ⟨bA, 1, none⟩) (by simp; omega)).trans HG.out.2
        replace HW := Lib.hid (below_next HW.out l3)
        clear l3 HG hbT hA
        by_cases hf : 0 ≤ f ∧ f ≤ 63
        · obtain ⟨F, rfl⟩ : ∃ F : Nat, f = F := ⟨f.toNat, by omega⟩
          have hF : F < 64 := by omega
          have hF0 : decide ((F : Int) < 0) = false := by simp
          have hF1 : decide (63 < (F : Int)) = false := by simp; omega
          obtain ⟨B, hB, hB12, hBm⟩ := hok.out.o F hF
          have cF := HT.out.own sT hF
          rw [hB] at cF
          clear hB hf
          obtain ⟨m, hm⟩ : ∃ m, t % n = m := ⟨_, rfl⟩
          have hmn : m < n := by rw [← hm]; exact Nat.mod_lt _ (by omega)
          have e1 : (t : Int).tmod (n : Int) = (m : Int) := by rw [Int.tmod_eq_emod_of_nonneg (by omega), ← hm]; rfl
          have e2 : (t : Int) % (n : Int) = (m : Int) := by rw [← hm]; rfl
          obtain ⟨j, hj⟩ : ∃ m, g % n = m := ⟨_, rfl⟩
          have hjn : j < n := by rw [← hj]; exact Nat.mod_lt _ (by omega)
          have e3 : (g : Int).tmod (n : Int) = (j : Int) := by rw [Int.tmod_eq_emod_of_nonneg (by omega), ← hj]; rfl
          have e4 : (g : Int) % (n : Int) = (j : Int) := by rw [← hj]; rfl
          have hTj : T.m j = true := by rw [HTm.out j (by omega)]; simpa using hjn
          clear hm hj
          go_upto_region 13 with (fail)
          clear hF0 hF1 cF
          have hA4 := hA3
          by_cases h0 : refuse T ⟨3, m, B, F, z, 0, 0⟩ = 0
          · skip
            have y1 := taken_facts hok.out (k := j) (by rw [HVer.out]; omega) h0 (by omega) hTj
            obtain ⟨y1, y2, y5⟩ := y1
            have AP := Lib.hid (ap_yes hok.out ⟨3, m, B, F, z, 0, 0⟩ zle zle32 h0)
            have hokU := ok_behind hok.out (D := ⟨3, m, B, F, z, 0, 0⟩) zle zle32 h0
            have sU := hokU.sz
            have AP2 := Lib.hid (ap_no hokU ⟨2, j, B, F, z, 0, 0⟩ zle zle32 141 y1 (by omega))
            have AP3 := Lib.hid (ap_no hokU ⟨3, j, B, F, z, 0, 0⟩ zle zle32 141 y2 (by omega))
            have Y5 := Lib.hid y5
            clear y1 y2 y5 hokU h0
            generalize behindT T ⟨3, m, B, F, z, 0, 0⟩ = U at *
            go_cut [11, 12] from 73 to 83 (fun sT sE wx => ∃ bV, sT = .pointer (some ⟨bV, 0, none⟩) ∧ sE = .int .i64 0 ∧ w3.heap.size ≤ bV ∧ TbR wx bV U ∧ Below w3.heap.size w3 wx)
            case first =>
              as_aux_lemma =>
                refine wp_region_held_drew (S := fun w' => Below w3.heap.size w3 w') (by kernel_rfl) ((Below.refl _ _).drew) (fun s0 => ?_)
                generalize w3.drew = wd at *
                refine wpAnyH_take (i := 0) (v := .agg ⟨T.list⟩) rfl (by kernel_rfl) (by kernel_rfl) (by kernel_rfl) (fun _ _ _ h => h) (Or.inl ⟨by rfl, fun w' hw' => by exact exec_load 29 (.tmp 8) rfl rfl ((HT.out.keep hw').load sT)⟩) s0 ?_
                try simp only [Act.put, List.getElem_toArray, List.getElem_cons_succ, List.getElem_cons_zero, List.setIfInBounds_toArray, List.set_cons_zero, List.set_cons_succ, Nat.zero_add, List.nil_append]
                refine wpAnyH_take (i := 1) (v := .int .i64 (t : Int)) rfl (by kernel_rfl) (by kernel_rfl) (by kernel_rfl) (fun _ _ _ h => h) (Or.inl ⟨by rfl, fun w' hw' => by go_simp⟩) s0 ?_
                try simp only [Act.put, List.getElem_toArray, List.getElem_cons_succ, List.getElem_cons_zero, List.setIfInBounds_toArray, List.set_cons_zero, List.set_cons_succ, Nat.zero_add, List.nil_append]
                refine wpAnyH_take (i := 2) (v := .int .i64 (n : Int)) rfl (by kernel_rfl) (by kernel_rfl) (by kernel_rfl) (fun _ _ _ h => h) (Or.inl ⟨by rfl, fun w' hw' => by go_simp⟩) s0 ?_
                try simp only [Act.put, List.getElem_toArray, List.getElem_cons_succ, List.getElem_cons_zero, List.setIfInBounds_toArray, List.set_cons_zero, List.set_cons_succ, Nat.zero_add, List.nil_append]
                refine wpAnyH_take (i := 3) (v := .int .i64 (m : Int)) rfl (by kernel_rfl) (by kernel_rfl) (by kernel_rfl) (fun _ _ _ h => h) (Or.inl ⟨by rfl, fun w' hw' => by go_simp; omega⟩) s0 ?_
                try simp only [Act.put, List.getElem_toArray, List.getElem_cons_succ, List.getElem_cons_zero, List.setIfInBounds_toArray, List.set_cons_zero, List.set_cons_succ, Nat.zero_add, List.nil_append]
                refine wpAnyH_take (i := 4) (v := .int .i64 (B : Int)) rfl (by kernel_rfl) (by kernel_rfl) (by kernel_rfl) (fun _ _ _ h => h) (Or.inl ⟨by rfl, fun w' hw' => by go_simp⟩) s0 ?_
                try simp only [Act.put, List.getElem_toArray, List.getElem_cons_succ, List.getElem_cons_zero, List.setIfInBounds_toArray, List.set_cons_zero, List.set_cons_succ, Nat.zero_add, List.nil_append]
                refine wpAnyH_take (i := 5) (v := .agg #[.int .i64 (F : Int), .int .i64 z]) rfl (by kernel_rfl) (by kernel_rfl) (by kernel_rfl) (fun _ _ _ h => h) (Or.inl ⟨by rfl, fun w' hw' => by have z0 := (hw'.cell (p := ⟨bA, 0, none⟩) hA4).trans c0; have z1 := (hw'.cell (p := ⟨bA, 1, none⟩) hA4).trans c1; go_simp⟩) s0 ?_
                try simp only [Act.put, List.getElem_toArray, List.getElem_cons_succ, List.getElem_cons_zero, List.setIfInBounds_toArray, List.set_cons_zero, List.set_cons_succ, Nat.zero_add, List.nil_append]
                refine wpAnyH_take (i := 6) (v := .agg #[.int .i64 3, .int .i64 (m : Int), .int .i64 (B : Int), .int .i64 (F : Int), .int .i64 z, .int .u32 0, .int .u32 0]) rfl (by kernel_rfl) (by kernel_rfl) (by kernel_rfl) (fun _ _ _ h => h) (Or.inl ⟨by rfl, fun w' hw' => by go_simp⟩) s0 ?_
                try simp only [Act.put, List.getElem_toArray, List.getElem_cons_succ, List.getElem_cons_zero, List.setIfInBounds_toArray, List.set_cons_zero, List.set_cons_succ, Nat.zero_add, List.nil_append]
                refine wpAnyH_ready (rs := [7, 11]) (by kernel_rfl) (by simp) ?_
                refine AllReadyH.cons rfl (fun K hK => ?_) (AllReadyH.cons rfl (fun K hK => ?_) AllReadyH.nil)
                · skip
                  rw [if_pos (by rfl)]
                  go_simp
                  refine (AP.out wd).mono ?_; rintro e w2 ⟨rfl, b2⟩
                  have s1 := below_next s0 b2
                  
                  clear b2
                  go_simp
                  refine hK.out _ _ s1 (fun _ => ?_)
                  clear hK K
                  try simp only [Act.put, List.getElem_toArray, List.getElem_cons_succ, List.getElem_cons_zero, List.setIfInBounds_toArray, List.set_cons_zero, List.set_cons_succ, Nat.zero_add, List.nil_append]
                  refine wpAnyH_take (i := 8) (v := .tuple #[.agg ⟨(U).list⟩, .int .i64 0]) rfl (by kernel_rfl) (by kernel_rfl) (by kernel_rfl) (fun _ _ _ h => h) (Or.inl ⟨by rfl, fun w' hw' => by go_simp⟩) s1 ?_
                  try simp only [Act.put, List.getElem_toArray, List.getElem_cons_succ, List.getElem_cons_zero, List.setIfInBounds_toArray, List.set_cons_zero, List.set_cons_succ, Nat.zero_add, List.nil_append]
                  refine wpAnyH_take (i := 9) (v := .agg ⟨(U).list⟩) rfl (by kernel_rfl) (by kernel_rfl) (by kernel_rfl) (fun _ _ _ h => h) (Or.inl ⟨by rfl, fun w' hw' => by go_simp⟩) s1 ?_
                  try simp only [Act.put, List.getElem_toArray, List.getElem_cons_succ, List.getElem_cons_zero, List.setIfInBounds_toArray, List.set_cons_zero, List.set_cons_succ, Nat.zero_add, List.nil_append]
                  refine wpAnyH_take (i := 10) (v := .int .i64 0) rfl (by kernel_rfl) (by kernel_rfl) (by kernel_rfl) (fun _ _ _ h => h) (Or.inl ⟨by rfl, fun w' hw' => by go_simp⟩) s1 ?_
                  try simp only [Act.put, List.getElem_toArray, List.getElem_cons_succ, List.getElem_cons_zero, List.setIfInBounds_toArray, List.set_cons_zero, List.set_cons_succ, Nat.zero_add, List.nil_append]
                  refine wpAnyH_ready (rs := [11]) (by kernel_rfl) (by simp) ?_
                  refine AllReadyH.cons rfl (fun K hK => ?_) AllReadyH.nil
                  rw [if_pos (by rfl)]
                  go_simp
                  have r3 := TbR.new w2 Tb.zero
                  have s2 := below_alloc s1 (.cells ⟨Tb.zero.list⟩ 29)
                  have hbs := s1.size
                  generalize w2.alloc (.cells ⟨Tb.zero.list⟩ 29) = w3z at *
                  obtain ⟨bx, hbx⟩ : ∃ q, q = w2.heap.size := ⟨_, rfl⟩
                  rw [← hbx] at r3 hbs ⊢
                  clear hbx
                  refine hK.out _ _ s2 (fun _ => ?_)
                  clear hK K
                  try simp only [Act.put, List.getElem_toArray, List.getElem_cons_succ, List.getElem_cons_zero, List.setIfInBounds_toArray, List.set_cons_zero, List.set_cons_succ, Nat.zero_add, List.nil_append]
                  refine wpAnyH_ready (rs := [12]) (by kernel_rfl) (by simp) ?_
                  refine AllReadyH.cons rfl (fun K hK => ?_) AllReadyH.nil
                  rw [if_pos (by rfl)]
                  refine wp_store_row 29 (.tmp 11) (.tmp 82) rfl bx ⟨(U).list⟩ rfl rfl 29 _ r3 (by rw [List.size_toArray, sU.len, tb_info]) (by simp [Tb.zero_sz.len, sU.len]) (tb_one _) ?_
                  have s9 : Below w3.heap.size w3 (w3z.setRow bx ⟨(U).list⟩) := below_setRow s2 bx _ hbs
                  have HXR := Lib.hid (r3.setRow (U))
                  generalize w3z.setRow bx ⟨(U).list⟩ = wz at *
                  refine hK.out _ _ s9 (fun _ => ?_)
                  clear hK K
                  try simp only [Act.put, List.getElem_toArray, List.getElem_cons_succ, List.getElem_cons_zero, List.setIfInBounds_toArray, List.set_cons_zero, List.set_cons_succ, Nat.zero_add, List.nil_append]
                  refine wpAnyH_take (i := 13) (v := .int .i64 0) rfl (by kernel_rfl) (by kernel_rfl) (by kernel_rfl) (fun _ _ _ h => h) (Or.inl ⟨by rfl, fun w' hw' => by go_simp⟩) s9 ?_
                  try simp only [Act.put, List.getElem_toArray, List.getElem_cons_succ, List.getElem_cons_zero, List.setIfInBounds_toArray, List.set_cons_zero, List.set_cons_succ, Nat.zero_add, List.nil_append]
                  refine wpAnyH_done (by kernel_rfl) ?_ _
                  have HZB := Lib.hid s9
                  have HBS := Lib.hid hbs
                  clear r3 hbs s9 s0 s1 s2
                  go_wp2_with fail
                  go_meet
                  case rel => exact ⟨_, rfl, rfl, HBS.out, HXR.out, HZB.out⟩
                · skip
                  rw [if_pos (by rfl)]
                  go_simp
                  have r3 := TbR.new wd Tb.zero
                  have s1 := below_alloc s0 (.cells ⟨Tb.zero.list⟩ 29)
                  have hbs := s0.size
                  generalize wd.alloc (.cells ⟨Tb.zero.list⟩ 29) = w2 at *
                  obtain ⟨bx, hbx⟩ : ∃ q, q = wd.heap.size := ⟨_, rfl⟩
                  rw [← hbx] at r3 hbs ⊢
                  clear hbx
                  refine hK.out _ _ s1 (fun _ => ?_)
                  clear hK K
                  try simp only [Act.put, List.getElem_toArray, List.getElem_cons_succ, List.getElem_cons_zero, List.setIfInBounds_toArray, List.set_cons_zero, List.set_cons_succ, Nat.zero_add, List.nil_append]
                  refine wpAnyH_ready (rs := [7]) (by kernel_rfl) (by simp) ?_
                  refine AllReadyH.cons rfl (fun K hK => ?_) AllReadyH.nil
                  rw [if_pos (by rfl)]
                  go_simp
                  refine (AP.out w2).mono ?_; rintro e w3z ⟨rfl, b2⟩
                  have s2 := below_next s1 b2
                  have r3 := r3.keep b2
                  clear b2
                  go_simp
                  refine hK.out _ _ s2 (fun _ => ?_)
                  clear hK K
                  try simp only [Act.put, List.getElem_toArray, List.getElem_cons_succ, List.getElem_cons_zero, List.setIfInBounds_toArray, List.set_cons_zero, List.set_cons_succ, Nat.zero_add, List.nil_append]
                  refine wpAnyH_take (i := 8) (v := .tuple #[.agg ⟨(U).list⟩, .int .i64 0]) rfl (by kernel_rfl) (by kernel_rfl) (by kernel_rfl) (fun _ _ _ h => h) (Or.inl ⟨by rfl, fun w' hw' => by go_simp⟩) s2 ?_
                  try simp only [Act.put, List.getElem_toArray, List.getElem_cons_succ, List.getElem_cons_zero, List.setIfInBounds_toArray, List.set_cons_zero, List.set_cons_succ, Nat.zero_add, List.nil_append]
                  refine wpAnyH_take (i := 9) (v := .agg ⟨(U).list⟩) rfl (by kernel_rfl) (by kernel_rfl) (by kernel_rfl) (fun _ _ _ h => h) (Or.inl ⟨by rfl, fun w' hw' => by go_simp⟩) s2 ?_
                  try simp only [Act.put, List.getElem_toArray, List.getElem_cons_succ, List.getElem_cons_zero, List.setIfInBounds_toArray, List.set_cons_zero, List.set_cons_succ, Nat.zero_add, List.nil_append]
                  refine wpAnyH_take (i := 10) (v := .int .i64 0) rfl (by kernel_rfl) (by kernel_rfl) (by kernel_rfl) (fun _ _ _ h => h) (Or.inl ⟨by rfl, fun w' hw' => by go_simp⟩) s2 ?_
                  try simp only [Act.put, List.getElem_toArray, List.getElem_cons_succ, List.getElem_cons_zero, List.setIfInBounds_toArray, List.set_cons_zero, List.set_cons_succ, Nat.zero_add, List.nil_append]
                  refine wpAnyH_ready (rs := [12]) (by kernel_rfl) (by simp) ?_
                  refine AllReadyH.cons rfl (fun K hK => ?_) AllReadyH.nil
                  rw [if_pos (by rfl)]
                  refine wp_store_row 29 (.tmp 11) (.tmp 82) rfl bx ⟨(U).list⟩ rfl rfl 29 _ r3 (by rw [List.size_toArray, sU.len, tb_info]) (by simp [Tb.zero_sz.len, sU.len]) (tb_one _) ?_
                  have s9 : Below w3.heap.size w3 (w3z.setRow bx ⟨(U).list⟩) := below_setRow s2 bx _ hbs
                  have HXR := Lib.hid (r3.setRow (U))
                  generalize w3z.setRow bx ⟨(U).list⟩ = wz at *
                  refine hK.out _ _ s9 (fun _ => ?_)
                  clear hK K
                  try simp only [Act.put, List.getElem_toArray, List.getElem_cons_succ, List.getElem_cons_zero, List.setIfInBounds_toArray, List.set_cons_zero, List.set_cons_succ, Nat.zero_add, List.nil_append]
                  refine wpAnyH_take (i := 13) (v := .int .i64 0) rfl (by kernel_rfl) (by kernel_rfl) (by kernel_rfl) (fun _ _ _ h => h) (Or.inl ⟨by rfl, fun w' hw' => by go_simp⟩) s9 ?_
                  try simp only [Act.put, List.getElem_toArray, List.getElem_cons_succ, List.getElem_cons_zero, List.setIfInBounds_toArray, List.set_cons_zero, List.set_cons_succ, Nat.zero_add, List.nil_append]
                  refine wpAnyH_done (by kernel_rfl) ?_ _
                  have HZB := Lib.hid s9
                  have HBS := Lib.hid hbs
                  clear r3 hbs s9 s0 s1 s2
                  go_wp2_with fail
                  go_meet
                  case rel => exact ⟨_, rfl, rfl, HBS.out, HXR.out, HZB.out⟩
            case rest =>
              obtain ⟨bU, rfl, rfl, hbU, hU, hl⟩ := hcut
              replace HT := Lib.hid (HT.out.keep hl)
              have HU := Lib.hid hU
              replace c0 := (hl.cell (p := ⟨bA, 0, none⟩) hA3).trans c0
              replace c1 := (hl.cell (p := ⟨bA, 1, none⟩) hA3).trans c1
              replace HW := Lib.hid (below_next HW.out hl)
              have hA5 := Nat.lt_of_lt_of_le hA3 hl.size
              have hn0 : ¬ (n : Int) = 0 := by omega
              have hn00 : ((n : Int) == 0) = false := by simp; omega
              clear hl hU hbU hA3 hA4 AP
              go_wp2_with (first
                | (refine load_tb (T := U) rfl rfl rfl HU.out sU ?_))
              refine (AP2.out _).mono ?_
              rintro e w5 ⟨rfl, l5⟩
              replace HT := Lib.hid (HT.out.keep l5)
              replace HU := Lib.hid (HU.out.keep l5)
              replace c0 := (l5.cell (p := ⟨bA, 0, none⟩) hA5).trans c0
              replace c1 := (l5.cell (p := ⟨bA, 1, none⟩) hA5).trans c1
              replace HW := Lib.hid (below_next HW.out l5)
              have hA6 := Nat.lt_of_lt_of_le hA5 l5.size
              obtain ⟨h2, l2, hlt2⟩ := laid_tb (w := w5) (T := U) (U := Tb.zero)
              have H1 := Lib.hid (TbR.new w5 Tb.zero)
              replace HT := Lib.hid (HT.out.keep l2)
              replace HU := Lib.hid (HU.out.keep l2)
              replace c0 := (l2.cell (p := ⟨bA, 0, none⟩) hA6).trans c0
              replace c1 := (l2.cell (p := ⟨bA, 1, none⟩) hA6).trans c1
              replace HW := Lib.hid (below_next HW.out l2)
              have hA7 := Nat.lt_of_lt_of_le hA6 l2.size
              clear h2 l2 l5 hlt2 AP2
              go_upto_region 18 with (first
                | (refine store_tb (U := U) rfl rfl rfl rfl H1.out Tb.zero_sz sU ?_))
              clear H1
              generalize (w5.alloc (.cells ⟨Tb.zero.list⟩ 29)).setRow w5.heap.size ⟨U.list⟩ = w6 at *
              generalize w5.heap.size = b5 at *
              go_wp2_with (first
                | (refine load_tb (T := U) rfl rfl rfl HU.out sU ?_))
              refine (AP3.out _).mono ?_
              rintro e w7 ⟨rfl, l7⟩
              replace HT := Lib.hid (HT.out.keep l7)
              replace HU := Lib.hid (HU.out.keep l7)
              replace c0 := (l7.cell (p := ⟨bA, 0, none⟩) hA7).trans c0
              replace c1 := (l7.cell (p := ⟨bA, 1, none⟩) hA7).trans c1
              replace HW := Lib.hid (below_next HW.out l7)
              have hA8 := Nat.lt_of_lt_of_le hA7 l7.size
              obtain ⟨h2, l2, hlt2⟩ := laid_tb (w := w7) (T := U) (U := Tb.zero)
              have H1 := Lib.hid (TbR.new w7 Tb.zero)
              replace HT := Lib.hid (HT.out.keep l2)
              replace HU := Lib.hid (HU.out.keep l2)
              replace c0 := (l2.cell (p := ⟨bA, 0, none⟩) hA8).trans c0
              replace c1 := (l2.cell (p := ⟨bA, 1, none⟩) hA8).trans c1
              replace HW := Lib.hid (below_next HW.out l2)
              have hA9 := Nat.lt_of_lt_of_le hA8 l2.size
              clear h2 l2 l7 hlt2 AP3
              go_upto_region 19 with (first
                | (refine store_tb (U := U) rfl rfl rfl rfl H1.out Tb.zero_sz sU ?_))
              clear H1
              generalize (w7.alloc (.cells ⟨Tb.zero.list⟩ 29)).setRow w7.heap.size ⟨U.list⟩ = wc at *
              generalize w7.heap.size = b7 at *
              clear hA5 hA6 hA7 hA8
              go_wp2_with fail
              go_loopw [18, 19] (fun i _ wr => ∃ k : Nat, k ≤ 64 ∧ i = .int .i64 (k : Int) ∧ Below wc.heap.size wc wr) (fun i _ _ => 64 - (intOf i).toNat)
              case atStart => exact ⟨0, Nat.zero_le _, rfl, Below.refl _ _⟩
              case round =>
                obtain ⟨k, hk, rfl, hb⟩ := hrel
                replace c0 := (hb.cell (p := ⟨bA, 0, none⟩) hA9).trans c0
                replace c1 := (hb.cell (p := ⟨bA, 1, none⟩) hA9).trans c1
                have HB9 := Lib.hid hb
                have HTk := Lib.hid (HT.out.keep hb)
                have HUk := Lib.hid (HU.out.keep hb)
                clear hb
                by_cases hlt : k < 64
                · have CH := Lib.hid (has_any (F : Int) z (k : Int))
                  have y := Y5.out k hlt
                  cases hh : hasB (F : Int) z (k : Int)
                  · rw [hh] at CH
                    have ye := y.2 hh
                    clear y hh
                    go_wp2_with fail
                    refine (CH.out _).mono ?_
                    rintro e wx ⟨rfl, lx⟩
                    have cT := (HTk.out.keep lx).inc sT hlt
                    have cI := (HUk.out.keep lx).inc sU hlt
                    have cU := (HUk.out.keep lx).own sU hlt
                    have cV := (HUk.out.keep lx).ver
                    rw [ye] at cI
                    clear ye
                    generalize T.i k = x at *
                    have HBx := Lib.hid (below_next HB9.out lx)
                    clear lx c0 c1
                    go_upto_region 23 with (fail)
                    replace cT := cell_regrown cT
                    replace cI := cell_regrown cI
                    replace cU := cell_regrown cU
                    replace cV := cell_regrown cV
                    refine wp_region_quiet_below (by kernel_rfl) (by kernel_rfl) ?_
                    repeat (go_big_quiet_step (fail))
                    refine wpQuiet_nil ?_
                    intro _ hw'
                    obtain ⟨⟨dq, osq⟩, hw''⟩ := hw'
                    subst hw''
                    have lk := below_regrown wx dq osq
                    replace HBx := Lib.hid (below_next HBx.out lk)
                    generalize grow (redrawn wx dq) osq = wy at *
                    clear lk cT cU cI cV
                    go_wp2_with fail
                    go_roundw
                    case rel => exact ⟨k + 1, by omega, by go_num, HBx.out⟩
                    case measure => simp [intOf]; omega
                  · rw [hh] at CH
                    have ye := y.1 hh
                    clear y hh
                    go_wp2_with fail
                    refine (CH.out _).mono ?_
                    rintro e wx ⟨rfl, lx⟩
                    have cT := (HTk.out.keep lx).inc sT hlt
                    have cI := (HUk.out.keep lx).inc sU hlt
                    have cU := (HUk.out.keep lx).own sU hlt
                    have cV := (HUk.out.keep lx).ver
                    rw [ye.1] at cI
                    rw [ye.2] at cU
                    clear ye
                    generalize U.ver = x at *
                    have HBx := Lib.hid (below_next HB9.out lx)
                    clear lx c0 c1
                    go_upto_region 23 with (fail)
                    replace cT := cell_regrown cT
                    replace cI := cell_regrown cI
                    replace cU := cell_regrown cU
                    replace cV := cell_regrown cV
                    refine wp_region_quiet_below (by kernel_rfl) (by kernel_rfl) ?_
                    repeat (go_big_quiet_step (fail))
                    refine wpQuiet_nil ?_
                    intro _ hw'
                    obtain ⟨⟨dq, osq⟩, hw''⟩ := hw'
                    subst hw''
                    have lk := below_regrown wx dq osq
                    replace HBx := Lib.hid (below_next HBx.out lk)
                    generalize grow (redrawn wx dq) osq = wy at *
                    clear lk cT cU cI cV
                    go_wp2_with fail
                    go_roundw
                    case rel => exact ⟨k + 1, by omega, by go_num, HBx.out⟩
                    case measure => simp [intOf]; omega
                · obtain rfl : 64 = k := by omega
                  go_wp2_with fail
                  go_ret
                  exact ⟨rfl, below_next HW.out HB9.out⟩
          · skip
            have AP := Lib.hid (ap_no hok.out ⟨3, m, B, F, z, 0, 0⟩ zle zle32 _ rfl h0)
            have hne : (refuse T ⟨3, m, B, F, z, 0, 0⟩ != 0) = true := by simpa using h0
            generalize refuse T ⟨3, m, B, F, z, 0, 0⟩ = y at *
            go_cut [11, 12] from 73 to 83 (fun sT sE wx => ∃ bV, sT = .pointer (some ⟨bV, 0, none⟩) ∧ sE = .int .i64 y ∧ w3.heap.size ≤ bV ∧ TbR wx bV T ∧ Below w3.heap.size w3 wx)
            case first =>
              as_aux_lemma =>
                refine wp_region_held_drew (S := fun w' => Below w3.heap.size w3 w') (by kernel_rfl) ((Below.refl _ _).drew) (fun s0 => ?_)
                generalize w3.drew = wd at *
                refine wpAnyH_take (i := 0) (v := .agg ⟨T.list⟩) rfl (by kernel_rfl) (by kernel_rfl) (by kernel_rfl) (fun _ _ _ h => h) (Or.inl ⟨by rfl, fun w' hw' => by exact exec_load 29 (.tmp 8) rfl rfl ((HT.out.keep hw').load sT)⟩) s0 ?_
                try simp only [Act.put, List.getElem_toArray, List.getElem_cons_succ, List.getElem_cons_zero, List.setIfInBounds_toArray, List.set_cons_zero, List.set_cons_succ, Nat.zero_add, List.nil_append]
                refine wpAnyH_take (i := 1) (v := .int .i64 (t : Int)) rfl (by kernel_rfl) (by kernel_rfl) (by kernel_rfl) (fun _ _ _ h => h) (Or.inl ⟨by rfl, fun w' hw' => by go_simp⟩) s0 ?_
                try simp only [Act.put, List.getElem_toArray, List.getElem_cons_succ, List.getElem_cons_zero, List.setIfInBounds_toArray, List.set_cons_zero, List.set_cons_succ, Nat.zero_add, List.nil_append]
                refine wpAnyH_take (i := 2) (v := .int .i64 (n : Int)) rfl (by kernel_rfl) (by kernel_rfl) (by kernel_rfl) (fun _ _ _ h => h) (Or.inl ⟨by rfl, fun w' hw' => by go_simp⟩) s0 ?_
                try simp only [Act.put, List.getElem_toArray, List.getElem_cons_succ, List.getElem_cons_zero, List.setIfInBounds_toArray, List.set_cons_zero, List.set_cons_succ, Nat.zero_add, List.nil_append]
                refine wpAnyH_take (i := 3) (v := .int .i64 (m : Int)) rfl (by kernel_rfl) (by kernel_rfl) (by kernel_rfl) (fun _ _ _ h => h) (Or.inl ⟨by rfl, fun w' hw' => by go_simp; omega⟩) s0 ?_
                try simp only [Act.put, List.getElem_toArray, List.getElem_cons_succ, List.getElem_cons_zero, List.setIfInBounds_toArray, List.set_cons_zero, List.set_cons_succ, Nat.zero_add, List.nil_append]
                refine wpAnyH_take (i := 4) (v := .int .i64 (B : Int)) rfl (by kernel_rfl) (by kernel_rfl) (by kernel_rfl) (fun _ _ _ h => h) (Or.inl ⟨by rfl, fun w' hw' => by go_simp⟩) s0 ?_
                try simp only [Act.put, List.getElem_toArray, List.getElem_cons_succ, List.getElem_cons_zero, List.setIfInBounds_toArray, List.set_cons_zero, List.set_cons_succ, Nat.zero_add, List.nil_append]
                refine wpAnyH_take (i := 5) (v := .agg #[.int .i64 (F : Int), .int .i64 z]) rfl (by kernel_rfl) (by kernel_rfl) (by kernel_rfl) (fun _ _ _ h => h) (Or.inl ⟨by rfl, fun w' hw' => by have z0 := (hw'.cell (p := ⟨bA, 0, none⟩) hA4).trans c0; have z1 := (hw'.cell (p := ⟨bA, 1, none⟩) hA4).trans c1; go_simp⟩) s0 ?_
                try simp only [Act.put, List.getElem_toArray, List.getElem_cons_succ, List.getElem_cons_zero, List.setIfInBounds_toArray, List.set_cons_zero, List.set_cons_succ, Nat.zero_add, List.nil_append]
                refine wpAnyH_take (i := 6) (v := .agg #[.int .i64 3, .int .i64 (m : Int), .int .i64 (B : Int), .int .i64 (F : Int), .int .i64 z, .int .u32 0, .int .u32 0]) rfl (by kernel_rfl) (by kernel_rfl) (by kernel_rfl) (fun _ _ _ h => h) (Or.inl ⟨by rfl, fun w' hw' => by go_simp⟩) s0 ?_
                try simp only [Act.put, List.getElem_toArray, List.getElem_cons_succ, List.getElem_cons_zero, List.setIfInBounds_toArray, List.set_cons_zero, List.set_cons_succ, Nat.zero_add, List.nil_append]
                refine wpAnyH_ready (rs := [7, 11]) (by kernel_rfl) (by simp) ?_
                refine AllReadyH.cons rfl (fun K hK => ?_) (AllReadyH.cons rfl (fun K hK => ?_) AllReadyH.nil)
                · skip
                  rw [if_pos (by rfl)]
                  go_simp
                  refine (AP.out wd).mono ?_; rintro e w2 ⟨rfl, b2⟩
                  have s1 := below_next s0 b2
                  
                  clear b2
                  go_simp
                  refine hK.out _ _ s1 (fun _ => ?_)
                  clear hK K
                  try simp only [Act.put, List.getElem_toArray, List.getElem_cons_succ, List.getElem_cons_zero, List.setIfInBounds_toArray, List.set_cons_zero, List.set_cons_succ, Nat.zero_add, List.nil_append]
                  refine wpAnyH_take (i := 8) (v := .tuple #[.agg ⟨(T).list⟩, .int .i64 y]) rfl (by kernel_rfl) (by kernel_rfl) (by kernel_rfl) (fun _ _ _ h => h) (Or.inl ⟨by rfl, fun w' hw' => by go_simp⟩) s1 ?_
                  try simp only [Act.put, List.getElem_toArray, List.getElem_cons_succ, List.getElem_cons_zero, List.setIfInBounds_toArray, List.set_cons_zero, List.set_cons_succ, Nat.zero_add, List.nil_append]
                  refine wpAnyH_take (i := 9) (v := .agg ⟨(T).list⟩) rfl (by kernel_rfl) (by kernel_rfl) (by kernel_rfl) (fun _ _ _ h => h) (Or.inl ⟨by rfl, fun w' hw' => by go_simp⟩) s1 ?_
                  try simp only [Act.put, List.getElem_toArray, List.getElem_cons_succ, List.getElem_cons_zero, List.setIfInBounds_toArray, List.set_cons_zero, List.set_cons_succ, Nat.zero_add, List.nil_append]
                  refine wpAnyH_take (i := 10) (v := .int .i64 y) rfl (by kernel_rfl) (by kernel_rfl) (by kernel_rfl) (fun _ _ _ h => h) (Or.inl ⟨by rfl, fun w' hw' => by go_simp⟩) s1 ?_
                  try simp only [Act.put, List.getElem_toArray, List.getElem_cons_succ, List.getElem_cons_zero, List.setIfInBounds_toArray, List.set_cons_zero, List.set_cons_succ, Nat.zero_add, List.nil_append]
                  refine wpAnyH_ready (rs := [11]) (by kernel_rfl) (by simp) ?_
                  refine AllReadyH.cons rfl (fun K hK => ?_) AllReadyH.nil
                  rw [if_pos (by rfl)]
                  go_simp
                  have r3 := TbR.new w2 Tb.zero
                  have s2 := below_alloc s1 (.cells ⟨Tb.zero.list⟩ 29)
                  have hbs := s1.size
                  generalize w2.alloc (.cells ⟨Tb.zero.list⟩ 29) = w3z at *
                  obtain ⟨bx, hbx⟩ : ∃ q, q = w2.heap.size := ⟨_, rfl⟩
                  rw [← hbx] at r3 hbs ⊢
                  clear hbx
                  refine hK.out _ _ s2 (fun _ => ?_)
                  clear hK K
                  try simp only [Act.put, List.getElem_toArray, List.getElem_cons_succ, List.getElem_cons_zero, List.setIfInBounds_toArray, List.set_cons_zero, List.set_cons_succ, Nat.zero_add, List.nil_append]
                  refine wpAnyH_ready (rs := [12]) (by kernel_rfl) (by simp) ?_
                  refine AllReadyH.cons rfl (fun K hK => ?_) AllReadyH.nil
                  rw [if_pos (by rfl)]
                  refine wp_store_row 29 (.tmp 11) (.tmp 82) rfl bx ⟨(T).list⟩ rfl rfl 29 _ r3 (by rw [List.size_toArray, sT.len, tb_info]) (by simp [Tb.zero_sz.len, sT.len]) (tb_one _) ?_
                  have s9 : Below w3.heap.size w3 (w3z.setRow bx ⟨(T).list⟩) := below_setRow s2 bx _ hbs
                  have HXR := Lib.hid (r3.setRow (T))
                  generalize w3z.setRow bx ⟨(T).list⟩ = wz at *
                  refine hK.out _ _ s9 (fun _ => ?_)
                  clear hK K
                  try simp only [Act.put, List.getElem_toArray, List.getElem_cons_succ, List.getElem_cons_zero, List.setIfInBounds_toArray, List.set_cons_zero, List.set_cons_succ, Nat.zero_add, List.nil_append]
                  refine wpAnyH_take (i := 13) (v := .int .i64 y) rfl (by kernel_rfl) (by kernel_rfl) (by kernel_rfl) (fun _ _ _ h => h) (Or.inl ⟨by rfl, fun w' hw' => by go_simp⟩) s9 ?_
                  try simp only [Act.put, List.getElem_toArray, List.getElem_cons_succ, List.getElem_cons_zero, List.setIfInBounds_toArray, List.set_cons_zero, List.set_cons_succ, Nat.zero_add, List.nil_append]
                  refine wpAnyH_done (by kernel_rfl) ?_ _
                  have HZB := Lib.hid s9
                  have HBS := Lib.hid hbs
                  clear r3 hbs s9 s0 s1 s2
                  go_wp2_with fail
                  go_meet
                  case rel => exact ⟨_, rfl, rfl, HBS.out, HXR.out, HZB.out⟩
                · skip
                  rw [if_pos (by rfl)]
                  go_simp
                  have r3 := TbR.new wd Tb.zero
                  have s1 := below_alloc s0 (.cells ⟨Tb.zero.list⟩ 29)
                  have hbs := s0.size
                  generalize wd.alloc (.cells ⟨Tb.zero.list⟩ 29) = w2 at *
                  obtain ⟨bx, hbx⟩ : ∃ q, q = wd.heap.size := ⟨_, rfl⟩
                  rw [← hbx] at r3 hbs ⊢
                  clear hbx
                  refine hK.out _ _ s1 (fun _ => ?_)
                  clear hK K
                  try simp only [Act.put, List.getElem_toArray, List.getElem_cons_succ, List.getElem_cons_zero, List.setIfInBounds_toArray, List.set_cons_zero, List.set_cons_succ, Nat.zero_add, List.nil_append]
                  refine wpAnyH_ready (rs := [7]) (by kernel_rfl) (by simp) ?_
                  refine AllReadyH.cons rfl (fun K hK => ?_) AllReadyH.nil
                  rw [if_pos (by rfl)]
                  go_simp
                  refine (AP.out w2).mono ?_; rintro e w3z ⟨rfl, b2⟩
                  have s2 := below_next s1 b2
                  have r3 := r3.keep b2
                  clear b2
                  go_simp
                  refine hK.out _ _ s2 (fun _ => ?_)
                  clear hK K
                  try simp only [Act.put, List.getElem_toArray, List.getElem_cons_succ, List.getElem_cons_zero, List.setIfInBounds_toArray, List.set_cons_zero, List.set_cons_succ, Nat.zero_add, List.nil_append]
                  refine wpAnyH_take (i := 8) (v := .tuple #[.agg ⟨(T).list⟩, .int .i64 y]) rfl (by kernel_rfl) (by kernel_rfl) (by kernel_rfl) (fun _ _ _ h => h) (Or.inl ⟨by rfl, fun w' hw' => by go_simp⟩) s2 ?_
                  try simp only [Act.put, List.getElem_toArray, List.getElem_cons_succ, List.getElem_cons_zero, List.setIfInBounds_toArray, List.set_cons_zero, List.set_cons_succ, Nat.zero_add, List.nil_append]
                  refine wpAnyH_take (i := 9) (v := .agg ⟨(T).list⟩) rfl (by kernel_rfl) (by kernel_rfl) (by kernel_rfl) (fun _ _ _ h => h) (Or.inl ⟨by rfl, fun w' hw' => by go_simp⟩) s2 ?_
                  try simp only [Act.put, List.getElem_toArray, List.getElem_cons_succ, List.getElem_cons_zero, List.setIfInBounds_toArray, List.set_cons_zero, List.set_cons_succ, Nat.zero_add, List.nil_append]
                  refine wpAnyH_take (i := 10) (v := .int .i64 y) rfl (by kernel_rfl) (by kernel_rfl) (by kernel_rfl) (fun _ _ _ h => h) (Or.inl ⟨by rfl, fun w' hw' => by go_simp⟩) s2 ?_
                  try simp only [Act.put, List.getElem_toArray, List.getElem_cons_succ, List.getElem_cons_zero, List.setIfInBounds_toArray, List.set_cons_zero, List.set_cons_succ, Nat.zero_add, List.nil_append]
                  refine wpAnyH_ready (rs := [12]) (by kernel_rfl) (by simp) ?_
                  refine AllReadyH.cons rfl (fun K hK => ?_) AllReadyH.nil
                  rw [if_pos (by rfl)]
                  refine wp_store_row 29 (.tmp 11) (.tmp 82) rfl bx ⟨(T).list⟩ rfl rfl 29 _ r3 (by rw [List.size_toArray, sT.len, tb_info]) (by simp [Tb.zero_sz.len, sT.len]) (tb_one _) ?_
                  have s9 : Below w3.heap.size w3 (w3z.setRow bx ⟨(T).list⟩) := below_setRow s2 bx _ hbs
                  have HXR := Lib.hid (r3.setRow (T))
                  generalize w3z.setRow bx ⟨(T).list⟩ = wz at *
                  refine hK.out _ _ s9 (fun _ => ?_)
                  clear hK K
                  try simp only [Act.put, List.getElem_toArray, List.getElem_cons_succ, List.getElem_cons_zero, List.setIfInBounds_toArray, List.set_cons_zero, List.set_cons_succ, Nat.zero_add, List.nil_append]
                  refine wpAnyH_take (i := 13) (v := .int .i64 y) rfl (by kernel_rfl) (by kernel_rfl) (by kernel_rfl) (fun _ _ _ h => h) (Or.inl ⟨by rfl, fun w' hw' => by go_simp⟩) s9 ?_
                  try simp only [Act.put, List.getElem_toArray, List.getElem_cons_succ, List.getElem_cons_zero, List.setIfInBounds_toArray, List.set_cons_zero, List.set_cons_succ, Nat.zero_add, List.nil_append]
                  refine wpAnyH_done (by kernel_rfl) ?_ _
                  have HZB := Lib.hid s9
                  have HBS := Lib.hid hbs
                  clear r3 hbs s9 s0 s1 s2
                  go_wp2_with fail
                  go_meet
                  case rel => exact ⟨_, rfl, rfl, HBS.out, HXR.out, HZB.out⟩
            case rest =>
              obtain ⟨bU, rfl, rfl, hbU, hU, hl⟩ := hcut
              replace HT := Lib.hid (HT.out.keep hl)
              have HU := Lib.hid hU
              replace HW := Lib.hid (below_next HW.out hl)
              clear hl hU hbU hA3 hA4 AP c0 c1
              go_wp2_with (first
                | (refine load_tb (T := T) rfl rfl rfl HT.out sT ?_)
                | (refine load_tb (T := T) rfl rfl rfl HU.out sT ?_)
                | (refine wpList_value rfl _ (exec_bin .eql 29 29 (.tmp 86) (.tmp 87) rfl rfl rfl (eql_tb sT _) (run_eqGuard_agg _ _ _ _ _ _ _ (by kernel_rfl))) ?_))
              go_ret
              exact ⟨rfl, HW.out⟩
        · have hf' : f < 0 ∨ 63 < f := by omega
          clear hf
          rcases hf' with hf | hf
          · go_wp2_with fail
            refine (alive_any _).mono ?_
            rintro e w4 ⟨rfl, l4⟩
            go_wp2_with fail
            go_ret
            exact ⟨rfl, below_next HW.out l4⟩
          · go_wp2_with fail
            refine (alive_any _).mono ?_
            rintro e w4 ⟨rfl, l4⟩
            go_wp2_with fail
            go_ret
            exact ⟨rfl, below_next HW.out l4⟩
end Go.Proofs.Ytikeiocgnjdhbaa
