/- ArcsWhole: the walk. -/
import Derived.Test.YtjgmgcniemncjaaWhole
namespace Go.Proofs.Ytjgmgcniemncjaa
open Go.RowKit Go.Sort
set_option linter.unusedVariables false

/-- n places lie in a slice of the call's own, in a block from B on -/
def SlQ (w : World) (B : Nat) (ao : Option Addr) (n : Nat) (F : Nat → Nat) : Prop := ∀ j, j < n → ∃ g, ao = some ⟨g, 0, none⟩ ∧ B ≤ g ∧ g < w.heap.size ∧ w.cell? ⟨g, j, none⟩ = some (.int .i64 (F j : Int))
theorem SlQ.below {w w' : World} {B : Nat} {ao : Option Addr} {n : Nat} {F : Nat → Nat} (h : SlQ w B ao n F) (b : Below w.heap.size w w') : SlQ w' B ao n F := fun j hj => by
  obtain ⟨g, h1, h0, h2, h3⟩ := h j hj
  exact ⟨g, h1, h0, Nat.lt_of_lt_of_le h2 b.size, (b.cell h2).trans h3⟩
theorem SlQ.set {w : World} {B G o : Nat} {ao : Option Addr} {n : Nat} {F : Nat → Nat} (h : SlQ w B ao n F) (hG : G < B) (v : Value) : SlQ (w.setCell ⟨G, o, none⟩ v) B ao n F := fun j hj => by
  obtain ⟨g, h1, h0, h2, h3⟩ := h j hj
  refine ⟨g, h1, h0, by simpa using h2, ?_⟩
  rw [World.cell?_setCell_other _ _ _ _ (by intro e; injection e; omega)]
  exact h3
theorem made_placesQ {w' : World} {F S b : Nat} {v : Value} (hF : F < 64) (hS : S ≤ 64) (h : w'.ownsRow b 3 1 v (places (F : Int) (S : Int)).length ((places (F : Int) (S : Int)).map (Value.int .i64))) :
    ∃ ao cap, v = .slice ao S cap ∧ SlQ w' b ao S (fun j => (F + j) % 64) := by
  have hr : rightB (F : Int) (S : Int) = true := right_spec.2 (by omega)
  have hnp : np (F : Int) (S : Int) = S := by unfold np; rw [places_length, if_pos hr]; omega
  have hnp' : (places (F : Int) (S : Int)).length = S := hnp
  obtain ⟨ao, cap, rfl⟩ := own_form h
  rw [hnp'] at h ⊢
  refine ⟨ao, cap, rfl, fun j hj => ?_⟩
  have hget := places_get (F : Int) (S : Int) j (by omega)
  rw [show ((F : Int) + (j : Nat)) % 64 = (((F + j) % 64 : Nat) : Int) by omega] at hget
  obtain ⟨g, e1, e2, e3⟩ := sl_of_own h j _ hget
  refine ⟨g, e1, ?_, e2, e3⟩
  have := h.lt g (by rw [e1]; rfl)
  exact this.1
theorem atL_from (L : List (Nat × Nat)) (i : Nat) : fromOf L i = ((atL L i).1 : Int) := rfl
theorem atL_size (L : List (Nat × Nat)) (i : Nat) : sizeOf_ L i = ((atL L i).2 : Int) := rfl
theorem wpList_wanted {P : Program} {ops : Array Oper} {rest : List Oper} {o : Oper} {a : Act} {w : World} {Q : Exit → Act → World → Prop} (hw : Region.wanted o (yielded ops a.tmps) = true) (v : Value)
    (hrun : (execOp a.eval o).run P w = .ok (.value v) w) (h : wpList P ops Q rest (a.put o.dst v) w) : wpList P ops Q (o :: rest) a w :=
  wpList_step fun K hK => by
    rw [if_pos hw]
    unfold Oper.wp
    simp only [hrun, Oper.upon]
    exact hK _ _ h

set_option maxRecDepth 100000 in
set_option maxHeartbeats 4000000 in
theorem whole_no (bs : List Bool) (hl : bs.length = 64) (f s n0 : Int) (hn : ¬ (rightB f s = true ∧ 0 ≤ n0 ∧ n0 ≤ s)) (w : World) :
    Calls Try.prog 6 #[.agg #[.int .i64 f, .int .i64 s], .int .i64 n0, .agg ⟨bs.map Value.bool⟩] w (LawOk w) := by
  have c1 : Ret 20 #[arc f s, .int .i64 n0] (.returned (splitR 0 0 0 0 21)) := by
    cases hr : rightB f s
    · exact split_no f s n0 hr
    · by_cases h0 : n0 < 0
      · exact split_low f s n0 hr h0
      · by_cases h : s < n0
        · exact split_high f s n0 hr (by omega) h
        · exact absurd ⟨hr, by omega, by omega⟩ hn
  have C1 := Lib.hid c1; clear c1 hn
  have HL := Lib.hid hl; clear hl
  go_enter Try.func6, Try.ntmps6
  go_wp2_with fail
  refine (C1.out _).mono ?_
  rintro e w1 ⟨rfl, l1⟩
  have hrow := Row.new (w.alloc (.cells #[.int .i64 f, .int .i64 s] 23)) 37 bs
  rw [World.size_alloc] at hrow
  have HIN := Lib.hid (((hrow.keep l1).alloc (.cells #[.int .i64 0, .int .i64 0] 23)).alloc (.cells #[.int .i64 0, .int .i64 0] 23))
  have hW2 := below_alloc (below_alloc (below_of_alloc (below_of_alloc l1)) (.cells #[.int .i64 0, .int .i64 0] 23)) (.cells #[.int .i64 0, .int .i64 0] 23)
  have hll0 := Lib.hid (arr_row _ HIN.out HL.out)
  clear hrow l1
  go_wp2_with (refine wpList_value rfl _ (exec_load 37 (.tmp 5) rfl rfl hll0.out) ?_)
  clear hll0
  generalize (w1.alloc (.cells #[.int .i64 0, .int .i64 0] 23)).alloc (.cells #[.int .i64 0, .int .i64 0] 23) = W2 at *
  refine (of_any bs HL.out _).mono ?_
  rintro e w5 ⟨v, rfl, hown, l5⟩
  obtain ⟨ao, cap, rfl, s5⟩ := made_arcs hown
  have S5 := Lib.hid s5
  have hin5 := HIN.out.keep l5
  have hW5 := below_next hW2 l5
  have HIN5 := Lib.hid hin5
  have hA5 : w.heap.size + 1 < w5.heap.size := hin5.lt
  have GD := Lib.hid (good_ofL HL.out)
  have hLL := ofL_length bs
  clear s5 hown l5 HIN hin5
  generalize ofL bs = L at *
  obtain ⟨n, hn⟩ : ∃ n, n = L.length := ⟨_, rfl⟩
  rw [← hn] at S5 hLL
  rw [← hn]
  have HN := Lib.hid hn; clear hn
  go_wp2_with fail
  change Code.wp _ _ _ _ (World.alloc w5 (.cells ⟨zeros.map Value.bool⟩ 37))
  have hr0 : Row (w5.alloc (.cells ⟨zeros.map Value.bool⟩ 37)) w5.heap.size 37 (rowC L 0 0) := by
    rw [rowC_start]; exact Row.new w5 _ zeros
  have hb0 : Below w5.heap.size w5 (w5.alloc (.cells ⟨zeros.map Value.bool⟩ 37)) := below_alloc (Below.refl _ _) _
  generalize w5.alloc (.cells ⟨zeros.map Value.bool⟩ 37) = W6 at *
  have HR0 := Lib.hid hr0; clear hr0
  go_loopw [17] (fun i wr => ∃ k : Nat, k ≤ n ∧ i = .int .i64 (k : Int) ∧ Row wr w5.heap.size 37 (rowC L k 0) ∧ Below w5.heap.size w5 wr) (fun i _ => n - (intOf i).toNat)
  case atStart => exact ⟨0, Nat.zero_le _, rfl, HR0.out, hb0⟩
  case round =>
    clear HR0 hb0
    obtain ⟨i, hi, rfl, hr, hb⟩ := hrel
    have HR := Lib.hid hr; clear hr
    by_cases hlt : i < n
    · have hiL : i < L.length := by rw [← HN.out]; exact hlt
      obtain ⟨g, rfl, p1, q1, q2⟩ := S5.out i hlt
      have S6 := Lib.hid S5.out
      rw [atL_from] at q1
      rw [atL_size] at q2
      have Q1 := Lib.hid q1; have Q2 := Lib.hid q2; clear q1 q2
      have r1 := (hb.cell (p := ⟨g, i * 2, none⟩) p1).trans Q1.out
      have r2 := (hb.cell (p := ⟨g, i * 2 + 1, none⟩) p1).trans Q2.out
      have hle := GD.out.le i hiL
      have HFR := Lib.hid (fun k (hk : k < (atL L i).2) => GD.out.fresh i k hiL hk)
      have HST := Lib.hid (GD.out.stop i hiL)
      have HNX := Lib.hid (rowC_next L i hiL)
      have HSU := Lib.hid (rowC_succ L i)
      have HPR := Lib.hid (fun i' (e : i = i' + 1) => GD.out.mono i' (by rw [← e]; exact hiL))
      obtain ⟨F, hF⟩ : ∃ F, F = (atL L i).1 := ⟨_, rfl⟩
      obtain ⟨S, hS⟩ : ∃ S, S = (atL L i).2 := ⟨_, rfl⟩
      rw [← hF] at r1 hle Q1
      rw [← hS] at r2 hle Q2
      rw [← hF, ← hS] at HST
      rw [← hS] at HNX HFR
      have HF := Lib.hid hF; have HS := Lib.hid hS; clear hF hS
      have hF64 := hle.1; have hS1 := hle.2.1; have hS64 := hle.2.2; clear hle
      have PL := Lib.hid (places_any (F : Int) (S : Int))
      go_wp2_with fail
      refine (PL.out _).mono ?_
      rintro e w7 ⟨v, rfl, hown7, l7⟩
      obtain ⟨bo, cap7, rfl, s7⟩ := made_placesQ hF64 hS64 hown7
      have hb7 := below_next hb l7
      have HR7 := Lib.hid (HR.out.keep l7)
      have hGB : w5.heap.size < wr.heap.size := HR.out.lt
      have S7 := Lib.hid s7
      clear s7 hown7 l7 hb HR r1 r2 PL hi
      have z1 : ((S : Int) == 0) = false := by simp; omega
      have z2 : (S == 0) = false := by simp; omega
      go_wp2_with fail
      have hway : i = 0 ∨ ∃ i', i = i' + 1 := by
        cases i with
        | zero => exact .inl rfl
        | succ i' => exact .inr ⟨i', rfl⟩
      rcases hway with hi0 | ⟨i', hi1⟩
      · have t1 : decide ((0 : Int) < (i : Int)) = false := by simp; omega
        have t2 : decide (0 < i) = false := by simp; omega
        have HI0 := Lib.hid hi0; clear hi0
        refine wp_region_quiet_below (by kernel_rfl) (by kernel_rfl) ?_
        repeat (go_big_quiet_step (fail))
        refine wpQuiet_nil ?_
        intro _ hw'
        obtain ⟨⟨dq, osq⟩, hw''⟩ := hw'
        subst hw''
        have lk := below_regrown w7 dq osq
        have hb8 := below_next hb7 lk
        have HR8 := Lib.hid (HR7.out.keep lk)
        have S8 := Lib.hid (SlQ.below S7.out lk)
        generalize grow (redrawn w7 dq) osq = w8 at *
        clear lk HR7 S7 hb7
        go_wp2_with fail
        go_loopw [19] (fun kk wq => ∃ k : Nat, k ≤ S ∧ kk = .int .i64 (k : Int) ∧ Row wq w5.heap.size 37 (rowC L i k) ∧ SlQ wq wr.heap.size bo S (fun j => (F + j) % 64) ∧ Below w5.heap.size w5 wq) (fun kk _ => S - (intOf kk).toNat)
        case atStart => exact ⟨0, Nat.zero_le _, rfl, HR8.out, S8.out, hb8⟩
        case round =>
          clear HR8 S8 hb8
          obtain ⟨k, hk, rfl, hr9, hs9, hb9⟩ := hrel
          have HR9 := Lib.hid hr9; have S9 := Lib.hid hs9; clear hr9 hs9
          by_cases hkS : k < S
          · obtain ⟨gq, rfl, _, _, c9⟩ := S9.out k hkS
            have hfr := HFR.out k hkS
            rw [← HF.out] at hfr
            have hm : (F + k) % 64 < 64 := Nat.mod_lt _ (by omega)
            have hcell := HR9.out.in (rowC_length L i k) _ hm
            rw [rowC_get _ _ _ _ hm, hfr] at hcell
            have hfz := HR9.out.frozen ((F + k) % 64)
            have HSS := Lib.hid (HSU.out k)
            rw [← HF.out] at HSS
            dsimp only at c9
            clear hfr
            generalize (F + k) % 64 = m at *
            go_wp2_with fail
            go_roundw
            case rel => exact ⟨k + 1, by omega, by go_num, by rw [HSS.out]; exact HR9.out.set m true, S9.out.set hGB _, hb9.setCell (Nat.le_refl _) _⟩
            case measure => simp [intOf]; omega
          · obtain rfl : k = S := by omega
            have r1 := cell_regrown ((hb9.cell (p := ⟨g, i * 2, none⟩) p1).trans Q1.out)
            have r2 := cell_regrown ((hb9.cell (p := ⟨g, i * 2 + 1, none⟩) p1).trans Q2.out)
            go_wp2_with fail
            refine wp_region_quiet_below (by kernel_rfl) (by kernel_rfl) ?_
            repeat (go_big_quiet_step (fail))
            refine wpQuiet_nil ?_
            intro _ hw'
            obtain ⟨⟨dq, osq⟩, hw''⟩ := hw'
            subst hw''
            have lk := below_regrown wr dq osq
            have HIN9 := Lib.hid ((HIN5.out.below hb9 hA5).keep lk)
            by_cases h64 : k < 64
            · have hst := HST.out h64
              have hci := HIN9.out.in HL.out ((F + k) % 64) (Nat.mod_lt _ (by omega))
              rw [hst] at hci
              clear hst
              go_wp2_with fail
              go_roundw
              case rel => exact ⟨i + 1, by omega, by go_num, by rw [← HNX.out]; exact HR9.out.keep lk, below_next hb9 lk⟩
              case measure => simp [intOf]; omega
            · go_wp2_with fail
              go_roundw
              case rel => exact ⟨i + 1, by omega, by go_num, by rw [← HNX.out]; exact HR9.out.keep lk, below_next hb9 lk⟩
              case measure => simp [intOf]; omega
      · have t1 : decide ((0 : Int) < (i : Int)) = true := by simp; omega
        have t2 : decide (0 < i) = true := by simp; omega
        have t3 : (i : Int) - 1 = (i' : Int) := by omega
        have hmono := HPR.out i' hi1
        rw [← hi1, ← HF.out] at hmono
        obtain ⟨g2, e2, _, qq, _⟩ := S6.out i' (by omega)
        obtain rfl : g = g2 := by simpa using e2
        rw [atL_from] at qq
        have HI1 := Lib.hid hi1; clear hi1 e2
        have r0 := cell_regrown ((hb7.cell (p := ⟨g, i' * 2, none⟩) p1).trans qq)
        have r1 := cell_regrown ((hb7.cell (p := ⟨g, i * 2, none⟩) p1).trans Q1.out)
        clear qq
        generalize (atL L i').1 = F' at *
        have t4 : decide ((F : Int) ≤ (F' : Int)) = false := by simp; omega
        have t5 : decide (F ≤ F') = false := by simp; omega
        refine wp_region_quiet_below (by kernel_rfl) (by kernel_rfl) ?_
        repeat (go_big_quiet_step (fail))
        refine wpQuiet_nil ?_
        intro _ hw'
        obtain ⟨⟨dq, osq⟩, hw''⟩ := hw'
        subst hw''
        have lk := below_regrown w7 dq osq
        clear t1 t2 t3 t4 t5 hmono r0 r1
        have hb8 := below_next hb7 lk
        have HR8 := Lib.hid (HR7.out.keep lk)
        have S8 := Lib.hid (SlQ.below S7.out lk)
        generalize grow (redrawn w7 dq) osq = w8 at *
        clear lk HR7 S7 hb7
        go_wp2_with fail
        go_loopw [19] (fun kk wq => ∃ k : Nat, k ≤ S ∧ kk = .int .i64 (k : Int) ∧ Row wq w5.heap.size 37 (rowC L i k) ∧ SlQ wq wr.heap.size bo S (fun j => (F + j) % 64) ∧ Below w5.heap.size w5 wq) (fun kk _ => S - (intOf kk).toNat)
        case atStart => exact ⟨0, Nat.zero_le _, rfl, HR8.out, S8.out, hb8⟩
        case round =>
          clear HR8 S8 hb8
          obtain ⟨k, hk, rfl, hr9, hs9, hb9⟩ := hrel
          have HR9 := Lib.hid hr9; have S9 := Lib.hid hs9; clear hr9 hs9
          by_cases hkS : k < S
          · obtain ⟨gq, rfl, _, _, c9⟩ := S9.out k hkS
            have hfr := HFR.out k hkS
            rw [← HF.out] at hfr
            have hm : (F + k) % 64 < 64 := Nat.mod_lt _ (by omega)
            have hcell := HR9.out.in (rowC_length L i k) _ hm
            rw [rowC_get _ _ _ _ hm, hfr] at hcell
            have hfz := HR9.out.frozen ((F + k) % 64)
            have HSS := Lib.hid (HSU.out k)
            rw [← HF.out] at HSS
            dsimp only at c9
            clear hfr
            generalize (F + k) % 64 = m at *
            go_wp2_with fail
            go_roundw
            case rel => exact ⟨k + 1, by omega, by go_num, by rw [HSS.out]; exact HR9.out.set m true, S9.out.set hGB _, hb9.setCell (Nat.le_refl _) _⟩
            case measure => simp [intOf]; omega
          · obtain rfl : k = S := by omega
            have r1 := cell_regrown ((hb9.cell (p := ⟨g, i * 2, none⟩) p1).trans Q1.out)
            have r2 := cell_regrown ((hb9.cell (p := ⟨g, i * 2 + 1, none⟩) p1).trans Q2.out)
            go_wp2_with fail
            refine wp_region_quiet_below (by kernel_rfl) (by kernel_rfl) ?_
            repeat (go_big_quiet_step (fail))
            refine wpQuiet_nil ?_
            intro _ hw'
            obtain ⟨⟨dq, osq⟩, hw''⟩ := hw'
            subst hw''
            have lk := below_regrown wr dq osq
            have HIN9 := Lib.hid ((HIN5.out.below hb9 hA5).keep lk)
            by_cases h64 : k < 64
            · have hst := HST.out h64
              have hci := HIN9.out.in HL.out ((F + k) % 64) (Nat.mod_lt _ (by omega))
              rw [hst] at hci
              clear hst
              go_wp2_with fail
              go_roundw
              case rel => exact ⟨i + 1, by omega, by go_num, by rw [← HNX.out]; exact HR9.out.keep lk, below_next hb9 lk⟩
              case measure => simp [intOf]; omega
            · go_wp2_with fail
              go_roundw
              case rel => exact ⟨i + 1, by omega, by go_num, by rw [← HNX.out]; exact HR9.out.keep lk, below_next hb9 lk⟩
              case measure => simp [intOf]; omega
    · obtain rfl : i = n := by omega
      have hbs : rowC L i 0 = bs := by rw [HN.out]; exact GD.out.cover
      have hr := HR.out
      rw [hbs] at hr
      have HRB := Lib.hid hr; clear hr hbs HR
      have HIB := Lib.hid (HIN5.out.below hb hA5)
      go_wp2_with fail
      refine (alive_any _).mono ?_
      rintro e w9 ⟨rfl, l9⟩
      have k1 := Lib.hid (arr_row w9 (HRB.out.keep l9) HL.out)
      have k2 := Lib.hid (arr_row w9 (HIB.out.keep l9) HL.out)
      have k3 := eql_arr bs bs HL.out HL.out w9
      rw [beq_self_eq_true] at k3
      have K3 := Lib.hid k3; clear k3
      go_wp2_with (first
        | (refine wpList_wanted (by rfl) _ (exec_load 37 (.tmp 16) rfl rfl k1.out) ?_)
        | (refine wpList_wanted (by rfl) _ (exec_load 37 (.tmp 5) rfl rfl k2.out) ?_)
        | (refine wpList_wanted (by rfl) _ (exec_bin .eql 37 37 (.tmp 143) (.tmp 144) rfl rfl rfl K3.out (run_eqGuard_agg _ _ _ _ _ _ _ (by kernel_rfl))) ?_))
      go_ret
      exact ⟨rfl, below_next hW5 (below_next hb l9)⟩

set_option maxRecDepth 100000 in
set_option maxHeartbeats 4000000 in
theorem whole_ok (bs : List Bool) (hl : bs.length = 64) (f s n0 m d : Int) (cs : Ret 20 #[arc f s, .int .i64 n0] (.returned (splitR f n0 m d 0))) (cj : Ret 22 #[arc f n0, arc m d] (.returned (joinR f s 0)))
    (hor : ∀ p : Nat, p < 64 → hasB f s p = (hasB f n0 p || hasB m d p)) (hand : ∀ p : Nat, p < 64 → ¬ (hasB f n0 p = true ∧ hasB m d p = true)) (w : World) :
    Calls Try.prog 6 #[.agg #[.int .i64 f, .int .i64 s], .int .i64 n0, .agg ⟨bs.map Value.bool⟩] w (LawOk w) := by
  have CS := Lib.hid cs; have CJ := Lib.hid cj; have HOR := Lib.hid hor; have HAND := Lib.hid hand
  clear cs cj hor hand
  have HL := Lib.hid hl; clear hl
  go_enter Try.func6, Try.ntmps6
  go_wp2_with fail
  refine (CS.out _).mono ?_
  rintro e w1 ⟨rfl, l1⟩
  have hrow := Row.new (w.alloc (.cells #[.int .i64 f, .int .i64 s] 23)) 37 bs
  rw [World.size_alloc] at hrow
  have HIN1 := Lib.hid (hrow.keep l1)
  have m1 := (((Holds.nil w).new2 (.int .i64 f) (.int .i64 s) 23).alloc (.cells ⟨bs.map Value.bool⟩ 37)).below l1
  have n1 := below_of_alloc (below_of_alloc l1)
  have M1 := Lib.hid m1; clear m1 l1 hrow
  go_wp2_with fail
  refine (CJ.out _).mono ?_
  rintro e w2 ⟨rfl, l2⟩
  have m2 := ((M1.out.new2 (.int .i64 f) (.int .i64 n0) 23).new2 (.int .i64 m) (.int .i64 d) 23).below l2
  have n2 := below_next n1 (below_of_alloc (below_of_alloc l2))
  have HIN2 := Lib.hid (((HIN1.out.alloc (.cells #[.int .i64 f, .int .i64 n0] 23)).alloc (.cells #[.int .i64 m, .int .i64 d] 23)).keep l2)
  have m3 := m2.alloc (.cells #[.int .i64 f, .int .i64 s] 23)
  have hW3 := below_alloc n2 (.cells #[.int .i64 f, .int .i64 s] 23)
  have HIN3 := Lib.hid (HIN2.out.alloc (.cells #[.int .i64 f, .int .i64 s] 23))
  obtain ⟨a1, a2, a3⟩ := m2.tail.tail.tail.tail.two
  simp only [World.size_alloc] at a1 a2 a3
  have M3 := Lib.hid m3
  clear m2 m3 l2 n1 n2 M1 HIN1 HIN2 CS CJ
  go_wp2_with fail
  clear a1 a2 a3
  generalize w2.alloc (.cells #[.int .i64 f, .int .i64 s] 23) = W3 at *
  obtain ⟨y1, y2, y3⟩ := M3.out.two
  obtain ⟨x1, x2, x3⟩ := M3.out.tail.tail.two
  obtain ⟨a1, a2, a3⟩ := M3.out.tail.tail.tail.tail.two
  simp only [World.size_alloc] at y1 y2 y3 x1 x2 x3 a1 a2 a3
  have Y1 := Lib.hid y1; have Y2 := Lib.hid y2; have X1 := Lib.hid x1; have X2 := Lib.hid x2; have A1 := Lib.hid a1; have A2 := Lib.hid a2
  clear y1 y2 x1 x2 a1 a2 M3
  go_loopw [12] (fun i wr => ∃ p : Nat, p ≤ 64 ∧ i = .int .i64 (p : Int) ∧ Below W3.heap.size W3 wr) (fun i _ => 64 - (intOf i).toNat)
  case atStart => exact ⟨0, Nat.zero_le _, rfl, Below.refl _ _⟩
  case round =>
    obtain ⟨p, hp, rfl, hb⟩ := hrel
    by_cases hlt : p < 64
    · have c1 := has_any f n0 p
      have c2 := has_any m d p
      have c3 := has_any f s p
      rw [HOR.out p hlt] at c3
      have hno := HAND.out p hlt
      generalize hasB f n0 p = b1 at *
      generalize hasB m d p = b2 at *
      have hz := hb.size
      have r1 := (hb.cell (p := ⟨w1.heap.size, 0, none⟩) x3).trans X1.out
      have r2 := (hb.cell (p := ⟨w1.heap.size, 1, none⟩) x3).trans X2.out
      have hway : (b1 = true ∧ b2 = false) ∨ (b1 = false ∧ b2 = true) ∨ (b1 = false ∧ b2 = false) := by
        cases b1 <;> cases b2 <;> simp_all
      clear hno
      rcases hway with ⟨rfl, rfl⟩ | ⟨rfl, rfl⟩ | ⟨rfl, rfl⟩
      all_goals
        simp only [Bool.or_true, Bool.true_or, Bool.or_false] at c3
        have C1 := Lib.hid c1; have C2 := Lib.hid c2; have C3 := Lib.hid c3; clear c1 c2 c3
        go_wp2_with fail
        refine (C1.out _).mono ?_
        rintro e w4 ⟨rfl, l4⟩
        have hb4 := below_next hb l4
        have r3 := (hb4.cell (p := ⟨w1.heap.size + 1, 0, none⟩) y3).trans Y1.out
        have r4 := (hb4.cell (p := ⟨w1.heap.size + 1, 1, none⟩) y3).trans Y2.out
        clear r1 r2 hb l4 hz
        go_wp2_with fail
        refine (C2.out _).mono ?_
        rintro e w5 ⟨rfl, l5⟩
        have hb5 := below_next hb4 l5
        have r5 := (hb5.cell (p := ⟨w.heap.size, 0, none⟩) a3).trans A1.out
        have r6 := (hb5.cell (p := ⟨w.heap.size, 1, none⟩) a3).trans A2.out
        clear r3 r4 hb4 l5
        go_wp2_with fail
        refine (C3.out _).mono ?_
        rintro e w6 ⟨rfl, l6⟩
        have hb6 := below_next hb5 l6
        clear r5 r6 hb5 l6
        go_wp2_with fail
        go_roundw
        case rel => exact ⟨p + 1, by omega, by go_num, hb6⟩
        case measure => simp [intOf]; omega
    · obtain rfl : p = 64 := by omega
      have HIN := Lib.hid (HIN3.out.keep hb)
      have hW2 := below_next hW3 hb
      clear HIN3 hW3 hb Y1 Y2 X1 X2 A1 A2 x3 y3 a3 hp hlt HOR HAND
      have hll := Lib.hid (arr_row wr HIN.out HL.out)
      go_wp2_with (refine wpList_value rfl _ (exec_load 37 (.tmp 5) rfl rfl hll.out) ?_)
      refine (of_any bs HL.out _).mono ?_
      rintro e w5 ⟨v, rfl, hown, l5⟩
      obtain ⟨ao, cap, rfl, s5⟩ := made_arcs hown
      have S5 := Lib.hid s5
      have hin5 := HIN.out.keep l5
      have hW5 := below_next hW2 l5
      have HIN5 := Lib.hid hin5
      have hA5 : w.heap.size + 1 < w5.heap.size := hin5.lt
      have GD := Lib.hid (good_ofL HL.out)
      have hLL := ofL_length bs
      clear s5 hown l5 hll HIN hin5
      generalize ofL bs = L at *
      obtain ⟨n, hn⟩ : ∃ n, n = L.length := ⟨_, rfl⟩
      rw [← hn] at S5 hLL
      rw [← hn]
      have HN := Lib.hid hn; clear hn
      go_wp2_with fail
      change Code.wp _ _ _ _ (World.alloc w5 (.cells ⟨zeros.map Value.bool⟩ 37))
      have hr0 : Row (w5.alloc (.cells ⟨zeros.map Value.bool⟩ 37)) w5.heap.size 37 (rowC L 0 0) := by
        rw [rowC_start]; exact Row.new w5 _ zeros
      have hb0 : Below w5.heap.size w5 (w5.alloc (.cells ⟨zeros.map Value.bool⟩ 37)) := below_alloc (Below.refl _ _) _
      generalize w5.alloc (.cells ⟨zeros.map Value.bool⟩ 37) = W6 at *
      have HR0 := Lib.hid hr0; clear hr0
      go_loopw [17] (fun i wr => ∃ k : Nat, k ≤ n ∧ i = .int .i64 (k : Int) ∧ Row wr w5.heap.size 37 (rowC L k 0) ∧ Below w5.heap.size w5 wr) (fun i _ => n - (intOf i).toNat)
      case atStart => exact ⟨0, Nat.zero_le _, rfl, HR0.out, hb0⟩
      case round =>
        clear HR0 hb0
        obtain ⟨i, hi, rfl, hr, hb⟩ := hrel
        have HR := Lib.hid hr; clear hr
        by_cases hlt : i < n
        · have hiL : i < L.length := by rw [← HN.out]; exact hlt
          obtain ⟨g, rfl, p1, q1, q2⟩ := S5.out i hlt
          have S6 := Lib.hid S5.out
          rw [atL_from] at q1
          rw [atL_size] at q2
          have Q1 := Lib.hid q1; have Q2 := Lib.hid q2; clear q1 q2
          have r1 := (hb.cell (p := ⟨g, i * 2, none⟩) p1).trans Q1.out
          have r2 := (hb.cell (p := ⟨g, i * 2 + 1, none⟩) p1).trans Q2.out
          have hle := GD.out.le i hiL
          have HFR := Lib.hid (fun k (hk : k < (atL L i).2) => GD.out.fresh i k hiL hk)
          have HST := Lib.hid (GD.out.stop i hiL)
          have HNX := Lib.hid (rowC_next L i hiL)
          have HSU := Lib.hid (rowC_succ L i)
          have HPR := Lib.hid (fun i' (e : i = i' + 1) => GD.out.mono i' (by rw [← e]; exact hiL))
          obtain ⟨F, hF⟩ : ∃ F, F = (atL L i).1 := ⟨_, rfl⟩
          obtain ⟨S, hS⟩ : ∃ S, S = (atL L i).2 := ⟨_, rfl⟩
          rw [← hF] at r1 hle Q1
          rw [← hS] at r2 hle Q2
          rw [← hF, ← hS] at HST
          rw [← hS] at HNX HFR
          have HF := Lib.hid hF; have HS := Lib.hid hS; clear hF hS
          have hF64 := hle.1; have hS1 := hle.2.1; have hS64 := hle.2.2; clear hle
          have PL := Lib.hid (places_any (F : Int) (S : Int))
          go_wp2_with fail
          refine (PL.out _).mono ?_
          rintro e w7 ⟨v, rfl, hown7, l7⟩
          obtain ⟨bo, cap7, rfl, s7⟩ := made_placesQ hF64 hS64 hown7
          have hb7 := below_next hb l7
          have HR7 := Lib.hid (HR.out.keep l7)
          have hGB : w5.heap.size < wr.heap.size := HR.out.lt
          have S7 := Lib.hid s7
          clear s7 hown7 l7 hb HR r1 r2 PL hi
          have z1 : ((S : Int) == 0) = false := by simp; omega
          have z2 : (S == 0) = false := by simp; omega
          go_wp2_with fail
          have hway : i = 0 ∨ ∃ i', i = i' + 1 := by
            cases i with
            | zero => exact .inl rfl
            | succ i' => exact .inr ⟨i', rfl⟩
          rcases hway with hi0 | ⟨i', hi1⟩
          · have t1 : decide ((0 : Int) < (i : Int)) = false := by simp; omega
            have t2 : decide (0 < i) = false := by simp; omega
            have HI0 := Lib.hid hi0; clear hi0
            refine wp_region_quiet_below (by kernel_rfl) (by kernel_rfl) ?_
            repeat (go_big_quiet_step (fail))
            refine wpQuiet_nil ?_
            intro _ hw'
            obtain ⟨⟨dq, osq⟩, hw''⟩ := hw'
            subst hw''
            have lk := below_regrown w7 dq osq
            have hb8 := below_next hb7 lk
            have HR8 := Lib.hid (HR7.out.keep lk)
            have S8 := Lib.hid (SlQ.below S7.out lk)
            generalize grow (redrawn w7 dq) osq = w8 at *
            clear lk HR7 S7 hb7
            go_wp2_with fail
            go_loopw [19] (fun kk wq => ∃ k : Nat, k ≤ S ∧ kk = .int .i64 (k : Int) ∧ Row wq w5.heap.size 37 (rowC L i k) ∧ SlQ wq wr.heap.size bo S (fun j => (F + j) % 64) ∧ Below w5.heap.size w5 wq) (fun kk _ => S - (intOf kk).toNat)
            case atStart => exact ⟨0, Nat.zero_le _, rfl, HR8.out, S8.out, hb8⟩
            case round =>
              clear HR8 S8 hb8
              obtain ⟨k, hk, rfl, hr9, hs9, hb9⟩ := hrel
              have HR9 := Lib.hid hr9; have S9 := Lib.hid hs9; clear hr9 hs9
              by_cases hkS : k < S
              · obtain ⟨gq, rfl, _, _, c9⟩ := S9.out k hkS
                have hfr := HFR.out k hkS
                rw [← HF.out] at hfr
                have hm : (F + k) % 64 < 64 := Nat.mod_lt _ (by omega)
                have hcell := HR9.out.in (rowC_length L i k) _ hm
                rw [rowC_get _ _ _ _ hm, hfr] at hcell
                have hfz := HR9.out.frozen ((F + k) % 64)
                have HSS := Lib.hid (HSU.out k)
                rw [← HF.out] at HSS
                dsimp only at c9
                clear hfr
                generalize (F + k) % 64 = m at *
                go_wp2_with fail
                go_roundw
                case rel => exact ⟨k + 1, by omega, by go_num, by rw [HSS.out]; exact HR9.out.set m true, S9.out.set hGB _, hb9.setCell (Nat.le_refl _) _⟩
                case measure => simp [intOf]; omega
              · obtain rfl : k = S := by omega
                have r1 := cell_regrown ((hb9.cell (p := ⟨g, i * 2, none⟩) p1).trans Q1.out)
                have r2 := cell_regrown ((hb9.cell (p := ⟨g, i * 2 + 1, none⟩) p1).trans Q2.out)
                go_wp2_with fail
                refine wp_region_quiet_below (by kernel_rfl) (by kernel_rfl) ?_
                repeat (go_big_quiet_step (fail))
                refine wpQuiet_nil ?_
                intro _ hw'
                obtain ⟨⟨dq, osq⟩, hw''⟩ := hw'
                subst hw''
                have lk := below_regrown wr dq osq
                have HIN9 := Lib.hid ((HIN5.out.below hb9 hA5).keep lk)
                by_cases h64 : k < 64
                · have hst := HST.out h64
                  have hci := HIN9.out.in HL.out ((F + k) % 64) (Nat.mod_lt _ (by omega))
                  rw [hst] at hci
                  clear hst
                  go_wp2_with fail
                  go_roundw
                  case rel => exact ⟨i + 1, by omega, by go_num, by rw [← HNX.out]; exact HR9.out.keep lk, below_next hb9 lk⟩
                  case measure => simp [intOf]; omega
                · go_wp2_with fail
                  go_roundw
                  case rel => exact ⟨i + 1, by omega, by go_num, by rw [← HNX.out]; exact HR9.out.keep lk, below_next hb9 lk⟩
                  case measure => simp [intOf]; omega
          · have t1 : decide ((0 : Int) < (i : Int)) = true := by simp; omega
            have t2 : decide (0 < i) = true := by simp; omega
            have t3 : (i : Int) - 1 = (i' : Int) := by omega
            have hmono := HPR.out i' hi1
            rw [← hi1, ← HF.out] at hmono
            obtain ⟨g2, e2, _, qq, _⟩ := S6.out i' (by omega)
            obtain rfl : g = g2 := by simpa using e2
            rw [atL_from] at qq
            have HI1 := Lib.hid hi1; clear hi1 e2
            have r0 := cell_regrown ((hb7.cell (p := ⟨g, i' * 2, none⟩) p1).trans qq)
            have r1 := cell_regrown ((hb7.cell (p := ⟨g, i * 2, none⟩) p1).trans Q1.out)
            clear qq
            generalize (atL L i').1 = F' at *
            have t4 : decide ((F : Int) ≤ (F' : Int)) = false := by simp; omega
            have t5 : decide (F ≤ F') = false := by simp; omega
            refine wp_region_quiet_below (by kernel_rfl) (by kernel_rfl) ?_
            repeat (go_big_quiet_step (fail))
            refine wpQuiet_nil ?_
            intro _ hw'
            obtain ⟨⟨dq, osq⟩, hw''⟩ := hw'
            subst hw''
            have lk := below_regrown w7 dq osq
            clear t1 t2 t3 t4 t5 hmono r0 r1
            have hb8 := below_next hb7 lk
            have HR8 := Lib.hid (HR7.out.keep lk)
            have S8 := Lib.hid (SlQ.below S7.out lk)
            generalize grow (redrawn w7 dq) osq = w8 at *
            clear lk HR7 S7 hb7
            go_wp2_with fail
            go_loopw [19] (fun kk wq => ∃ k : Nat, k ≤ S ∧ kk = .int .i64 (k : Int) ∧ Row wq w5.heap.size 37 (rowC L i k) ∧ SlQ wq wr.heap.size bo S (fun j => (F + j) % 64) ∧ Below w5.heap.size w5 wq) (fun kk _ => S - (intOf kk).toNat)
            case atStart => exact ⟨0, Nat.zero_le _, rfl, HR8.out, S8.out, hb8⟩
            case round =>
              clear HR8 S8 hb8
              obtain ⟨k, hk, rfl, hr9, hs9, hb9⟩ := hrel
              have HR9 := Lib.hid hr9; have S9 := Lib.hid hs9; clear hr9 hs9
              by_cases hkS : k < S
              · obtain ⟨gq, rfl, _, _, c9⟩ := S9.out k hkS
                have hfr := HFR.out k hkS
                rw [← HF.out] at hfr
                have hm : (F + k) % 64 < 64 := Nat.mod_lt _ (by omega)
                have hcell := HR9.out.in (rowC_length L i k) _ hm
                rw [rowC_get _ _ _ _ hm, hfr] at hcell
                have hfz := HR9.out.frozen ((F + k) % 64)
                have HSS := Lib.hid (HSU.out k)
                rw [← HF.out] at HSS
                dsimp only at c9
                clear hfr
                generalize (F + k) % 64 = m at *
                go_wp2_with fail
                go_roundw
                case rel => exact ⟨k + 1, by omega, by go_num, by rw [HSS.out]; exact HR9.out.set m true, S9.out.set hGB _, hb9.setCell (Nat.le_refl _) _⟩
                case measure => simp [intOf]; omega
              · obtain rfl : k = S := by omega
                have r1 := cell_regrown ((hb9.cell (p := ⟨g, i * 2, none⟩) p1).trans Q1.out)
                have r2 := cell_regrown ((hb9.cell (p := ⟨g, i * 2 + 1, none⟩) p1).trans Q2.out)
                go_wp2_with fail
                refine wp_region_quiet_below (by kernel_rfl) (by kernel_rfl) ?_
                repeat (go_big_quiet_step (fail))
                refine wpQuiet_nil ?_
                intro _ hw'
                obtain ⟨⟨dq, osq⟩, hw''⟩ := hw'
                subst hw''
                have lk := below_regrown wr dq osq
                have HIN9 := Lib.hid ((HIN5.out.below hb9 hA5).keep lk)
                by_cases h64 : k < 64
                · have hst := HST.out h64
                  have hci := HIN9.out.in HL.out ((F + k) % 64) (Nat.mod_lt _ (by omega))
                  rw [hst] at hci
                  clear hst
                  go_wp2_with fail
                  go_roundw
                  case rel => exact ⟨i + 1, by omega, by go_num, by rw [← HNX.out]; exact HR9.out.keep lk, below_next hb9 lk⟩
                  case measure => simp [intOf]; omega
                · go_wp2_with fail
                  go_roundw
                  case rel => exact ⟨i + 1, by omega, by go_num, by rw [← HNX.out]; exact HR9.out.keep lk, below_next hb9 lk⟩
                  case measure => simp [intOf]; omega
        · obtain rfl : i = n := by omega
          have hbs : rowC L i 0 = bs := by rw [HN.out]; exact GD.out.cover
          have hr := HR.out
          rw [hbs] at hr
          have HRB := Lib.hid hr; clear hr hbs HR
          have HIB := Lib.hid (HIN5.out.below hb hA5)
          go_wp2_with fail
          refine (alive_any _).mono ?_
          rintro e w9 ⟨rfl, l9⟩
          have k1 := Lib.hid (arr_row w9 (HRB.out.keep l9) HL.out)
          have k2 := Lib.hid (arr_row w9 (HIB.out.keep l9) HL.out)
          have k3 := eql_arr bs bs HL.out HL.out w9
          rw [beq_self_eq_true] at k3
          have K3 := Lib.hid k3; clear k3
          go_wp2_with (first
            | (refine wpList_wanted (by rfl) _ (exec_load 37 (.tmp 16) rfl rfl k1.out) ?_)
            | (refine wpList_wanted (by rfl) _ (exec_load 37 (.tmp 5) rfl rfl k2.out) ?_)
            | (refine wpList_wanted (by rfl) _ (exec_bin .eql 37 37 (.tmp 143) (.tmp 144) rfl rfl rfl K3.out (run_eqGuard_agg _ _ _ _ _ _ _ (by kernel_rfl))) ?_))
          go_ret
          exact ⟨rfl, below_next hW5 (below_next hb l9)⟩

theorem arcsWhole_law (f : Int) (wf : (Lit.int .i64 f).wf = true) (s : Int) (ws : (Lit.int .i64 s).wf = true) (n0 : Int) (wn : (Lit.int .i64 n0).wf = true) (bs : List Bool) (hl : bs.length = 64) (w : World) :
    Calls Try.prog 6 #[.agg #[.int .i64 f, .int .i64 s], .int .i64 n0, .agg ⟨bs.map Value.bool⟩] w (LawOk w) := by
  by_cases hn : rightB f s = true ∧ 0 ≤ n0 ∧ n0 ≤ s
  · obtain ⟨hr, h0, h1⟩ := hn
    have h := right_spec.1 hr
    have cj := join_in f n0 ((f + n0) % 64) (s - n0) (right_spec.2 (by omega)) (right_spec.2 (by omega)) (by omega) rfl
    rw [show n0 + (s - n0) = s by omega] at cj
    exact whole_ok bs hl f s n0 _ _ (split_in f s n0 hr h0 h1) cj (fun p hp => part_or hr h0 h1 (by omega) (by omega)) (fun p hp => part_and hr h0 h1 (by omega) (by omega)) w
  · exact whole_no bs hl f s n0 hn w

end Go.Proofs.Ytjgmgcniemncjaa
