/- Order: of package draws and of the document's answer. -/
import Derived.Test.YthjchlcmmemapaaPick
namespace Go.Proofs.Ythjchlcmmemapaa
open Go.RowKit Go.Sort
set_option linter.unusedVariables false

theorem Own.made {w : World} {B g N : Nat} (h : w.ownsRow B 3 1 (.slice (some ⟨g, 0, none⟩) N N) N (madeCells #[.int .i64 0] (N * 1)).toList) : Own w B (some ⟨g, 0, none⟩) N N (List.replicate N 0) := by
  have e : (madeCells #[.int .i64 0] (N * 1)).toList = cs (List.replicate N 0) := by
    simp [madeCells, Nat.mod_one, List.map_const']
  rw [e] at h
  obtain ⟨ao, cap, e1, h1⟩ := Own.of_owns (l := List.replicate N 0) rfl h (by intro c hc; have := List.eq_of_mem_replicate hc; unfold okI; omega)
  cases e1
  exact h1

/-- two places exchanged -/
def swp (L : List Int) (i j : Nat) : List Int := (L.set i (bt L j)).set j (bt L i)
theorem swp_length (L : List Int) (i j : Nat) : (swp L i j).length = L.length := by simp [swp]
theorem swp_bt (L : List Int) (i j k : Nat) (hi : i < L.length) (hj : j < L.length) : bt (swp L i j) k = if k = j then bt L i else if k = i then bt L j else bt L k := by
  unfold swp
  rw [bt_set _ _ _ _ (by simpa using hj)]
  by_cases e : k = j
  · rw [if_pos e, if_pos e]
  · rw [if_neg e, if_neg e, bt_set _ _ _ _ hi]
/-- a list that is mixed from its m-th place down: the state behind it, the list -/
def ordM : Nat → Nat → List Int → Nat × List Int
  | 0, s, L => (s, L)
  | 1, s, L => (s, L)
  | m + 2, s, L => ordM (m + 1) (nx s) (swp L (m + 1) (bel s (m + 2)))
theorem ordM_step (q s : Nat) (L : List Int) (h : 1 ≤ q) : ordM (q + 1) s L = ordM q (nx s) (swp L q (bel s (q + 1))) := by
  obtain ⟨r, rfl⟩ : ∃ r, q = r + 1 := ⟨q - 1, by omega⟩
  rfl
theorem ordM_end (m s : Nat) (L : List Int) (h : m < 2) : ordM m s L = (s, L) := by
  have : m = 0 ∨ m = 1 := by omega
  rcases this with rfl | rfl <;> rfl
def idl (n : Nat) : List Int := (List.range n).map fun i : Nat => (i : Int)
theorem idl_length (n : Nat) : (idl n).length = n := by simp [idl]
theorem idl_bt (n k : Nat) (h : k < n) : bt (idl n) k = k := by simp [idl, bt, h]
theorem idl_of {n : Nat} {L : List Int} (hl : L.length = n) (h : ∀ k, k < n → bt L k = k) : L = idl n :=
  ext_bt (by rw [hl, idl_length]) fun k hk => by rw [h k (by omega), idl_bt n k (by omega)]
theorem idl_succ (n : Nat) : idl (n + 1) = idl n ++ [(n : Int)] := by simp [idl, List.range_succ]
/-- what Order leaves -/
def ordF (s n : Nat) : Nat × List Int := ordM n s (idl n)

structure Perm (n : Nat) (L : List Int) : Prop where
  len : L.length = n
  lo : ∀ k, k < n → 0 ≤ bt L k ∧ bt L k < n
  inj : ∀ j k, j < n → k < n → bt L j = bt L k → j = k
theorem Perm.idl (n : Nat) : Perm n (idl n) := ⟨idl_length n, fun k hk => by rw [idl_bt n k hk]; omega, fun j k hj hk e => by rw [idl_bt n j hj, idl_bt n k hk] at e; omega⟩
theorem Perm.swp {n : Nat} {L : List Int} (h : Perm n L) (i j : Nat) (hi : i < n) (hj : j < n) : Perm n (swp L i j) := by
  have hl := h.len
  have hb := fun k => swp_bt L i j k (by omega) (by omega)
  refine ⟨by rw [swp_length, hl], fun k hk => ?_, fun a b ha hb' e => ?_⟩
  · rw [hb]
    split
    · exact h.lo i hi
    · split
      · exact h.lo j hj
      · exact h.lo k hk
  · rw [hb, hb] at e
    by_cases aj : a = j <;> by_cases bj : b = j
    · omega
    · rw [if_pos aj, if_neg bj] at e
      by_cases bi : b = i
      · rw [if_pos bi] at e; have := h.inj _ _ hi hj e; omega
      · rw [if_neg bi] at e; have := h.inj _ _ hi hb' e; omega
    · rw [if_neg aj, if_pos bj] at e
      by_cases ai : a = i
      · rw [if_pos ai] at e; have := h.inj _ _ hj hi e; omega
      · rw [if_neg ai] at e; have := h.inj _ _ ha hi e; omega
    · rw [if_neg aj, if_neg bj] at e
      by_cases ai : a = i <;> by_cases bi : b = i
      · omega
      · rw [if_pos ai, if_neg bi] at e; have := h.inj _ _ hj hb' e; omega
      · rw [if_neg ai, if_pos bi] at e; have := h.inj _ _ ha hj e; omega
      · rw [if_neg ai, if_neg bi] at e; exact h.inj _ _ ha hb' e
theorem ordM_perm {n : Nat} : ∀ (m s : Nat) (L : List Int), m ≤ n → Perm n L → Perm n (ordM m s L).2
  | 0, s, L, _, h => h
  | 1, s, L, _, h => h
  | m + 2, s, L, hm, h => ordM_perm (m + 1) (nx s) _ (by omega) (h.swp (m + 1) (bel s (m + 2)) (by omega) (by have := bel_lt s (m + 2) (by omega); omega))
theorem ordF_perm (s n : Nat) : Perm n (ordF s n).2 := ordM_perm n s _ (Nat.le_refl _) (Perm.idl n)
theorem ordM_small : ∀ (m s : Nat) (L : List Int), s < 18446744073709551616 → (ordM m s L).1 < 18446744073709551616
  | 0, s, L, h => h
  | 1, s, L, h => h
  | m + 2, s, L, h => ordM_small (m + 1) (nx s) _ (nx_lt s)

/-- the address of an element -/
theorem run_idx (g o1 n c q : Nat) (k : IntKind) (hq : q < n) (w : World) : (Instr.indexAt 30 (.slice (some ⟨g, o1, none⟩) n c) (.int k (q : Int))).run Try.prog w = .ok (.pointer (some ⟨g, o1 + q, none⟩)) w := by
  have h1 : (q : Int) < (n : Int) := by omega
  go_simp
theorem exec_idx {o : Oper} {a : Act} (x i : Operand) (ho : o.op = .indexAddr 30 x i) {g o1 n c q : Nat} {k : IntKind} (hx : a.eval x = .slice (some ⟨g, o1, none⟩) n c) (hi : a.eval i = .int k (q : Int)) (hq : q < n) (w : World) :
    (execOp a.eval o).run Try.prog w = .ok (.value (.pointer (some ⟨g, o1 + q, none⟩))) w := by
  unfold execOp
  simp only [ho, hx, hi, Sem.run_bind, run_idx g o1 n c q k hq w, Result.andThen_ok, Sem.run_pure]

/-- a list has been made and mixed -/
def Mixed (B g n : Nat) (S : Nat) (l : List Int) (w w' : World) (ao : Option Addr) (cap : Nat) : Prop :=
  Own w' w.heap.size ao n cap l ∧ Gen w' B g S ∧ Keep [g] w w'

set_option maxHeartbeats 4000000 in
theorem order_yes (B g s n : Nat) (hn : n ≤ 1000) (w : World) (hg : Gen w B g s) :
    Calls Try.prog 20 #[.pointer (some ⟨g, 0, none⟩), .int .i64 (n : Int)] w fun e w' => ∃ ao cap, e = .returned (.tuple #[.slice ao n cap, .int .i64 0]) ∧ Mixed B g n (ordF s n).1 (ordF s n).2 w w' ao cap := by
  obtain ⟨i0, hi, hz0, hz1, hz2⟩ := info_parts byte_info
  have HG := Lib.hid hg; clear hg
  have HF := Lib.hid (show ordM n s (idl n) = ordF s n from rfl)
  generalize ordF s n = F at *
  go_enter Try.func20, Try.ntmps20
  go_wp2_with (at_make; refine wpList_make_full _ rfl _ _ 30 rfl w.heap.size 3 i0 (.int .i64 0) 1 Try.underlying30 hi hz0 hz1 .i64 .i64 _ _ n rfl rfl (by omega) (by omega) (by rw [hz2]; omega) (by unfold maxLen; omega) (Nat.le_refl _) ?_; intro w2 hown2 hgrow2)
  have ho2 := Own.made hown2
  have b2 := (Below.refl w.heap.size w).grown hgrow2 (Nat.le_refl _) (by intro k hk; cases hk)
  clear hown2 hgrow2 hi hz0 hz1 hz2
  obtain ⟨ao, hao⟩ : ∃ ao : Option Addr, ao = some ⟨w.heap.size, 0, none⟩ := ⟨_, rfl⟩
  rw [← hao] at ho2 ⊢
  clear hao
  have HO2 := Lib.hid ho2; clear ho2
  go_loopw [7, 24] (fun x i wr => ∃ (k : Nat) (L : List Int), k ≤ n ∧ i = .int .i64 (k : Int) ∧ Own wr w.heap.size ao n n L ∧ (∀ j, j < k → bt L j = j) ∧ Below w.heap.size w wr) (fun _ i _ => n - (intOf i).toNat)
  case atStart => exact ⟨0, _, by omega, rfl, HO2.out, fun j hj => by omega, b2⟩
  case round =>
    obtain ⟨k, L, hk, rfl, ho, hid, hb⟩ := hrel
    have hlen := ho.len
    have HO := Lib.hid ho; have HI := Lib.hid hid
    clear ho hid HO2 b2
    by_cases hlt : k < n
    · obtain ⟨g1, o1, rfl, hB, hgs, hcell, hfr⟩ := HO.out.at_ k hlt
      go_wp2_with fail
      go_roundw
      case rel =>
        refine ⟨k + 1, L.set k (k : Int), by omega, by go_num, HO.out.set k (k : Int) hlt (by unfold okI; omega), fun j hj => ?_, hb.setCell (p := ⟨g1, o1 + k, none⟩) hB _⟩
        rw [bt_set _ _ _ _ (by omega)]
        by_cases e : j = k
        · rw [if_pos e, e]
        · rw [if_neg e]; exact HI.out j (by omega)
      case measure => simp [intOf]; omega
    · obtain rfl : k = n := by omega
      have hL := idl_of hlen HI.out
      have HO3 := Lib.hid HO.out
      rw [hL] at HO3
      have HG3 := Lib.hid (HG.out.below hb)
      have K3 := Lib.hid (Keep.of_below hb [g])
      clear HO HI hL hlen hb
      generalize wr = w3 at *
      go_wp2_with fail
      go_loopw [8, 9] (fun i j wr => ∃ (m s' : Nat) (L : List Int), m ≤ k ∧ i = .int .i64 ((m : Int) - 1) ∧ ordM m s' L = F ∧ Own wr w.heap.size ao k k L ∧ Gen wr B g s' ∧ Keep [g] w wr) (fun i _ _ => (intOf i).toNat)
      case atStart => exact ⟨k, s, _, by omega, rfl, HF.out, HO3.out, HG3.out, K3.out⟩
      case round =>
        obtain ⟨m, s', L, hm, rfl, hF, ho, hg, hk⟩ := hrel
        clear HO3 HG3 K3 HF
        have hne : g ∉ blk ao := fun h => by have := (ho.lt_size g h).1; have := HG.out.lt; omega
        have HK := Lib.hid hk; clear hk
        by_cases hlt : 2 ≤ m
        · obtain ⟨q, rfl⟩ : ∃ q, m = q + 1 := ⟨m - 1, by omega⟩
          have hbl := bel_lt s' (q + 1) (by omega)
          have rb := below_any B g s' wr hg (q + 1) (by omega)
          have ec : ((q + 1 : Nat) : Int) = (q : Int) + 1 := by omega
          have ei : ((q + 1 : Nat) : Int) - 1 = (q : Int) := by omega
          rw [ec] at rb
          rw [ei]
          have RB := Lib.hid rb
          have HO := Lib.hid ho
          rw [ordM_step q s' L (by omega)] at hF
          have HF := Lib.hid hF
          clear hF rb ho hg ec ei
          generalize bel s' (q + 1) = j at *
          go_wp2_with fail
          refine RB.out.mono ?_; rintro e w4 ⟨rfl, hg4, k4⟩
          have ho4 := HO.out.keep k4 (fun x hx hm => by rw [List.mem_singleton] at hm; subst hm; exact hne hx)
          have hk4 := HK.out.trans k4
          obtain ⟨g1, o1, rfl, hB1, hgs1, hc1, hf1⟩ := ho4.at_ q (by omega)
          obtain ⟨g2, o2, e2, hB2, hgs2, hc2, hf2⟩ := ho4.at_ j (by omega)
          cases e2
          have HO4 := Lib.hid ho4; have HG4 := Lib.hid hg4; have HK4 := Lib.hid hk4
          have hN := ho4.len
          have okq := ho4.rd.byte q
          have okj := ho4.rd.byte j
          have ho5 := ho4.set q (bt L j) (by omega) okj
          obtain ⟨g3, o3, e3, hB3, hgs3, hc5, hf5⟩ := ho5.at_ j (by omega)
          cases e3
          have ho6 := ho5.set j (bt L q) (by omega) okq
          have HO6 := Lib.hid ho6
          clear ho4 hg4 RB HO HK ho5 ho6 hN okq okj HO4
          have i1 : (q : Int) < (k : Int) := by omega
          have i2 : (j : Int) < (k : Int) := by omega
          have i3 : (0 : Int) ≤ (q : Int) := by omega
          have i4 : (0 : Int) ≤ (j : Int) := by omega
          have i5 : j < k := by omega
          have i6 : q < k := by omega
          have HL := Lib.hid (show w.heap.size ≤ g1 from hB1)
          have kk := ((Keep.setCell w4 ⟨g1, o1 + q, none⟩ (u8v (bt L j))).trans (Keep.setCell (w4.setCell ⟨g1, o1 + q, none⟩ (u8v (bt L j))) ⟨g1, o1 + j, none⟩ (u8v (bt L q)))).trans (Keep.of_below (Below.refl _ _).drew _)
          have hgg : g ≠ g1 := fun h => hne (by simp [blk, h])
          have GEN6 := Lib.hid (HG4.out.keep kk (by simpa using hgg))
          have KEEP6 := Lib.hid (((hk4.mono (T := [g, g1]) (fun x hx => .inl (by simp at hx; simp [hx]))).trans (kk.mono (T := [g, g1]) (fun x hx => .inl (by simp at hx; simp [hx])))).mono (T := [g]) (fun x hx => by
            rcases List.mem_cons.1 hx with h | h
            · exact .inl (by simp [h])
            · simp at h; subst h; exact .inr hB1))
          clear kk hgg
          clear hbl k4 hk4 hgs1 hgs2 hgs3 hB2 hB3 hB1
          go_wp2_with fail
          have HM := Lib.hid hm
          clear i1 i2 i3 i4 hlt hm
          -- EXCHANGE
          refine wp_region_any (by kernel_rfl) ?_
          try (change wpAny _ _ _ _ _ _ _ (World.drew _))
          refine wpAny_take (i := 0) (v := .slice (some ⟨g1, o1, none⟩) k k) rfl (by kernel_rfl) (by kernel_rfl) (by kernel_rfl) (fun _ _ _ h => h) (Or.inl ⟨by rfl, fun w' => by go_simp⟩) ?_
          simp only [Act.put, List.getElem_toArray, List.getElem_cons_succ, List.getElem_cons_zero, List.setIfInBounds_toArray, List.set_cons_zero, List.set_cons_succ]
          refine wpAny_take (i := 1) (v := .int .i64 (q : Int)) rfl (by kernel_rfl) (by kernel_rfl) (by kernel_rfl) (fun _ _ _ h => h) (Or.inl ⟨by rfl, fun w' => by go_simp⟩) ?_
          simp only [Act.put, List.getElem_toArray, List.getElem_cons_succ, List.getElem_cons_zero, List.setIfInBounds_toArray, List.set_cons_zero, List.set_cons_succ]
          refine wpAny_take (i := 2) (v := .slice (some ⟨g1, o1, none⟩) k k) rfl (by kernel_rfl) (by kernel_rfl) (by kernel_rfl) (fun _ _ _ h => h) (Or.inl ⟨by rfl, fun w' => by go_simp⟩) ?_
          simp only [Act.put, List.getElem_toArray, List.getElem_cons_succ, List.getElem_cons_zero, List.setIfInBounds_toArray, List.set_cons_zero, List.set_cons_succ]
          refine wpAny_take (i := 3) (v := .int .u64 (j : Int)) rfl (by kernel_rfl) (by kernel_rfl) (by kernel_rfl) (fun _ _ _ h => h) (Or.inl ⟨by rfl, fun w' => by go_simp⟩) ?_
          simp only [Act.put, List.getElem_toArray, List.getElem_cons_succ, List.getElem_cons_zero, List.setIfInBounds_toArray, List.set_cons_zero, List.set_cons_succ]
          refine wpAny_take (i := 4) (v := .slice (some ⟨g1, o1, none⟩) k k) rfl (by kernel_rfl) (by kernel_rfl) (by kernel_rfl) (fun _ _ _ h => h) (Or.inl ⟨by rfl, fun w' => by go_simp⟩) ?_
          simp only [Act.put, List.getElem_toArray, List.getElem_cons_succ, List.getElem_cons_zero, List.setIfInBounds_toArray, List.set_cons_zero, List.set_cons_succ]
          refine wpAny_take (i := 5) (v := .int .u64 (j : Int)) rfl (by kernel_rfl) (by kernel_rfl) (by kernel_rfl) (fun _ _ _ h => h) (Or.inl ⟨by rfl, fun w' => by go_simp⟩) ?_
          simp only [Act.put, List.getElem_toArray, List.getElem_cons_succ, List.getElem_cons_zero, List.setIfInBounds_toArray, List.set_cons_zero, List.set_cons_succ]
          refine wpAny_take (i := 6) (v := .pointer (some ⟨g1, o1 + j, none⟩)) rfl (by kernel_rfl) (by kernel_rfl) (by kernel_rfl) (fun _ _ _ h => h) (Or.inl ⟨by rfl, exec_idx (g := g1) (o1 := o1) (n := k) (c := k) (q := j) (k := .u64) (.tmp 47) (.tmp 48) rfl (by rfl) (by rfl) i5⟩) ?_
          simp only [Act.put, List.getElem_toArray, List.getElem_cons_succ, List.getElem_cons_zero, List.setIfInBounds_toArray, List.set_cons_zero, List.set_cons_succ]
          refine wpAny_take (i := 8) (v := .slice (some ⟨g1, o1, none⟩) k k) rfl (by kernel_rfl) (by kernel_rfl) (by kernel_rfl) (fun _ _ _ h => h) (Or.inl ⟨by rfl, fun w' => by go_simp⟩) ?_
          simp only [Act.put, List.getElem_toArray, List.getElem_cons_succ, List.getElem_cons_zero, List.setIfInBounds_toArray, List.set_cons_zero, List.set_cons_succ]
          refine wpAny_take (i := 9) (v := .int .i64 (q : Int)) rfl (by kernel_rfl) (by kernel_rfl) (by kernel_rfl) (fun _ _ _ h => h) (Or.inl ⟨by rfl, fun w' => by go_simp⟩) ?_
          simp only [Act.put, List.getElem_toArray, List.getElem_cons_succ, List.getElem_cons_zero, List.setIfInBounds_toArray, List.set_cons_zero, List.set_cons_succ]
          refine wpAny_take (i := 10) (v := .pointer (some ⟨g1, o1 + q, none⟩)) rfl (by kernel_rfl) (by kernel_rfl) (by kernel_rfl) (fun _ _ _ h => h) (Or.inl ⟨by rfl, exec_idx (g := g1) (o1 := o1) (n := k) (c := k) (q := q) (k := .i64) (.tmp 51) (.tmp 52) rfl (by rfl) (by rfl) i6⟩) ?_
          simp only [Act.put, List.getElem_toArray, List.getElem_cons_succ, List.getElem_cons_zero, List.setIfInBounds_toArray, List.set_cons_zero, List.set_cons_succ]
          refine wpAny_ready (rs := [7, 11]) (by kernel_rfl) (by simp) ?_
          refine AllReady.cons rfl (fun K hK => ?_) (AllReady.cons rfl (fun K hK => ?_) AllReady.nil)
          · go_simp
            refine hK _ _ ?_; clear hK K
            try simp only [Act.put, List.getElem_toArray, List.getElem_cons_succ, List.getElem_cons_zero, List.setIfInBounds_toArray, List.set_cons_zero, List.set_cons_succ]
            refine wpAny_ready (rs := [11]) (by kernel_rfl) (by simp) ?_
            refine AllReady.cons rfl (fun K hK => ?_) AllReady.nil
            go_simp
            refine hK _ _ ?_; clear hK K
            try simp only [Act.put, List.getElem_toArray, List.getElem_cons_succ, List.getElem_cons_zero, List.setIfInBounds_toArray, List.set_cons_zero, List.set_cons_succ]
            refine wpAny_take (i := 12) (v := .pointer (some ⟨g1, o1 + q, none⟩)) rfl (by kernel_rfl) (by kernel_rfl) (by kernel_rfl) (fun _ _ _ h => h) (Or.inl ⟨by rfl, exec_idx (g := g1) (o1 := o1) (n := k) (c := k) (q := q) (k := .i64) (.tmp 43) (.tmp 44) rfl (by rfl) (by rfl) i6⟩) ?_
            simp only [Act.put, List.getElem_toArray, List.getElem_cons_succ, List.getElem_cons_zero, List.setIfInBounds_toArray, List.set_cons_zero, List.set_cons_succ]
            refine wpAny_ready (rs := [13]) (by kernel_rfl) (by simp) ?_
            refine AllReady.cons rfl (fun K hK => ?_) AllReady.nil
            go_simp
            refine hK _ _ ?_; clear hK K
            try simp only [Act.put, List.getElem_toArray, List.getElem_cons_succ, List.getElem_cons_zero, List.setIfInBounds_toArray, List.set_cons_zero, List.set_cons_succ]
            refine wpAny_take (i := 14) (v := .pointer (some ⟨g1, o1 + j, none⟩)) rfl (by kernel_rfl) (by kernel_rfl) (by kernel_rfl) (fun _ _ _ h => h) (Or.inl ⟨by rfl, exec_idx (g := g1) (o1 := o1) (n := k) (c := k) (q := j) (k := .u64) (.tmp 45) (.tmp 46) rfl (by rfl) (by rfl) i5⟩) ?_
            simp only [Act.put, List.getElem_toArray, List.getElem_cons_succ, List.getElem_cons_zero, List.setIfInBounds_toArray, List.set_cons_zero, List.set_cons_succ]
            refine wpAny_ready (rs := [15]) (by kernel_rfl) (by simp) ?_
            refine AllReady.cons rfl (fun K hK => ?_) AllReady.nil
            go_simp
            refine hK _ _ ?_; clear hK K
            try simp only [Act.put, List.getElem_toArray, List.getElem_cons_succ, List.getElem_cons_zero, List.setIfInBounds_toArray, List.set_cons_zero, List.set_cons_succ]
            refine wpAny_done (by kernel_rfl) ?_ _
            clear hc1 hf1 hc2 hf2 hc5 hf5
            go_wp2_with fail
            go_roundw
            case rel => exact ⟨q, nx s', swp L q j, by omega, by go_num, HF.out, HO6.out.below (Below.refl _ _).drew, GEN6.out, KEEP6.out⟩
            case measure => simp [intOf]; omega
          · go_simp
            refine hK _ _ ?_; clear hK K
            try simp only [Act.put, List.getElem_toArray, List.getElem_cons_succ, List.getElem_cons_zero, List.setIfInBounds_toArray, List.set_cons_zero, List.set_cons_succ]
            refine wpAny_ready (rs := [7]) (by kernel_rfl) (by simp) ?_
            refine AllReady.cons rfl (fun K hK => ?_) AllReady.nil
            go_simp
            refine hK _ _ ?_; clear hK K
            try simp only [Act.put, List.getElem_toArray, List.getElem_cons_succ, List.getElem_cons_zero, List.setIfInBounds_toArray, List.set_cons_zero, List.set_cons_succ]
            refine wpAny_take (i := 12) (v := .pointer (some ⟨g1, o1 + q, none⟩)) rfl (by kernel_rfl) (by kernel_rfl) (by kernel_rfl) (fun _ _ _ h => h) (Or.inl ⟨by rfl, exec_idx (g := g1) (o1 := o1) (n := k) (c := k) (q := q) (k := .i64) (.tmp 43) (.tmp 44) rfl (by rfl) (by rfl) i6⟩) ?_
            simp only [Act.put, List.getElem_toArray, List.getElem_cons_succ, List.getElem_cons_zero, List.setIfInBounds_toArray, List.set_cons_zero, List.set_cons_succ]
            refine wpAny_ready (rs := [13]) (by kernel_rfl) (by simp) ?_
            refine AllReady.cons rfl (fun K hK => ?_) AllReady.nil
            go_simp
            refine hK _ _ ?_; clear hK K
            try simp only [Act.put, List.getElem_toArray, List.getElem_cons_succ, List.getElem_cons_zero, List.setIfInBounds_toArray, List.set_cons_zero, List.set_cons_succ]
            refine wpAny_take (i := 14) (v := .pointer (some ⟨g1, o1 + j, none⟩)) rfl (by kernel_rfl) (by kernel_rfl) (by kernel_rfl) (fun _ _ _ h => h) (Or.inl ⟨by rfl, exec_idx (g := g1) (o1 := o1) (n := k) (c := k) (q := j) (k := .u64) (.tmp 45) (.tmp 46) rfl (by rfl) (by rfl) i5⟩) ?_
            simp only [Act.put, List.getElem_toArray, List.getElem_cons_succ, List.getElem_cons_zero, List.setIfInBounds_toArray, List.set_cons_zero, List.set_cons_succ]
            refine wpAny_ready (rs := [15]) (by kernel_rfl) (by simp) ?_
            refine AllReady.cons rfl (fun K hK => ?_) AllReady.nil
            go_simp
            refine hK _ _ ?_; clear hK K
            try simp only [Act.put, List.getElem_toArray, List.getElem_cons_succ, List.getElem_cons_zero, List.setIfInBounds_toArray, List.set_cons_zero, List.set_cons_succ]
            refine wpAny_done (by kernel_rfl) ?_ _
            clear hc1 hf1 hc2 hf2 hc5 hf5
            go_wp2_with fail
            go_roundw
            case rel => exact ⟨q, nx s', swp L q j, by omega, by go_num, HF.out, HO6.out.below (Below.refl _ _).drew, GEN6.out, KEEP6.out⟩
            case measure => simp [intOf]; omega
          -- END EXCHANGE
        · have hE := ordM_end m s' L (by omega)
          rw [hE] at hF
          have HF := Lib.hid hF
          have HO := Lib.hid ho; have HG5 := Lib.hid hg
          clear hF hE hg ho
          go_wp2_with fail
          go_ret2
          exact ⟨ao, k, rfl, by rw [← HF.out]; exact HO.out, by rw [← HF.out]; exact HG5.out, HK.out⟩
end Go.Proofs.Ythjchlcmmemapaa
