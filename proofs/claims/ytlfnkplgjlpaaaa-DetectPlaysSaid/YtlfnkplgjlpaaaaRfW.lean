/- The document's Watch. -/
import Derived.Test.YtlfnkplgjlpaaaaRfL
namespace Go.Proofs.Ytlfnkplgjlpaaaa
open Go.RowKit Go.Sort
set_option linter.unusedVariables false

theorem ins_lt {n : Nd} : ∀ {A C : List Nd}, (∀ x ∈ A, ¬ n.id < x.id) → ins n (A ++ C) = A ++ ins n C
  | [], C, _ => rfl
  | x :: A, C, h => by
    show (if n.id < x.id then _ else _) = _
    rw [if_neg (h x (by simp))]
    show x :: ins n (A ++ C) = x :: (A ++ ins n C)
    rw [ins_lt fun y hy => h y (by simp [hy])]
theorem ins_gt {n : Nd} {x : Nd} : ∀ {A : List Nd}, (∃ y ∈ A, n.id < y.id) → ins n (A ++ [x]) = ins n A ++ [x]
  | [], h => by obtain ⟨y, hy, _⟩ := h; cases hy
  | y :: A, h => by
    show (if n.id < y.id then _ else _) = (if n.id < y.id then _ else _) ++ _
    by_cases e : n.id < y.id
    · rw [if_pos e, if_pos e]; rfl
    · rw [if_neg e, if_neg e]
      obtain ⟨z, hz, hz2⟩ := h
      rcases List.mem_cons.1 hz with rfl | hz
      · exact absurd hz2 e
      · show y :: ins n (A ++ [x]) = y :: (ins n A ++ [x])
        rw [ins_gt ⟨z, hz, hz2⟩]
theorem ins_one {n x : Nd} (h : n.id < x.id) : ins n [x] = [n, x] := by unfold ins; rw [if_pos h]
section
variable {w w' : World} {B hb cap guess : Nat} {ao : Option Addr} {S : List Nd} {Bs : List Nat}
set_option maxHeartbeats 800000 in
theorem rwatch_arg (id now : Int) (w : World) (hbad : (decide (0 ≤ id ∧ id ≤ 255) && isT now) = false) : Calls Try.prog 24 #[.pointer (some ⟨hb, 0, none⟩), .int .i64 id, .int .i64 now] w fun e w' => e = .returned (.int .i64 1) ∧ w = w' := by
  have T1 := Lib.hid (fun w => rtime_any now w)
  by_cases h0 : id < 0
  · have e0 : decide (id < 0) = true := by simpa using h0
    clear hbad
    go_enter Try.func24, Try.ntmps24
    go_wp2_with fail
    refine (T1.out _).mono ?_; rintro e w1 ⟨rfl, rfl⟩
    go_wp2_with fail
    go_ret
    exact ⟨rfl, rfl⟩
  · have e0 : decide (id < 0) = false := by simpa using h0
    by_cases h1 : 255 < id
    · have e1 : decide (255 < id) = true := by simpa using h1
      clear hbad
      go_enter Try.func24, Try.ntmps24
      go_wp2_with fail
      refine (T1.out _).mono ?_; rintro e w1 ⟨rfl, rfl⟩
      go_wp2_with fail
      go_ret
      exact ⟨rfl, rfl⟩
    · have e1 : decide (255 < id) = false := by simpa using h1
      have hT : isT now = false := by
        rw [show decide (0 ≤ id ∧ id ≤ 255) = true by simp; omega, Bool.true_and] at hbad
        exact hbad
      rw [hT] at T1
      clear hbad hT
      go_enter Try.func24, Try.ntmps24
      go_wp2_with fail
      refine (T1.out _).mono ?_; rintro e w1 ⟨rfl, rfl⟩
      go_wp2_with fail
      go_ret
      exact ⟨rfl, rfl⟩
set_option maxHeartbeats 1600000 in
theorem rwatch_is (id : Int) (hid : 0 ≤ id ∧ id ≤ 255) {t : Nat} (ht : t ≤ 1099511627776) (w : World) (h : Rf w B hb Bs S guess) {n : Nd} (hl : look S id = some n) : Calls Try.prog 24 #[.pointer (some ⟨hb, 0, none⟩), .int .i64 id, .int .i64 (t : Int)] w fun e w' => e = .returned (.int .i64 0) ∧ w = w' := by
  obtain ⟨ao, cap, rfl, h⟩ := h
  have T1 := fun w => rtime_any (t : Int) w
  rw [isT_nat ht] at T1
  have T1 := Lib.hid T1
  have P1 := Lib.hid (rplace_any id w h)
  have HL := Lib.hid hl
  have e0 : decide (id < 0) = false := by simp; omega
  have e1 : decide (255 < id) = false := by simp; omega
  clear h hl hid ht
  go_enter Try.func24, Try.ntmps24
  go_wp2_with fail
  refine (T1.out _).mono ?_; rintro e w1 ⟨rfl, rfl⟩
  go_wp2_with fail
  refine P1.out.mono ?_; rintro e w2 ⟨x, rfl, hx, rfl⟩
  obtain ⟨j, rfl⟩ : ∃ j : Nat, x = j := by
    rcases hx with ⟨_, h1⟩ | ⟨j, _, h1, _⟩
    · rw [HL.out] at h1; cases h1
    · exact ⟨j, h1⟩
  have hji : (0 : Int) ≤ (j : Int) := by omega
  clear hx P1
  go_wp2_with fail
  go_ret
  exact ⟨rfl, rfl⟩
set_option maxHeartbeats 1600000 in
theorem rwatch_full (id : Int) (hid : 0 ≤ id ∧ id ≤ 255) {t : Nat} (ht : t ≤ 1099511627776) (w : World) (h : Rf w B hb Bs S guess) (hl : look S id = none) (hf : 12 ≤ S.length) : Calls Try.prog 24 #[.pointer (some ⟨hb, 0, none⟩), .int .i64 id, .int .i64 (t : Int)] w fun e w' => e = .returned (.int .i64 91) ∧ w = w' := by
  obtain ⟨ao, cap, rfl, h⟩ := h
  have T1 := fun w => rtime_any (t : Int) w
  rw [isT_nat ht] at T1
  have T1 := Lib.hid T1
  have P1 := Lib.hid (rplace_any id w h)
  have HL := Lib.hid hl
  have e0 : decide (id < 0) = false := by simp; omega
  have e1 : decide (255 < id) = false := by simp; omega
  have c1 := h.at1
  have h12 : S.length = 12 := Nat.le_antisymm h.few hf
  rw [h12] at c1
  clear h hl hid ht hf h12
  go_enter Try.func24, Try.ntmps24
  go_wp2_with fail
  refine (T1.out _).mono ?_; rintro e w1 ⟨rfl, rfl⟩
  go_wp2_with fail
  refine P1.out.mono ?_; rintro e w2 ⟨x, rfl, hx, rfl⟩
  obtain rfl : x = -1 := by
    rcases hx with ⟨h1, _⟩ | ⟨_, n, _, _, _, h1⟩
    · exact h1
    · rw [HL.out] at h1; cases h1
  clear hx P1
  go_wp2_with fail
  go_ret
  exact ⟨rfl, rfl⟩
set_option maxRecDepth 100000 in
set_option maxHeartbeats 8000000 in
theorem rwatch_yes (id : Int) (hid : 0 ≤ id ∧ id ≤ 255) {t : Nat} (ht : t ≤ 1099511627776) (w : World) (h : Rf w B hb Bs S guess) (hl : look S id = none) (hf : S.length < 12) : Calls Try.prog 24 #[.pointer (some ⟨hb, 0, none⟩), .int .i64 id, .int .i64 (t : Int)] w fun e w' =>
    ∃ Bs', e = .returned (.int .i64 0) ∧ Rf w' B hb Bs' (ins (newN guess id t) S) guess ∧ Turned Bs Bs' w w' := by
  obtain ⟨ao, cap, rfl, h⟩ := h
  have T1 := fun w => rtime_any (t : Int) w
  rw [isT_nat ht] at T1
  have T1 := Lib.hid T1
  have P1 := Lib.hid (rplace_any id w h)
  have HL := Lib.hid hl
  have H := Lib.hid h
  have HIN := Lib.hid (ins_inc (n := newN guess id t) h.inc (look_none hl))
  have HOK := Lib.hid (show ∀ x ∈ ins (newN guess id t) S, x.Ok from fun x hx => by
    rcases ins_mem.1 hx with rfl | hx
    · exact ⟨hid.1, hid.2, ht, by simp, by have := h.g.2; simpa using this⟩
    · exact h.ok x hx)
  have e0 : decide (id < 0) = false := by simp; omega
  have e1 : decide (255 < id) = false := by simp; omega
  have c0 := h.at0
  have c1 := h.at1
  have hhb := h.hlt
  obtain ⟨m, hm⟩ : ∃ m, S.length = m := ⟨_, rfl⟩
  have HM := Lib.hid hm
  rw [hm] at c1 hf
  have hmi : (m : Int) < 12 := by omega
  have hne12 : ((m : Int) == 12) = false := by simp; omega
  obtain ⟨i0, hi0, hz0, hz1, hz2⟩ := info_parts peer_info
  have HI := Lib.hid hi0; have HZ0 := Lib.hid hz0; have HZ1 := Lib.hid hz1; have HZ2 := Lib.hid hz2
  clear h hl hid ht hf hm hi0 hz0 hz1 hz2
  go_enter Try.func24, Try.ntmps24
  go_wp2_with fail
  refine (T1.out _).mono ?_; rintro e w0 ⟨rfl, rfl⟩
  go_wp2_with fail
  refine P1.out.mono ?_; rintro e w1 ⟨x, rfl, hx, rfl⟩
  obtain rfl : x = -1 := by
    rcases hx with ⟨h1, _⟩ | ⟨_, n, _, _, _, h1⟩
    · exact h1
    · rw [HL.out] at h1; cases h1
  clear hx P1
  go_wp2_with fail
  go_loopw [9, 10, 11] (fun v9 v10 v11 wr => ∃ (k M : Nat) (b : Bool) (acc : List Nd), v11 = .int .i64 (k : Int) ∧ v10 = .bool b ∧ k ≤ m ∧ M = acc.length ∧ M ≤ k + 1 ∧ wr.ownsRow w1.heap.size 71 5 v9 M (fl c5 acc) ∧ Below w1.heap.size w1 wr ∧
    (if b then acc = ins (newN guess id t) (S.take k) ∧ ∃ y ∈ S.take k, id < y.id else acc = S.take k ∧ ∀ y ∈ S.take k, ¬ id < y.id)) (fun _ _ v11 _ => m - (intOf v11).toNat)
  case atStart => exact ⟨0, 0, false, [], rfl, rfl, by omega, rfl, by omega, World.ownsRow_nil _ _ _ _, Below.refl _ _, by simp⟩
  case round =>
    obtain ⟨k, M, b, acc, rfl, rfl, hk, hM, hMk, hacc, hbl, hst⟩ := hrel
    obtain ⟨ac, cc, rfl, hcc1, hcc2⟩ := owns_shape hacc
    have HACC := Lib.hid hacc; have HB := Lib.hid hbl; have HST := Lib.hid hst; have HMM := Lib.hid hM
    have c0' := (hbl.cell (p := ⟨hb, 0, none⟩) hhb).trans c0
    have c1' := (hbl.cell (p := ⟨hb, 1, none⟩) hhb).trans c1
    have hsz1 : w1.heap.size ≤ wr.heap.size := hbl.size
    have HBASE := Lib.hid (fun g (hg : (Value.slice ac M cc).ownBlock = some g) => (hacc.lt g hg).1)
    clear hst hM
    by_cases hlt : k < m
    · obtain ⟨n, hn⟩ : ∃ n, S[k]? = some n := ⟨_, List.getElem?_eq_getElem (by rw [HM.out]; exact hlt)⟩
      obtain ⟨g, rfl, hg, hgB, hcell⟩ := H.out.node hn
      have HD := Lib.hid (fun (w' : World) (bw : Below w1.heap.size w1 w') i v (hv : (c5 n)[i]? = some v) => (bw.cell (p := ⟨g, k * 5 + i, none⟩) hg).trans (hcell i v hv).1)
      have d0 := HD.out wr hbl 0 _ rfl
      have d1 := HD.out wr hbl 1 _ rfl
      have d2 := HD.out wr hbl 2 _ rfl
      have d3 := HD.out wr hbl 3 _ rfl
      have d4 := HD.out wr hbl 4 _ rfl
      rw [Nat.add_zero] at d0
      have NX := Lib.hid (take_next hn)
      have hki : (0 : Int) ≤ (k : Int) := by omega
      have hki2 : (k : Int) < (m : Int) := by omega
      clear hcell hn hacc hbl
      cases b
      · obtain ⟨hacceq, hno⟩ : acc = S.take k ∧ ∀ y ∈ S.take k, ¬ id < y.id := by simpa using HST.out
        by_cases hgt : id < n.id
        · have hgt2 : decide (id < n.id) = true := by simpa using hgt
          have HGT := Lib.hid hgt; have HAE := Lib.hid hacceq; have HNO := Lib.hid hno
          have hown1 := HACC.out
          clear hgt hacceq hno
          go_upto_region 16 with (at_builtin; refine wpList_append_own _ rfl (.tmp 58) (.tmp 66) 30 rfl w1.heap.size 71 i0 (.agg #[.int .i64 0, .int .i64 0, .int .i64 0, .int .i64 0, .bool false]) 5 40 Try.underlying30 HI.out HZ0.out HZ1.out HZ2.out rfl (by omega) _ M _ rfl (hown1.alloc _) ⟨wr.heap.size, 0, none⟩ 1 1 [.int .i64 id, .int .i64 (t : Int), .int .i64 0, .int .i64 (guess : Int), .bool false] rfl rfl (World.news_of_block (cs := #[.int .i64 id, .int .i64 (t : Int), .int .i64 0, .int .i64 (guess : Int), .bool false]) (t := 71) (fr := (0, 0)) (heap_alloc_new wr _)) (by simp [Value.oneCell']) (by unfold maxLen; omega) (by omega) (by simp; omega) ?_; intro v5 w5 hown5 hg5 hv5)
          have hb5 := below_grown (below_alloc' HB.out hsz1 (.cells #[.int .i64 id, .int .i64 (t : Int), .int .i64 0, .int .i64 (guess : Int), .bool false] 71)) (by simp; omega) hg5 HBASE.out
          have HB5 := Lib.hid hb5
          have hsz5 : w1.heap.size ≤ w5.heap.size := hb5.size
          have d0 := HD.out w5 hb5 0 _ rfl
          have d1 := HD.out w5 hb5 1 _ rfl
          have d2 := HD.out w5 hb5 2 _ rfl
          have d3 := HD.out w5 hb5 3 _ rfl
          have d4 := HD.out w5 hb5 4 _ rfl
          rw [Nat.add_zero] at d0
          have c1n : w5.cell? ⟨hb, 1, none⟩ = some (.slice (some ⟨g, 0, none⟩) m cap) := (hb5.cell (p := ⟨hb, 1, none⟩) hhb).trans c1
          have HBASE5 := Lib.hid (fun g (hg : v5.ownBlock = some g) => (hown5.lt g hg).1)
          clear hg5 hv5 hb5 hown1 c1' c0'
          go_wp2_with (at_builtin; refine wpList_append_own _ rfl (.tmp 68) (.tmp 76) 30 rfl w1.heap.size 71 i0 (.agg #[.int .i64 0, .int .i64 0, .int .i64 0, .int .i64 0, .bool false]) 5 40 Try.underlying30 HI.out HZ0.out HZ1.out HZ2.out rfl (by omega) _ (M + 1) _ rfl (hown5.alloc _) ⟨w5.heap.size, 0, none⟩ 1 1 (c5 n) rfl rfl (World.news_of_block (cs := (c5 n).toArray) (t := 71) (fr := (0, 0)) (heap_alloc_new w5 _)) (by simp [Value.oneCell']) (by unfold maxLen; omega) (by omega) (by simp; omega) ?_; intro v6 w6 hown6 hg6 hv6)
          have HO6 := Lib.hid hown6; have HG6 := Lib.hid hg6
          clear hown6 hg6 hv6 hown5
          go_wp2_with fail
          go_roundw
          case rel =>
            have hB6 := below_grown (below_alloc' HB5.out hsz5 (pobj n)) (by simp; omega) HG6.out HBASE5.out
            refine ⟨k + 1, M + 1 + 1, true, acc ++ [newN guess id t] ++ [n], by go_num, rfl, by omega, by rw [List.length_append, List.length_append, ← HMM.out]; rfl, by have := HMM.out; rw [HAE.out, List.length_take] at this; omega, by rw [fl_app, fl_app, fl_one, fl_one]; exact HO6.out, hB6, ?_⟩
            simp only [if_true]
            rw [NX.out, HAE.out, ins_lt (by exact HNO.out), ins_one (by exact HGT.out)]
            exact ⟨by simp, n, by simp, HGT.out⟩
          case measure => simp [intOf]; omega
        · have hgt2 : decide (id < n.id) = false := by simpa using hgt
          have HGT := Lib.hid hgt; have HAE := Lib.hid hacceq; have HNO := Lib.hid hno
          have hown1 := HACC.out
          clear hgt hacceq hno
          go_wp2_with (at_builtin; refine wpList_append_own _ rfl (.tmp 68) (.tmp 76) 30 rfl w1.heap.size 71 i0 (.agg #[.int .i64 0, .int .i64 0, .int .i64 0, .int .i64 0, .bool false]) 5 40 Try.underlying30 HI.out HZ0.out HZ1.out HZ2.out rfl (by omega) _ M _ rfl (hown1.alloc _) ⟨wr.heap.size, 0, none⟩ 1 1 (c5 n) rfl rfl (World.news_of_block (cs := (c5 n).toArray) (t := 71) (fr := (0, 0)) (heap_alloc_new wr _)) (by simp [Value.oneCell']) (by unfold maxLen; omega) (by omega) (by simp; omega) ?_; intro v6 w6 hown6 hg6 hv6)
          have HO6 := Lib.hid hown6; have HG6 := Lib.hid hg6
          clear hown6 hg6 hv6 hown1
          go_wp2_with fail
          go_roundw
          case rel =>
            have hB6 := below_grown (below_alloc' HB.out hsz1 (pobj n)) (by simp; omega) HG6.out HBASE.out
            refine ⟨k + 1, M + 1, false, acc ++ [n], by go_num, rfl, by omega, by rw [List.length_append, ← HMM.out]; rfl, by omega, by rw [fl_app, fl_one]; exact HO6.out, hB6, ?_⟩
            simp only [Bool.false_eq_true, if_false]
            rw [NX.out, HAE.out]
            refine ⟨rfl, fun y hy => ?_⟩
            rcases List.mem_append.1 hy with hy | hy
            · exact HNO.out y hy
            · rw [List.mem_singleton] at hy; rw [hy]; exact HGT.out
          case measure => simp [intOf]; omega
      · obtain ⟨hacceq, hex⟩ : acc = ins (newN guess id t) (S.take k) ∧ ∃ y ∈ S.take k, id < y.id := by simpa using HST.out
        have HAE := Lib.hid hacceq; have HEX := Lib.hid hex
        have hown1 := HACC.out
        clear hacceq hex
        go_wp2_with (at_builtin; refine wpList_append_own _ rfl (.tmp 68) (.tmp 76) 30 rfl w1.heap.size 71 i0 (.agg #[.int .i64 0, .int .i64 0, .int .i64 0, .int .i64 0, .bool false]) 5 40 Try.underlying30 HI.out HZ0.out HZ1.out HZ2.out rfl (by omega) _ M _ rfl (hown1.alloc _) ⟨wr.heap.size, 0, none⟩ 1 1 (c5 n) rfl rfl (World.news_of_block (cs := (c5 n).toArray) (t := 71) (fr := (0, 0)) (heap_alloc_new wr _)) (by simp [Value.oneCell']) (by unfold maxLen; omega) (by omega) (by simp; omega) ?_; intro v6 w6 hown6 hg6 hv6)
        have HO6 := Lib.hid hown6; have HG6 := Lib.hid hg6
        clear hown6 hg6 hv6 hown1
        go_wp2_with fail
        go_roundw
        case rel =>
          have hB6 := below_grown (below_alloc' HB.out hsz1 (pobj n)) (by simp; omega) HG6.out HBASE.out
          refine ⟨k + 1, M + 1, true, acc ++ [n], by go_num, rfl, by omega, by rw [List.length_append, ← HMM.out]; rfl, by omega, by rw [fl_app, fl_one]; exact HO6.out, hB6, ?_⟩
          simp only [if_true]
          obtain ⟨y, hy, hy2⟩ := HEX.out
          rw [NX.out, HAE.out, ins_gt ⟨y, hy, hy2⟩]
          exact ⟨rfl, y, by simp [hy], hy2⟩
        case measure => simp [intOf]; omega
    · obtain rfl : k = m := by omega
      have htk : S.take k = S := by rw [← HM.out, List.take_length]
      have hbl' := hbl
      have hf1 : wr.frozen? ⟨hb, 1, none⟩ = false := (hbl.frozen (p := ⟨hb, 1, none⟩) hhb).trans (H.out.fr 1)
      clear hacc hbl
      cases b
      · obtain ⟨hacceq, hno⟩ : acc = S.take k ∧ ∀ y ∈ S.take k, ¬ id < y.id := by simpa using HST.out
        rw [htk] at hacceq hno
        have HAE := Lib.hid hacceq; have HNO := Lib.hid hno
        have hown1 := HACC.out
        clear hacceq hno hbl' htk
        go_upto_region 20 with (at_builtin; refine wpList_append_own _ rfl (.tmp 80) (.tmp 88) 30 rfl w1.heap.size 71 i0 (.agg #[.int .i64 0, .int .i64 0, .int .i64 0, .int .i64 0, .bool false]) 5 40 Try.underlying30 HI.out HZ0.out HZ1.out HZ2.out rfl (by omega) _ M _ rfl (hown1.alloc _) ⟨wr.heap.size, 0, none⟩ 1 1 [.int .i64 id, .int .i64 (t : Int), .int .i64 0, .int .i64 (guess : Int), .bool false] rfl rfl (World.news_of_block (cs := #[.int .i64 id, .int .i64 (t : Int), .int .i64 0, .int .i64 (guess : Int), .bool false]) (t := 71) (fr := (0, 0)) (heap_alloc_new wr _)) (by simp [Value.oneCell']) (by unfold maxLen; omega) (by omega) (by simp; omega) ?_; intro v5 w5 hown5 hg5 hv5)
        have hb5 := below_grown (below_alloc' HB.out hsz1 (.cells #[.int .i64 id, .int .i64 (t : Int), .int .i64 0, .int .i64 (guess : Int), .bool false] 71)) (by simp; omega) hg5 HBASE.out
        have HB5 := Lib.hid hb5
        obtain ⟨a5, p5, rfl, _, _⟩ := owns_shape hown5
        have hins : ins (newN guess id t) S = acc ++ [newN guess id t] := by
          have := ins_lt (n := newN guess id t) (A := S) (C := []) (by exact HNO.out)
          rw [List.append_nil] at this
          rw [this, HAE.out]; rfl
        have hln : (ins (newN guess id t) S).length = M + 1 := by rw [hins, List.length_append, ← HMM.out]; rfl
        have hown5' : w5.ownsRow w1.heap.size 71 5 (.slice a5 (ins (newN guess id t) S).length p5) (ins (newN guess id t) S).length (fl c5 (ins (newN guess id t) S)) := by
          rw [hln, hins, fl_app, fl_one]; exact hown5
        have hx := H.out.newL hb5 hown5' HIN.out HOK.out (by rw [hln]; have := HMM.out; rw [HAE.out, HM.out] at this; omega)
        rw [hln] at hx
        have HX := Lib.hid hx
        have d5 : w5.cell? ⟨hb, 1, none⟩ = some (.slice ao k cap) := (hb5.cell (p := ⟨hb, 1, none⟩) hhb).trans c1
        have z5 : w5.frozen? ⟨hb, 1, none⟩ = false := (hb5.frozen (p := ⟨hb, 1, none⟩) hhb).trans (H.out.fr 1)
        clear hx hown5 hown5' hg5 hv5 hb5 hown1 hf1 c1' c0' hins hln
        go_wp2_with fail
        go_ret
        exact ⟨rfl, _, ⟨a5, p5, rfl, HX.out.1⟩, HX.out.2⟩
      · obtain ⟨hacceq, _⟩ : acc = ins (newN guess id t) (S.take k) ∧ ∃ y ∈ S.take k, id < y.id := by simpa using HST.out
        rw [htk] at hacceq
        have hln : (ins (newN guess id t) S).length = M := by rw [← hacceq]; exact HMM.out.symm
        have hown5' : wr.ownsRow w1.heap.size 71 5 (.slice ac (ins (newN guess id t) S).length cc) (ins (newN guess id t) S).length (fl c5 (ins (newN guess id t) S)) := by
          rw [hln, ← hacceq]; exact HACC.out
        have hx := H.out.newL hbl' hown5' HIN.out HOK.out (by rw [hln]; omega)
        rw [hln] at hx
        have HX := Lib.hid hx
        clear hx hown5' hacceq hbl' htk hln
        go_wp2_with fail
        go_ret
        exact ⟨rfl, _, ⟨ac, cc, rfl, HX.out.1⟩, HX.out.2⟩
end
end Go.Proofs.Ytlfnkplgjlpaaaa
