/- The document's clock: without, Set, Stop. -/
import Derived.Test.YtkhfbnlmjnbhmaaRef
namespace Go.Proofs.Ytkhfbnlmjnbhmaa
open Go.RowKit Go.Sort
set_option linter.unusedVariables false

theorem rtimer_info : (Try.prog.info? 68).map (fun i => (i.zero, i.size, i.bytes)) = some (some (.agg #[.int .u64 0, .int .i64 0]), 2, 16) := by kernel_rfl
theorem take_succ_tm {l : List Tm} {k : Nat} (h : k < l.length) : l.take (k + 1) = l.take k ++ [tm l k] := by
  rw [List.take_add_one, tm_get h]; rfl
theorem wo_snoc (l : List Tm) (t : Tm) (id : Nat) : wo (l ++ [t]) id = if t.1 = id then wo l id else wo l id ++ [t] := by
  unfold wo
  rw [List.filter_append, List.filter_cons]
  by_cases e : t.1 = id
  · rw [if_neg (by simpa using e), if_pos e]; simp
  · rw [if_pos (by simpa using e), if_neg e]; simp
theorem inS_snoc (l : List Tm) (t : Tm) (id : Nat) : inS (l ++ [t]) id = (inS l id || decide (t.1 = id)) := by
  unfold inS
  rw [List.any_append]
  by_cases e : t.1 = id <;> simp [e]
theorem wo_length (l : List Tm) (id : Nat) : (wo l id).length ≤ l.length := List.length_filter_le _ _
theorem inS_len {S : List Tm} (hd : Dist S) (id : Nat) (h : inS S id = true) : (wo S id).length + 1 = S.length := by
  obtain ⟨t, ht, rfl⟩ := inS_iff.1 h
  exact wo_len hd ht

set_option maxHeartbeats 4000000 in
theorem without_any (w : World) {B n : Nat} {ao : Option Addr} {cap : Nat} {S : List Tm} (id : Nat) (hid : id < 18446744073709551616) (hB : B ≤ w.heap.size) (hown : w.ownsRow B 68 2 (.slice ao n cap) n (fl c2 S)) (hl : S.length = n) (hn : n ≤ 256) (hok : ∀ t ∈ S, t.1 < 18446744073709551616 ∧ t.2.1 ≤ 1099511627776) :
    Calls Try.prog 33 #[.slice ao n cap, .int .u64 (id : Int)] w fun e w' => ∃ v, e = .returned (.tuple #[v, .bool (inS S id)]) ∧ w'.ownsRow w.heap.size 68 2 v (wo S id).length (fl c2 (wo S id)) ∧ Below w.heap.size w w' := by
  obtain ⟨i0, hi0, hz0, hz1, hz2⟩ := info_parts rtimer_info
  have HI0 := Lib.hid hi0; have HZ0 := Lib.hid hz0; have HZ1 := Lib.hid hz1; have HZ2 := Lib.hid hz2
  have HOWN := Lib.hid hown; have HL := Lib.hid hl; have HOK := Lib.hid hok
  clear hi0 hz0 hz1 hz2 hown hl hok
  go_enter Try.func33, Try.ntmps33
  go_wp2_with fail
  go_loopw [6, 7, 8] (fun v is i wr => ∃ k : Nat, k ≤ n ∧ i = .int .i64 (k : Int) ∧ is = .bool (inS (S.take k) id) ∧ wr.ownsRow w.heap.size 68 2 v (wo (S.take k) id).length (fl c2 (wo (S.take k) id)) ∧ Below w.heap.size w wr) (fun _ _ i _ => n - (intOf i).toNat)
  case atStart => exact ⟨0, by omega, rfl, rfl, World.ownsRow_nil _ _ _ _, Below.refl _ _⟩
  case round =>
    obtain ⟨k, hk, rfl, rfl, hrow, hb⟩ := hrel
    by_cases hlt : k < n
    · have hkl : k < S.length := by rw [HL.out]; exact hlt
      have HT := Lib.hid (take_succ_tm hkl)
      obtain ⟨g, rfl, hg, _, x0, x1⟩ := owns_at2 (owns_keep HOWN.out (Keep.of_below hb []) (by simp)) HL.out k hlt
      obtain ⟨f1, f2⟩ := HOK.out _ (tm_mem hkl)
      obtain ⟨x, hx⟩ : ∃ x, tm S k = x := ⟨_, rfl⟩
      rw [hx] at x0 x1 f1 f2 HT
      clear hkl hx
      have HROW := Lib.hid hrow; have HBB := Lib.hid hb
      clear hrow hb
      have HW := Lib.hid (fun e => wo_snoc (S.take k) x e)
      have HI := Lib.hid (fun e => inS_snoc (S.take k) x e)
      have hwl := Nat.le_trans (wo_length (S.take k) id) (show (S.take k).length ≤ k by simp; omega)
      generalize S.take k = T at *
      by_cases e : x.1 = id
      · have E := Lib.hid e
        have hbe : ((x.1 : Int) == (id : Int)) = true := by simp [e]
        rw [e] at x0
        have HE2 := Lib.hid hbe; clear hbe
        clear e
        go_wp2_with fail
        go_roundw
        case rel => exact ⟨k + 1, by omega, by go_num, by rw [HT.out, HI.out, E.out]; simp, by rw [HT.out, HW.out, if_pos E.out]; exact HROW.out, HBB.out⟩
        case measure => simp [intOf]; omega
      · have E := Lib.hid e
        have hbe : ((x.1 : Int) == (id : Int)) = false := by rw [beq_eq_false_iff_ne]; omega
        clear e
        have hbs := HBB.out.size
        go_wp2_with (at_builtin; refine wpList_append_own _ rfl (.tmp 22) (.tmp 27) 39 rfl w.heap.size 68 i0 (.agg #[.int .u64 0, .int .i64 0]) 2 16 Try.underlying39 HI0.out HZ0.out HZ1.out HZ2.out rfl (by omega) _ (wo T id).length (fl c2 (wo T id)) rfl (HROW.out.alloc _) ⟨wr.heap.size, 0, none⟩ 1 1 (c2 x) rfl rfl (World.news_of_block (cs := #[.int .u64 (x.1 : Int), .int .i64 (x.2.1 : Int)]) (t := 68) (fr := (0, 0)) (heap_alloc_new wr _)) (by simp [Value.oneCell', c2]) (by unfold maxLen; omega) (by omega) (by simp; omega) ?_; intro v4 w4 hown4 hgrow4 _)
        have b4 : Below w.heap.size w w4 := (HBB.out.alloc hbs _).grown hgrow4 (by simp; omega) (fun g hg => (HROW.out.lt g hg).1)
        clear hgrow4
        have HB4 := Lib.hid b4; have HO4 := Lib.hid hown4
        clear b4 hown4
        go_wp2_with fail
        go_roundw
        case rel => exact ⟨k + 1, by omega, by go_num, by rw [HT.out, HI.out]; simp [E.out], by rw [HT.out, HW.out, if_neg E.out, fl_app, fl_one, List.length_append]; exact HO4.out, HB4.out⟩
        case measure => simp [intOf]; omega
    · obtain rfl : k = n := by omega
      have ht : S.take k = S := List.take_of_length_le (by rw [HL.out]; exact Nat.le_refl _)
      rw [ht] at hrow
      rw [ht]
      have HROW := Lib.hid hrow; have HBB := Lib.hid hb
      clear hrow hb ht
      go_wp2_with fail
      go_ret2
      exact ⟨_, rfl, HROW.out, HBB.out⟩

section
variable {w w' : World} {B hb : Nat} {ao : Option Addr} {cap rate milli : Nat} {S : List Tm} {Bs : List Nat}
/-- another row of timers is laid into the clock -/
theorem RefW.relist {w1 w2 : World} {ao' : Option Addr} {cap' : Nat} {S' : List Tm} (h : RefW w B hb ao cap rate milli S) (b : Below w.heap.size w w1) (hown : w1.ownsRow w.heap.size 68 2 (.slice ao' S'.length cap') S'.length (fl c2 S'))
    (hd : Dist S') (hok : ∀ t ∈ S', t.1 < 18446744073709551616 ∧ t.2.1 ≤ 1099511627776) (hf : S'.length ≤ 256) (h2 : w2 = w1.setCell ⟨hb, 2, none⟩ (.slice ao' S'.length cap')) :
    RefW w2 B hb ao' cap' rate milli S' ∧ Turned (hb :: blk ao) (hb :: blk ao') w w2 := by
  have k2 : Keep [hb] w1 w2 := by subst h2; exact Keep.setCell w1 ⟨hb, 2, none⟩ _
  have h1 := h.keep (Keep.of_below b []) (by simp)
  have hbl : hb ∉ blk ao' := fun hm => by have := (owns_blk hown hb hm).1; have := h.hlt; omega
  have k0 := h1.k0; have k1 := h1.k1; have kk2 := h1.k2
  have hB := h.base; have hlt := h.hlt
  have e0 : w2.cell? ⟨hb, 0, none⟩ = some (.int .i64 (rate : Int)) := by subst h2; go_simp
  have e1 : w2.cell? ⟨hb, 1, none⟩ = some (.int .i64 (milli : Int)) := by subst h2; go_simp
  have e2 : w2.cell? ⟨hb, 2, none⟩ = some (.slice ao' S'.length cap') := by subst h2; go_simp
  refine ⟨⟨e0, e1, e2, fun q => by subst h2; exact (World.frozen?_setCell _ _ _ _).trans (h1.fr q), Nat.lt_of_lt_of_le h1.hlt k2.size, h.base, owns_base (owns_keep hown k2 (blk_own _ _ _ (fun q hq hm => hbl (by simp at hm; exact hm ▸ hq)))) (by omega), hbl, hd, hok, hf, h.rt, h.ml⟩, ?_, fun q hq => ?_⟩
  · exact (Keep.of_below b _).trans (k2.mono (by simp))
  · rcases List.mem_cons.1 hq with rfl | hq
    · exact .inl (by simp)
    · exact .inr (owns_blk hown q hq).1

set_option maxHeartbeats 2000000 in
theorem rstop_any (w : World) (id : Nat) (hid : id < 18446744073709551616) (h : Rf w B hb Bs rate milli S) :
    Calls Try.prog 27 #[.pointer (some ⟨hb, 0, none⟩), .int .u64 (id : Int)] w fun e w' => e = .returned (.bool (inS S id)) ∧ ∃ Bs', Rf w' B hb Bs' rate milli (wo S id) ∧ Turned Bs Bs' w w' := by
  obtain ⟨ao, cap, rfl, h⟩ := h
  have k2 := h.k2; have f2 := h.fr 2
  have hlt := h.hlt
  have C := Lib.hid (without_any w id hid (by have := h.base; omega) h.own rfl h.few h.ok)
  have HW := Lib.hid h
  clear h
  go_enter Try.func27, Try.ntmps27
  go_wp2_with fail
  refine C.out.mono ?_; rintro e w1 ⟨v, rfl, hown, b1⟩
  obtain ⟨ao', cap', rfl, hle, hmx⟩ := owns_shape hown
  have hl1 : hb < w1.heap.size := Nat.lt_of_lt_of_le hlt b1.size
  have k2' := (b1.cell (p := ⟨hb, 2, none⟩) hlt).trans k2
  have f2' := (World.frozen?_of_block (w := w) (a := ⟨hb, 2, none⟩) (b1.block hb hlt)).trans f2
  have hlen := wo_length S id
  have HR := Lib.hid (HW.out.relist b1 hown (dist_wo HW.out.dist id) (fun t ht => HW.out.ok t (wo_mem.1 ht).1) (by have := HW.out.few; omega) rfl)
  clear hown b1 k2 f2 hlen
  go_wp2_with fail
  go_ret
  exact ⟨rfl, _, ⟨ao', cap', rfl, HR.out.1⟩, HR.out.2⟩

set_option maxHeartbeats 1000000 in
theorem rset_time (w : World) (id : Nat) (due : Int) (ht : timeB due = false) (ptr : Addr) :
    Calls Try.prog 26 #[.pointer (some ptr), .int .u64 (id : Int), .int .i64 due] w fun e w' => e = .returned (.int .i64 1) ∧ w = w' := by
  have h' : due < 0 ∨ 1099511627776 < due := by
    unfold timeB at ht
    simp at ht
    omega
  clear ht
  go_enter Try.func26, Try.ntmps26
  go_wp2_with fail
  all_goals first
    | (go_ret; exact ⟨rfl, rfl⟩)
    | (exfalso; omega)

set_option maxHeartbeats 2000000 in
theorem rset_full (w : World) (id : Nat) (hid : id < 18446744073709551616) (due : Nat) (ht : due ≤ 1099511627776) (h : Rf w B hb Bs rate milli S) (hf : inS S id = false) (hl : S.length = 256) :
    Calls Try.prog 26 #[.pointer (some ⟨hb, 0, none⟩), .int .u64 (id : Int), .int .i64 (due : Int)] w fun e w' => e = .returned (.int .i64 62) ∧ Below w.heap.size w w' := by
  obtain ⟨ao, cap, rfl, h⟩ := h
  have k2 := h.k2
  have hlt := h.hlt
  have hwo : wo S id = S := wo_none (inS_not.1 hf)
  have C := Lib.hid (without_any w id hid (by have := h.base; omega) h.own rfl h.few h.ok)
  rw [hf, hwo, hl] at C
  rw [hl] at k2
  clear h hf hwo hl
  go_enter Try.func26, Try.ntmps26
  go_wp2_with fail
  refine C.out.mono ?_; rintro e w1 ⟨v, rfl, hown, b1⟩
  obtain ⟨ao', cap', rfl, hle, hmx⟩ := owns_shape hown
  have HB := Lib.hid b1
  clear hown b1
  go_wp2_with fail
  go_ret
  exact ⟨rfl, HB.out⟩

set_option maxHeartbeats 4000000 in
theorem rset_yes (w : World) (id due ser : Nat) (hid : id < 18446744073709551616) (hdue : due ≤ 1099511627776) (h : Rf w B hb Bs rate milli S) (hser : ∀ x ∈ S, x.2.2 < ser) (hf : inS S id = true ∨ S.length < 256) :
    Calls Try.prog 26 #[.pointer (some ⟨hb, 0, none⟩), .int .u64 (id : Int), .int .i64 (due : Int)] w fun e w' => e = .returned (.int .i64 0) ∧ ∃ Bs', Rf w' B hb Bs' rate milli (wo S id ++ [(id, due, ser)]) ∧ Turned Bs Bs' w w' := by
  obtain ⟨ao, cap, rfl, h⟩ := h
  have k2 := h.k2; have f2 := h.fr 2
  have hlt := h.hlt
  have hwl : (wo S id).length < 256 := by
    rcases hf with e | e
    · have := inS_len h.dist id e; have := h.few; omega
    · have := wo_length S id; omega
  have C := Lib.hid (without_any w id hid (by have := h.base; omega) h.own rfl h.few h.ok)
  have HW := Lib.hid h; have HSER := Lib.hid hser
  obtain ⟨i0, hi0, hz0, hz1, hz2⟩ := info_parts rtimer_info
  have HI0 := Lib.hid hi0; have HZ0 := Lib.hid hz0; have HZ1 := Lib.hid hz1; have HZ2 := Lib.hid hz2
  have hd2 : Dist (wo S id ++ [(id, due, ser)]) := dist_put h.dist (id, due, ser) hser
  have hok2 : ∀ t ∈ wo S id ++ [(id, due, ser)], t.1 < 18446744073709551616 ∧ t.2.1 ≤ 1099511627776 := fun t ht => by
    rcases List.mem_append.1 ht with h1 | h1
    · exact h.ok t (wo_mem.1 h1).1
    · simp at h1; rw [h1]; exact ⟨hid, hdue⟩
  have HD2 := Lib.hid hd2; have HOK2 := Lib.hid hok2
  clear hi0 hz0 hz1 hz2 h hser hd2 hok2 hf
  obtain ⟨bI, hbI⟩ : ∃ b, inS S id = b := ⟨_, rfl⟩
  rw [hbI] at C
  clear hbI
  obtain ⟨T, hT⟩ : ∃ T, wo S id = T := ⟨_, rfl⟩
  rw [hT] at C hwl HD2 HOK2
  rw [hT]
  clear hT
  go_enter Try.func26, Try.ntmps26
  go_wp2_with fail
  refine C.out.mono ?_; rintro e w1 ⟨v, rfl, hown, b1⟩
  obtain ⟨ao', cap', rfl, hle, hmx⟩ := owns_shape hown
  have hl1 : hb < w1.heap.size := Nat.lt_of_lt_of_le hlt b1.size
  have k2' := (b1.cell (p := ⟨hb, 2, none⟩) hlt).trans k2
  have f2' := (World.frozen?_of_block (w := w) (a := ⟨hb, 2, none⟩) (b1.block hb hlt)).trans f2
  have hbs := b1.size
  have hbl := Lib.hid (fun g hg => (owns_blk hown g hg).1)
  have HOWN := Lib.hid hown; have HB1 := Lib.hid b1
  have hL256 : ((T.length : Int) == 256) = false := by rw [beq_eq_false_iff_ne]; omega
  clear hown b1 k2 f2
  obtain ⟨L, hL⟩ : ∃ L, T.length = L := ⟨_, rfl⟩
  have HLE := Lib.hid hL
  rw [hL] at HOWN hwl hL256 hle
  simp only [hL]
  clear hL
  have FIN : ∀ (w4 : World) (g cap4 : Nat), w4.ownsRow w.heap.size 68 2 (.slice (some ⟨g, 0, none⟩) (L + 1) cap4) (L + 1) (fl c2 T ++ [.int .u64 (id : Int), .int .i64 (due : Int)]) → Below w.heap.size w w4 →
      ∃ Bs', Rf (w4.setCell ⟨hb, 2, none⟩ (.slice (some ⟨g, 0, none⟩) (L + 1) cap4)) B hb Bs' rate milli (T ++ [(id, due, ser)]) ∧ Turned (hb :: blk ao) Bs' w (w4.setCell ⟨hb, 2, none⟩ (.slice (some ⟨g, 0, none⟩) (L + 1) cap4)) := by
    intro w4 g cap4 ho hb4
    have hlen : (T ++ [(id, due, ser)]).length = L + 1 := by rw [List.length_append, HLE.out]; rfl
    have := HW.out.relist (S' := T ++ [(id, due, ser)]) (ao' := some ⟨g, 0, none⟩) (cap' := cap4) hb4 (by rw [hlen, fl_app, fl_one]; exact ho) HD2.out HOK2.out (by omega) rfl
    rw [hlen] at this
    exact ⟨_, ⟨_, _, rfl, this.1⟩, this.2⟩
  have HFIN := Lib.hid FIN; clear FIN
  cases bI
  all_goals
    go_wp2_with (at_builtin; refine wpList_append_lies _ rfl (.tmp 32) (.tmp 36) 39 rfl w.heap.size 68 i0 (.agg #[.int .u64 0, .int .i64 0]) 2 16 Try.underlying39 HI0.out HZ0.out HZ1.out HZ2.out rfl (by omega) (.slice ao' L cap') L (fl c2 T) rfl (HOWN.out.alloc _) ⟨w1.heap.size, 0, none⟩ 1 1 [.int .u64 (id : Int), .int .i64 (due : Int)] rfl rfl (World.news_of_block (cs := #[.int .u64 (id : Int), .int .i64 (due : Int)]) (t := 68) (fr := (0, 0)) (heap_alloc_new w1 _)) (by simp [Value.oneCell']) (by omega) (by unfold maxLen; omega) (by omega) (by simp; omega) (w1.heap.size + 1) (by simp) ?_; intro gg cap4 w4 hown4 hgrow4 hat4 hlt4; have b4 : Below w.heap.size w w4 := (HB1.out.alloc hbs _).grown hgrow4 (by simp; omega) (fun g hg => (HOWN.out.lt g hg).1); have hl4 : hb < w4.heap.size := Nat.lt_of_lt_of_le hlt b4.size; have k4 := (b4.cell (p := ⟨hb, 2, none⟩) hlt).trans HW.out.k2; have f4 := (World.frozen?_of_block (w := w) (a := ⟨hb, 2, none⟩) (b4.block hb hlt)).trans (HW.out.fr 2))
    have FF := Lib.hid (HFIN.out w4 gg cap4 hown4 b4)
    clear b4 hown4 hgrow4 hat4 k2' f2'
    go_ret
    exact ⟨rfl, FF.out⟩
end
end Go.Proofs.Ytkhfbnlmjnbhmaa
