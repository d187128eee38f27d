/- Set, Stop. -/
import Derived.Test.YtkhfbnlmjnbhmaaMeth
namespace Go.Proofs.Ytkhfbnlmjnbhmaa
open Go.RowKit Go.Sort
set_option linter.unusedVariables false

section
variable {B hb rate milli sets : Nat} {S : List Tm} {Bs : List Nat}
theorem clk_has (w : World) (id : Nat) (hid : id < 18446744073709551616) (h : Clk w B hb Bs rate milli sets S) :
    Calls Try.prog 30 #[.pointer (some ⟨hb, 2, none⟩), .int .u64 (id : Int)] w fun e w' => e = .returned (.bool (inS S id)) ∧ w = w' := by
  obtain ⟨gm, ao, cap, l, f, rfl, h⟩ := h
  have := has_any w id hid h.hp
  rwa [h.hs.dom] at this

set_option maxHeartbeats 1000000 in
theorem set_time (w : World) (id : Nat) (due : Int) (ht : timeB due = false) (ptr : Addr) :
    Calls Try.prog 18 #[.pointer (some ptr), .int .u64 (id : Int), .int .i64 due] w fun e w' => e = .returned (.int .i64 1) ∧ w = w' := by
  have C1 := Lib.hid (istime_any due); rw [ht] at C1; clear ht
  go_enter Try.func18, Try.ntmps18
  go_wp2_with fail
  refine (C1.out _).mono ?_; rintro e w1 ⟨rfl, rfl⟩
  go_wp2_with fail
  go_ret
  exact ⟨rfl, rfl⟩

set_option maxHeartbeats 1000000 in
theorem set_full (w : World) (id : Nat) (hid : id < 18446744073709551616) (due : Int) (ht : timeB due = true) (h : Clk w B hb Bs rate milli sets S) (hf : inS S id = false) (hl : S.length = 256) :
    Calls Try.prog 18 #[.pointer (some ⟨hb, 0, none⟩), .int .u64 (id : Int), .int .i64 due] w fun e w' => e = .returned (.int .i64 62) ∧ w = w' := by
  have C1 := Lib.hid (istime_any due); rw [ht] at C1; clear ht
  have C2 := Lib.hid (clk_has w id hid h); rw [hf] at C2; clear hf
  have C3 := Lib.hid (count_any w h); rw [hl] at C3; clear hl
  clear h
  go_enter Try.func18, Try.ntmps18
  go_wp2_with fail
  refine (C1.out _).mono ?_; rintro e w1 ⟨rfl, rfl⟩
  go_wp2_with fail
  refine C2.out.mono ?_; rintro e w1 ⟨rfl, rfl⟩
  go_wp2_with fail
  refine C3.out.mono ?_; rintro e w1 ⟨rfl, rfl⟩
  go_wp2_with fail
  go_ret
  exact ⟨rfl, rfl⟩

set_option maxHeartbeats 4000000 in
theorem set_yes (w : World) (id due : Nat) (hid : id < 18446744073709551616) (hdue : due ≤ 1099511627776) (hs : sets + 1 < 18446744073709551616) (h : Clk w B hb Bs rate milli sets S) (hf : inS S id = true ∨ S.length < 256) :
    Calls Try.prog 18 #[.pointer (some ⟨hb, 0, none⟩), .int .u64 (id : Int), .int .i64 (due : Int)] w fun e w' => e = .returned (.int .i64 0) ∧ ∃ Bs', Clk w' B hb Bs' rate milli (sets + 1) (wo S id ++ [(id, due, sets + 1)]) ∧ Turned Bs Bs' w w' := by
  have C1 := Lib.hid (istime_any (due : Int)); rw [show timeB (due : Int) = true by unfold timeB; simp; omega] at C1
  have C2 := Lib.hid (clk_has w id hid h)
  have C3 := Lib.hid (count_any w h)
  obtain ⟨gm, ao, cap, l, f, rfl, h⟩ := h
  have k4 := h.k4; have f4 := h.f4
  have hlt := h.hp.hlt
  have hlen := h.hs.len
  have hfew := h.hp.few
  rw [hlen] at hfew
  obtain ⟨q1, q2⟩ := h.setsTo (sets + 1) (by omega) rfl
  have hcast : ((sets + 1 : Nat) : Int) = (sets : Int) + 1 := by simp
  rw [hcast] at q1 q2
  have q1d := q1.keep (Keep.of_below (Below.refl (w.setCell ⟨hb, 4, none⟩ (.int .u64 ((sets : Int) + 1))).heap.size _).drew []) (by simp)
  have q2d := q2.trans (Keep.of_below (Below.refl (w.setCell ⟨hb, 4, none⟩ (.int .u64 ((sets : Int) + 1))).heap.size _).drew [hb])
  have hser : ∀ x ∈ S, x.2.2 < sets + 1 := fun x hx => by have := h.sr x hx; omega
  have SETP := Lib.hid (set_any _ (id, due, sets + 1) ⟨hid, hdue, hs⟩ q1d.hp q1d.hs hser (by rw [hlen]; exact hf))
  have HQ := Lib.hid q1d; have HK := Lib.hid q2d; have HSER := Lib.hid hser
  have hk4 : (w.setCell ⟨hb, 4, none⟩ (.int .u64 ((sets : Int) + 1))).cell? ⟨hb, 4, none⟩ = some (.int .u64 ((sets : Int) + 1)) := q1.k4
  simp only at SETP
  clear h q1 q2 q1d q2d hser hlen
  have hgo : inS S id = true ∨ inS S id = false := by cases inS S id <;> simp
  have FIN : ∀ (e : Ending) (w3 : World), (e = Ending.returned (.tuple #[]) ∧ ∃ ao' cap' l' f', HpW w3 B hb gm l'.length ao' cap' l' f' ∧ HS l' f' (wo S id ++ [(id, due, sets + 1)]) ∧ Keep (hb :: gm :: blk ao) (w.setCell ⟨hb, 4, none⟩ (.int .u64 ((sets : Int) + 1))).drew w3 ∧
      (∀ g ∈ blk ao', g ∈ blk ao ∨ (w.setCell ⟨hb, 4, none⟩ (.int .u64 ((sets : Int) + 1))).drew.heap.size ≤ g) ∧ Side hb (w.setCell ⟨hb, 4, none⟩ (.int .u64 ((sets : Int) + 1))).drew w3) →
      ∃ Bs', Clk w3 B hb Bs' rate milli (sets + 1) (wo S id ++ [(id, due, sets + 1)]) ∧ Turned (hb :: gm :: blk ao) Bs' w w3 := by
    rintro e w3 ⟨_, ao', cap', l', f', h1, h2, h3, h4, h5⟩
    have hq := HQ.out
    refine ⟨hb :: gm :: blk ao', ⟨gm, ao', cap', l', f', rfl, h1, h2, (h5.cell 0 (by omega)).trans hq.k0, (h5.cell 1 (by omega)).trans hq.k1, ?_, (h5.frozen 0).trans hq.f0, (h5.frozen 1).trans hq.f1, (h5.frozen 4).trans hq.f4, hq.rt, hq.ml, fun x hx => ?_⟩, ?_, fun q hq' => ?_⟩
    · rw [h5.cell 4 (by omega), hcast]; exact hq.k4
    · rcases List.mem_append.1 hx with h | h
      · have := HSER.out x (wo_mem.1 h).1; omega
      · simp at h; rw [h]; exact Nat.le_refl _
    · exact (HK.out.mono (by simp)).trans h3
    · simp only [List.mem_cons] at hq' ⊢
      rcases hq' with h | h | h
      · exact .inl (.inl h)
      · exact .inl (.inr (.inl h))
      · rcases h4 q h with h | h
        · exact .inl (.inr (.inr h))
        · right
          have := HK.out.size
          omega
  have HFIN := Lib.hid FIN
  clear FIN hcast
  rcases hgo with hi | hi
  · rw [hi] at C2
    clear hi hf
    go_enter Try.func18, Try.ntmps18
    go_wp2_with fail
    refine (C1.out _).mono ?_; rintro e w1 ⟨rfl, rfl⟩
    go_wp2_with fail
    refine C2.out.mono ?_; rintro e w1 ⟨rfl, rfl⟩
    go_wp2_with fail
    go_region_with (go_at_call 31; refine SETP.out.mono ?_; intro e w3 hw3; obtain ⟨he, hrest⟩ := hw3; subst he; have FF := Lib.hid (HFIN.out _ _ ⟨rfl, hrest⟩); clear hrest)
    all_goals
      go_wp2_with fail
      go_ret
      exact ⟨rfl, FF.out⟩
  · rw [hi] at C2 hf
    have hl : S.length < 256 := by rcases hf with h | h; cases h; exact h
    clear hi hf
    generalize S.length = L at *
    have hL : ((L : Int) == 256) = false := by simp; omega
    go_enter Try.func18, Try.ntmps18
    go_wp2_with fail
    refine (C1.out _).mono ?_; rintro e w1 ⟨rfl, rfl⟩
    go_wp2_with fail
    refine C2.out.mono ?_; rintro e w1 ⟨rfl, rfl⟩
    go_wp2_with fail
    refine C3.out.mono ?_; rintro e w1 ⟨rfl, rfl⟩
    go_wp2_with fail
    go_region_with (go_at_call 31; refine SETP.out.mono ?_; intro e w3 hw3; obtain ⟨he, hrest⟩ := hw3; subst he; have FF := Lib.hid (HFIN.out _ _ ⟨rfl, hrest⟩); clear hrest)
    all_goals
      go_wp2_with fail
      go_ret
      exact ⟨rfl, FF.out⟩

set_option maxHeartbeats 2000000 in
theorem stop_any (w : World) (id : Nat) (hid : id < 18446744073709551616) (h : Clk w B hb Bs rate milli sets S) :
    Calls Try.prog 21 #[.pointer (some ⟨hb, 0, none⟩), .int .u64 (id : Int)] w fun e w' => e = .returned (.bool (inS S id)) ∧ Clk w' B hb Bs rate milli sets (wo S id) ∧ Turned Bs Bs w w' := by
  have C2 := Lib.hid (clk_has w id hid h)
  have HC := Lib.hid h
  obtain ⟨gm, ao, cap, l, f, rfl, h⟩ := h
  have hlt := h.hp.hlt
  cases hi : inS S id <;> rw [hi] at C2
  · have hwo : wo S id = S := wo_none (inS_not.1 hi)
    rw [hwo]
    clear hi hwo h
    go_enter Try.func21, Try.ntmps21
    go_wp2_with fail
    refine C2.out.mono ?_; rintro e w1 ⟨rfl, rfl⟩
    go_wp2_with fail
    go_ret
    exact ⟨rfl, HC.out, Turned.refl _ _⟩
  · have hsome : (f id).isSome = true := by rw [h.hs.dom]; exact hi
    obtain ⟨i, hfi⟩ := Option.isSome_iff_exists.1 hsome
    have C3 := Lib.hid (remove_any w id i hid h.hp h.hs hfi)
    have HW := Lib.hid h
    clear hi hsome hfi h
    go_enter Try.func21, Try.ntmps21
    go_wp2_with fail
    refine C2.out.mono ?_; rintro e w1 ⟨rfl, rfl⟩
    go_wp2_with fail
    refine C3.out.mono ?_; rintro e w1 ⟨rfl, l', f', h1, h2, h3, h5⟩
    have hq := HW.out
    have FF : Hid (Clk w1 B hb (hb :: gm :: blk ao) rate milli sets (wo S id)) := Lib.hid ⟨gm, ao, cap, l', f', rfl, h1, h2, (h5.cell 0 (by omega)).trans hq.k0, (h5.cell 1 (by omega)).trans hq.k1, (h5.cell 4 (by omega)).trans hq.k4, (h5.frozen 0).trans hq.f0, (h5.frozen 1).trans hq.f1, (h5.frozen 4).trans hq.f4, hq.rt, hq.ml, fun x hx => hq.sr x (wo_mem.1 hx).1⟩
    have HK := Lib.hid h3
    clear h1 h2 h3 h5 hq
    go_wp2_with fail
    go_ret
    exact ⟨rfl, FF.out, HK.out, fun q h => .inl h⟩
end
end Go.Proofs.Ytkhfbnlmjnbhmaa
