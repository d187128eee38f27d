/- The reader of package frame: Next, Feed, Waiting, New. -/
import Derived.Test.YtbbafjgbcmlacaaDoorFault
namespace Go.Proofs.YtbbafjgbcmlacaaDoor
open Go.RowKit Go.Sort
set_option linter.unusedVariables false

/-- where the frame ends, if its length is right; is it whole and right; its body; what is left -/
def ends (l : List Nat) : Nat := 10 + num (l.drop 2)
def got (l : List Nat) : Bool := decide (flt l = 0 ∧ nst l = 4)
def body (l : List Nat) : List Nat := if got l then (l.take (ends l)).drop 10 else []
def rest (l : List Nat) : List Nat := if got l then l.drop (ends l) else l
theorem got_len {l : List Nat} (h : nst l = 4) : 6 ≤ l.length ∧ ends l ≤ l.length := by
  unfold nst at h
  unfold ends
  split at h
  · omega
  split at h
  · omega
  split at h
  · omega
  split at h
  · omega
  · omega

theorem Held.put {w : World} {B R n cap n' cap' : Nat} {ao ao' : Option Addr} {l l' : List Nat} (h : Held w B R ao n cap l) (ho : Own w B ao' n' cap' l') (ha : R ∉ blk ao') : Held (w.setCell ⟨R, 0, none⟩ (.slice ao' n' cap')) B R ao' n' cap' l' := by
  refine ⟨World.cell?_setCell_same w _ _ h.cell, ?_, by simpa [World.setCell] using h.lt, h.base, ho.keep (Keep.setCell w ⟨R, 0, none⟩ _) (fun g hg hm => ha (by simp at hm; exact hm ▸ hg)), ha⟩
  rw [World.frozen?_setCell]; exact h.free

/-- what Next comes to -/
def Nexted (B R : Nat) (ao : Option Addr) (w : World) (l : List Nat) (e : Ending) (w' : World) : Prop :=
  ∃ ab cb ao' cap', e = .returned (.tuple #[.slice ab (body l).length cb, .bool (got l), .int .i64 (flt l : Nat)]) ∧ Own w' w.heap.size ab (body l).length cb (body l) ∧ Held w' B R ao' (rest l).length cap' (rest l) ∧ Keep [R] w w' ∧ (∀ g ∈ blk ao', g ∈ blk ao ∨ w.heap.size ≤ g) ∧ (∀ g ∈ blk ab, g ∉ blk ao')
theorem Nexted.no {B R n cap : Nat} {ao : Option Addr} {w w' : World} {l : List Nat} (hg : got l = false) (hh : Held w B R ao n cap l) (b : Below w.heap.size w w') : Nexted B R ao w l (.returned (.tuple #[.slice none 0 0, .bool false, .int .i64 (flt l : Nat)])) w' := by
  have hb : body l = [] := by unfold body; rw [if_neg (by rw [hg]; simp)]
  have hr : rest l = l := by unfold rest; rw [if_neg (by rw [hg]; simp)]
  unfold Nexted
  rw [hb, hr, hg]
  have hlen := hh.own.len
  refine ⟨none, 0, ao, cap, rfl, Own.nil _ _, ?_, Keep.of_below b _, fun g hg => .inl hg, by simp [blk]⟩
  rw [hlen]
  exact hh.below b

set_option maxHeartbeats 4000000 in
theorem next_any (B R : Nat) (ao : Option Addr) (n cap : Nat) (l : List Nat) (hn : n ≤ 131072) (w : World) (ht : Tab w) (hh : Held w B R ao n cap l) :
    Calls Tryd.prog 21 #[.pointer (some ⟨R, 0, none⟩)] w (Nexted B R ao w l) := by
  have F1 := Lib.hid (fault_any B R ao n cap l hn w ht hh)
  by_cases hf : flt l = 0
  · have S1 := fun w1 (b : Below w.heap.size w w1) => state_any B R ao n cap l hn w1 (hh.below b)
    by_cases hs : nst l = 4
    · have hlen := hh.own.len
      have hle := hh.own.le
      obtain ⟨h6, hE⟩ := got_len hs
      have E1 := Lib.hid (fun w1 (b : Below w.heap.size w w1) => end_any B R ao n cap l (by omega) w1 (hh.below b))
      have hg : got l = true := by unfold got; exact decide_eq_true ⟨hf, hs⟩
      have HB := Lib.hid (show body l = (l.take (ends l)).drop 10 by unfold body; rw [if_pos hg])
      have HRS := Lib.hid (show rest l = l.drop (ends l) by unfold rest; rw [if_pos hg])
      have HG := Lib.hid hg
      rw [hf] at F1
      rw [hs] at S1
      have S2 := Lib.hid S1
      obtain ⟨N, hN⟩ : ∃ N, N = num (l.drop 2) := ⟨_, rfl⟩
      have hEN : ends l = 10 + N := by rw [hN]; rfl
      rw [← hN] at E1
      rw [hEN] at hE HB HRS
      rw [hlen] at hE
      have HH := Lib.hid hh; have HLEN := Lib.hid hlen; have HF := Lib.hid hf
      have HCUT := Lib.hid (fun w1 => run_cut3 w1 ao n cap 10 (10 + N) (by omega) (by omega))
      have HCUT2 := Lib.hid (fun w1 => run_cut2 w1 ao n cap (10 + N) (by omega))
      rw [Nat.add_sub_cancel_left] at HCUT
      rw [show (((10 + N : Nat)) : Int) = 10 + (N : Int) by omega] at HCUT HCUT2
      clear hN hEN S1 hf hs hg hh hlen h6 ht
      have hN : N ≤ 131072 := by omega
      go_enter Tryd.func21, Tryd.ntmps21
      go_wp2_with fail
      refine F1.out.mono ?_
      rintro e w1 ⟨rfl, b1⟩
      go_wp2_with fail
      refine (S2.out w1 b1).mono ?_
      rintro e w2 ⟨rfl, rfl⟩
      go_wp2_with fail
      refine (E1.out w1 b1).mono ?_
      rintro e w2 ⟨rfl, rfl⟩
      have hh1 := HH.out.below b1
      have hc := hh1.cell
      have hcut := HCUT.out w1
      have HH1 := Lib.hid hh1; clear hh1
      go_wp2_with (refine wpList_value rfl _ (exec_slice 22 (.tmp 23) (some (.const (.int .i64 10))) (some (.tmp 24)) rfl rfl rfl rfl hcut) ?_)
      refine (clone_any _ N (cap - 10) ((l.drop 10).take N) (by simp [HLEN.out]; omega) (by omega) w1 (HH1.out.own.rd.sh2 cap 10 N (by rw [HLEN.out]; exact hle))).mono ?_
      rintro e w2 ⟨ab, cb, rfl, ob, b2⟩
      have hh2 := HH1.out.below b2
      have hc2 := hh2.cell
      have hf2 := hh2.free
      have hcut2 := HCUT2.out w2
      have HH2 := Lib.hid hh2; clear hh2 hc hcut
      go_wp2_with (refine wpList_value rfl _ (exec_slice 22 (.tmp 31) (some (.tmp 32)) none rfl rfl rfl rfl hcut2) ?_)
      go_ret3
      have e1 : (l.take (10 + N)).drop 10 = (l.drop 10).take N := by rw [List.drop_take, Nat.add_sub_cancel_left]
      have e2 : ((l.drop 10).take N).length = N := by simp [HLEN.out]; omega
      have e3 : (l.drop (10 + N)).length = n - (10 + N) := by rw [List.length_drop, HLEN.out]
      have B2 := below_next b1 b2
      unfold Nexted
      rw [HB.out, HRS.out, HG.out, HF.out, e1, e2, e3]
      have oo := HH2.out.own.sh (10 + N) hE
      have ha : R ∉ blk (sh ao cap (10 + N)) := fun hm => HH2.out.apart (blk_sh _ _ _ _ hm)
      have k3 := Keep.setCell w2 ⟨R, 0, none⟩ (.slice (sh ao cap (10 + N)) (n - (10 + N)) (cap - (10 + N)))
      refine ⟨ab, cb, sh ao cap (10 + N), cap - (10 + N), rfl, ?_, HH2.out.put oo ha, (Keep.of_below B2 _).trans k3, fun g hg => .inl (blk_sh _ _ _ _ hg), fun g hg hm => by have h1 := (ob.lt_size g hg).1; have h2 := (HH1.out.own.lt_size g (blk_sh _ _ _ _ hm)).2; omega⟩
      exact (ob.base b1.size).keep k3 (fun g hg hm => by
        have h1 := (ob.lt_size g hg).1
        have h2 := HH1.out.lt
        simp at hm
        omega)
    · have hg : got l = false := by unfold got; exact decide_eq_false fun h => hs h.2
      have hs' : ((nst l : Int) == 4) = false := by simp; omega
      have S2 := Lib.hid S1
      have HF := Lib.hid hf
      rw [hf] at F1
      have HH := Lib.hid hh; have HG := Lib.hid hg
      clear S1 hh ht hg hf
      generalize nst l = st at *
      go_enter Tryd.func21, Tryd.ntmps21
      go_wp2_with fail
      refine F1.out.mono ?_
      rintro e w1 ⟨rfl, b1⟩
      go_wp2_with fail
      refine (S2.out w1 b1).mono ?_
      rintro e w2 ⟨rfl, rfl⟩
      go_wp2_with fail
      go_ret3
      have h := Nexted.no HG.out HH.out b1
      rw [HF.out] at h
      exact h
  · have hg : got l = false := by unfold got; exact decide_eq_false fun h => hf h.1
    have HNO := Lib.hid (fun w1 (b : Below w.heap.size w w1) => Nexted.no hg hh b)
    have hf' : ((flt l : Int) == 0) = false := by simp; omega
    clear hh ht hg
    obtain ⟨ft, hft⟩ : ∃ ft, ft = flt l := ⟨_, rfl⟩
    rw [← hft] at F1 hf hf' HNO
    have HFT := Lib.hid hft; clear hft
    go_enter Tryd.func21, Tryd.ntmps21
    go_wp2_with fail
    refine F1.out.mono ?_
    rintro e w1 ⟨rfl, b1⟩
    go_wp2_with fail
    go_ret3
    exact HNO.out w1 b1
end Go.Proofs.YtbbafjgbcmlacaaDoor
