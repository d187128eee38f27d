/- What a node may have told: mayBeFingers; Clone, Fingers; Walk. -/
import Derived.Test.YtokmchkoojeadaaNw
import Derived.Deep.AppendLies
namespace Go.Proofs.Ytokmchkoojeadaa
open Go.RowKit Go.Sort
set_option linter.unusedVariables false
set_option linter.unusedSimpArgs false
set_option maxRecDepth 100000
/-- a slice reads as peers, at whatever offset -/
def PsRd (w : World) (xo : Option Addr) (L : List Pe) : Prop := ∀ j p, L[j]? = some p → ∃ g o, xo = some ⟨g, o, none⟩ ∧ g < w.heap.size ∧ ∀ q, q < 3 → w.cell? ⟨g, o + j * 3 + q, none⟩ = p.list[q]?
theorem PsRd.keep {w w' : World} {xo : Option Addr} {L : List Pe} {U : List Nat} (h : PsRd w xo L) (k : Keep U w w') (hn : L ≠ [] → ∀ g ∈ blk xo, g ∉ U) : PsRd w' xo L := fun j p hp => by
  obtain ⟨g, o, rfl, hg, hc⟩ := h j p hp
  have hne : L ≠ [] := by rintro rfl; cases hp
  exact ⟨g, o, rfl, Nat.lt_of_lt_of_le hg k.size, fun q hq => (k.cell (a := ⟨g, o + j * 3 + q, none⟩) hg (hn hne g (by simp [blk]))).trans (hc q hq)⟩
theorem PsRd.below {w w' : World} {xo : Option Addr} {L : List Pe} (h : PsRd w xo L) (b : Below w.heap.size w w') : PsRd w' xo L := h.keep (Keep.of_below b []) (by simp)
theorem PsRd.nil (w : World) (xo : Option Addr) : PsRd w xo [] := fun j p h => by cases h
set_option maxHeartbeats 400000 in
theorem notnode_any (x : Pe) : Ret 43 #[x.v] (.returned (.bool (!isN x.n))) := by
  intro w
  have I := Lib.hid (isnode_any x.n)
  obtain ⟨pn, ph, pl⟩ := x
  go_enter Try.func43, Try.ntmps43
  go_wp2_with fail
  refine (I.out _).mono ?_; rintro e w2 ⟨rfl, rfl⟩
  go_wp2_with fail
  go_ret
  exact ⟨by simp, below_alloc (Below.refl _ _) _⟩
/-- where the first one stands that may not be -/
def badAt (L : List Pe) : Int := match L.findIdx? (fun p => !isN p.n) with | some k => (k : Int) | none => -1
set_option maxHeartbeats 4000000 in
theorem index_any {xo : Option Addr} {n cap : Nat} {L : List Pe} (w : World) (h : PsRd w xo L) (hn : L.length = n) (hle : n ≤ 140737488355328) :
    Calls Try.prog 45 #[.slice xo n cap, .func (.func 43) #[] #[]] w fun e w' => e = .returned (.int .i64 (badAt L)) ∧ Below w.heap.size w w' := by
  have H := Lib.hid h; have HN := Lib.hid hn
  have hni : (n : Int) ≤ 140737488355328 := by omega
  clear h hn
  go_enter Try.func45, Try.ntmps45
  go_wp2_with fail
  go_loopw [8] (fun v8 wr => ∃ k : Nat, v8 = .int .i64 (k : Int) ∧ k ≤ n ∧ (∀ j p, j < k → L[j]? = some p → isN p.n = true) ∧ Hid (Below w.heap.size w wr)) (fun v8 _ => n - (intOf v8).toNat)
  case atStart => exact ⟨0, rfl, Nat.zero_le _, fun j p hj => by omega, Lib.hid (Below.refl _ _)⟩
  case round =>
    obtain ⟨k, rfl, hk, hall, B⟩ := hrel
    have HALL := Lib.hid hall
    have hk0 : (0 : Int) ≤ (k : Int) := by omega
    clear hall
    by_cases hkn : k < n
    · obtain ⟨p, hp⟩ : ∃ p, L[k]? = some p := ⟨_, List.getElem?_eq_getElem (by rw [HN.out]; exact hkn)⟩
      obtain ⟨g, o, rfl, hg, hc⟩ := (H.out.below B.out) k p hp
      have a0 := hc 0 (by omega); have a1 := hc 1 (by omega); have a2 := hc 2 (by omega)
      simp only [List.getElem?_cons_succ, List.getElem?_cons_zero, Nat.add_zero] at a0 a1 a2
      have hki : (k : Int) < (n : Int) := by omega
      have C := Lib.hid (notnode_any p)
      obtain ⟨bv, hbv⟩ : ∃ y, isN p.n = y := ⟨_, rfl⟩
      rw [hbv] at C
      have HP := Lib.hid hp; have HBV := Lib.hid hbv
      clear hc hp hbv hg
      go_wp2_with fail
      refine (C.out _).mono ?_; rintro e w2 ⟨rfl, b2⟩
      have B2 := Lib.hid (below_next B.out b2)
      clear b2 a0 a1 a2
      cases bv with
      | false =>
        go_wp2_with fail
        go_ret
        have hf : L.findIdx? (fun p => !isN p.n) = some k := by
          rw [List.findIdx?_eq_some_iff_getElem]
          obtain ⟨hlt, hget⟩ := List.getElem?_eq_some_iff.1 HP.out
          refine ⟨hlt, by rw [hget, HBV.out]; rfl, fun j hj => ?_⟩
          rw [HALL.out j _ hj (List.getElem?_eq_getElem (by omega))]
          decide
        have hb : badAt L = (k : Int) := by unfold badAt; rw [hf]
        exact ⟨by rw [hb]; rfl, B2.out⟩
      | true =>
        go_wp2_with fail
        go_roundw
        case rel => exact ⟨k + 1, by go_num, by omega, fun j q hj hq => by
          rcases Nat.lt_or_ge j k with h | h
          · exact HALL.out j q h hq
          · obtain rfl : j = k := by omega
            have := HP.out; rw [hq] at this; cases this; exact HBV.out, B2⟩
        case measure => simp [intOf]; omega
    · obtain rfl : n = k := by omega
      go_wp2_with fail
      go_ret
      have hf : L.findIdx? (fun p => !isN p.n) = none := by
        rw [List.findIdx?_eq_none_iff]
        intro p hp
        obtain ⟨j, hj⟩ := List.getElem?_of_mem hp
        rw [HALL.out j p (by rw [← HN.out]; exact (List.getElem?_eq_some_iff.1 hj).1) hj]
        rfl
      have hb : badAt L = -1 := by unfold badAt; rw [hf]
      exact ⟨by rw [hb]; rfl, B.out⟩
/-- may a node have told these -/
def mayTell (L : List Pe) : Bool := decide (L.length ≤ 4) && L.all (fun p => isN p.n)
theorem badAt_all (L : List Pe) : decide (0 ≤ badAt L) = !(L.all fun p => isN p.n) := by
  unfold badAt
  cases h : L.findIdx? (fun p => !isN p.n) with
  | none =>
    rw [List.findIdx?_eq_none_iff] at h
    have : (L.all fun p => isN p.n) = true := by
      rw [List.all_eq_true]
      intro p hp
      have := h p hp
      cases e : isN p.n with
      | true => rfl
      | false => rw [e] at this; cases this
    rw [this]
    decide
  | some k =>
    rw [List.findIdx?_eq_some_iff_getElem] at h
    obtain ⟨hlt, hk, _⟩ := h
    have : (L.all fun p => isN p.n) = false := by
      rw [List.all_eq_false]
      exact ⟨_, List.getElem_mem hlt, fun e => by rw [e] at hk; cases hk⟩
    rw [this]
    simp
set_option maxHeartbeats 1000000 in
theorem contains_any {xo : Option Addr} {n cap : Nat} {L : List Pe} (w : World) (h : PsRd w xo L) (hn : L.length = n) (hle : n ≤ 140737488355328) :
    Calls Try.prog 42 #[.slice xo n cap, .func (.func 43) #[] #[]] w fun e w' => e = .returned (.bool (!(L.all fun p => isN p.n))) ∧ Below w.heap.size w w' := by
  have C := Lib.hid (index_any (cap := cap) w h hn hle)
  rw [← badAt_all]
  generalize badAt L = z at *
  clear h
  go_enter Try.func42, Try.ntmps42
  go_wp2_with fail
  refine C.out.mono ?_; rintro e w2 ⟨rfl, b2⟩
  go_wp2_with fail
  go_ret
  exact ⟨by simp, b2⟩
set_option maxHeartbeats 1000000 in
theorem maytell_any {xo : Option Addr} {n cap : Nat} {L : List Pe} (w : World) (h : PsRd w xo L) (hn : L.length = n) (hle : n ≤ 140737488355328) :
    Calls Try.prog 35 #[.slice xo n cap] w fun e w' => e = .returned (.bool (mayTell L)) ∧ Below w.heap.size w w' := by
  have C := Lib.hid (contains_any (cap := cap) w h hn hle)
  unfold mayTell
  rw [hn]
  generalize (L.all fun p => isN p.n) = al at *
  clear h hn
  by_cases h4 : n ≤ 4
  · have e4 : decide ((n : Int) ≤ 4) = true := by simp; omega
    rw [decide_eq_true h4, Bool.true_and]
    go_enter Try.func35, Try.ntmps35
    go_wp2_with fail
    refine C.out.mono ?_; rintro e w2 ⟨rfl, b2⟩
    go_wp2_with fail
    go_ret
    exact ⟨by simp, b2⟩
  · have e4 : decide ((n : Int) ≤ 4) = false := by simp; omega
    rw [decide_eq_false h4, Bool.false_and]
    clear C
    go_enter Try.func35, Try.ntmps35
    go_wp2_with fail
    go_ret
    exact ⟨rfl, Below.refl _ _⟩
end Go.Proofs.Ytokmchkoojeadaa
