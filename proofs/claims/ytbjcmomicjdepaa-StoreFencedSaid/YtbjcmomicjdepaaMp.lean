/- What the closures tell; slices.IndexFunc and ContainsFunc of locks; isFenced, mayPrepare. -/
import Derived.Test.YtbjcmomicjdepaaRw
namespace Go.Proofs.Ytbjcmomicjdepaa
open Go.RowKit Go.Sort
set_option linter.unusedVariables false
set_option linter.unusedSimpArgs false
set_option linter.unusedSectionVars false
set_option maxRecDepth 100000
section
variable {s t : Sd} {l m : Lk}
set_option maxHeartbeats 1000000 in
theorem conflict_any (l m : Lk) (s t : Sd) : Ret 79 #[l.ag s, m.ag t] (.returned (.bool (l.it.write || m.it.write))) := by
  intro w
  obtain ⟨tx, m0, m1, m2, ⟨bk, ver, wt, es, i0, i1, i2, i3⟩⟩ := l
  obtain ⟨tx', m0', m1', m2', ⟨bk', ver', wt', es', i0', i1', i2', i3'⟩⟩ := m
  simp only [Lk.ag]
  cases wt
  all_goals
    go_enter Try.func79, Try.ntmps79
    go_wp2_with fail
    go_ret
    exact ⟨rfl, below_alloc (below_alloc (Below.refl _ _) _) _⟩
/-- what mayPrepare's closure tells of a lock that is held -/
def oddP (l : Lk) (x : Lk) : Bool := x.it.write || l.it.write
/-- what Decide's closure tells -/
def txP (l : Lk) (x : Lk) : Bool := decide (x.tx = l.tx)
set_option maxHeartbeats 1000000 in
theorem clo78_any (w : World) (bx : Nat) (h : LkB w bx l s) : Calls Try.prog 78 #[m.ag t, .pointer (some ⟨bx, 0, none⟩)] w fun e w' => e = .returned (.bool (oddP l m)) ∧ Below w.heap.size w w' := by
  have C := Lib.hid (conflict_any m l t s)
  obtain ⟨W, hW⟩ : ∃ W, W = w.alloc (.cells (m.cells t) 38) := ⟨_, rfl⟩
  have bW : Below w.heap.size w W := by rw [hW]; exact below_alloc (Below.refl _ _) _
  have k1 : LkB W w.heap.size m t := by rw [hW]; exact LkB.new w m t
  have R1 := Lib.hid k1.range
  have R2 := Lib.hid (h.below bW).range
  have BW := Lib.hid bW
  clear k1 h bW
  unfold oddP
  obtain ⟨tx, m0, m1, m2, ⟨bk, ver, wt, es, i0, i1, i2, i3⟩⟩ := l
  obtain ⟨tx', m0', m1', m2', ⟨bk', ver', wt', es', i0', i1', i2', i3'⟩⟩ := m
  simp only [Lk.ag, Lk.cells] at hW C ⊢
  go_enter Try.func78, Try.ntmps78
  go_upto_region 1 with (fail)
  rw [← hW]
  clear hW
  generalize hbi : w.heap.size = bi at R1 ⊢
  go_wp2_with (first
    | (refine wpList_load_mid rfl 38 (.tmp 2) rfl bi 0 rfl (Lk.list ⟨tx', m0', m1', m2', ⟨bk', ver', wt', es', i0', i1', i2', i3'⟩⟩ t) _ R1.out Try.underlying38 rfl (lk_size _ _) ?_)
    | (refine wpList_load_mid rfl 38 (.tmp 1) rfl bx 0 rfl (Lk.list ⟨tx, m0, m1, m2, ⟨bk, ver, wt, es, i0, i1, i2, i3⟩⟩ s) _ R2.out Try.underlying38 rfl (lk_size _ _) ?_))
  refine (C.out _).mono ?_; rintro e w2 ⟨rfl, b2⟩
  go_wp2_with fail
  go_ret
  exact ⟨rfl, below_next BW.out b2⟩
set_option maxHeartbeats 1000000 in
theorem clo42_any (w : World) (bx : Nat) (h : LkB w bx l s) : Calls Try.prog 42 #[m.ag t, .pointer (some ⟨bx, 0, none⟩)] w fun e w' => e = .returned (.bool (txP l m)) ∧ Below w.heap.size w w' := by
  have x0 := h.c 0 _ rfl
  have hlt := h.lt
  clear h
  unfold txP
  obtain ⟨tx, m0, m1, m2, ⟨bk, ver, wt, es, i0, i1, i2, i3⟩⟩ := l
  obtain ⟨tx', m0', m1', m2', ⟨bk', ver', wt', es', i0', i1', i2', i3'⟩⟩ := m
  simp only [Lk.ag] at x0 ⊢
  go_enter Try.func42, Try.ntmps42
  go_wp2_with fail
  go_ret
  exact ⟨ret_bool (by rw [Bool.eq_iff_iff]; simp), below_alloc (Below.refl _ _) _⟩
end
/-- where the first one stands of which it holds -/
def idxP (p : Lk → Bool) (L : List (Lk × Sd)) : Int := match L.findIdx? (fun x => p x.1) with | some k => (k : Int) | none => -1
theorem idx_none {p : Lk → Bool} {L : List (Lk × Sd)} {n : Nat} (hn : L.length = n) (h : ∀ j x, j < n → L[j]? = some x → p x.1 = false) : idxP p L = -1 := by
  have hf : L.findIdx? (fun x => p x.1) = none := by
    rw [List.findIdx?_eq_none_iff]
    intro x hx
    obtain ⟨j, hj⟩ := List.getElem?_of_mem hx
    rw [h j x (by rw [← hn]; exact (List.getElem?_eq_some_iff.1 hj).1) hj]
  unfold idxP; rw [hf]
theorem idx_at {p : Lk → Bool} {L : List (Lk × Sd)} {k : Nat} {x : Lk × Sd} (hk : L[k]? = some x) (hp : p x.1 = true) (h : ∀ j x, j < k → L[j]? = some x → p x.1 = false) : idxP p L = (k : Int) := by
  have hf : L.findIdx? (fun x => p x.1) = some k := by
    rw [List.findIdx?_eq_some_iff_getElem]
    obtain ⟨hl, hg⟩ := List.getElem?_eq_some_iff.1 hk
    refine ⟨hl, by rw [hg, hp], fun j hj => ?_⟩
    rw [h j _ hj (List.getElem?_eq_getElem (by omega))]
    decide
  unfold idxP; rw [hf]
theorem idx_any (p : Lk → Bool) (L : List (Lk × Sd)) : decide (0 ≤ idxP p L) = L.any fun x => p x.1 := by
  unfold idxP
  cases h : L.findIdx? (fun x => p x.1) with
  | none =>
    rw [List.findIdx?_eq_none_iff] at h
    have : L.any (fun x => p x.1) = false := by
      rw [List.any_eq_false]
      intro x hx
      rw [h x hx]; decide
    rw [this]; decide
  | some k =>
    rw [List.findIdx?_eq_some_iff_getElem] at h
    obtain ⟨hlt, hk, _⟩ := h
    have : L.any (fun x => p x.1) = true := by
      rw [List.any_eq_true]
      exact ⟨_, List.getElem_mem hlt, hk⟩
    rw [this]; simp
section
variable {l : Lk} {s : Sd} {L : List (Lk × Sd)}
set_option maxHeartbeats 4000000 in
theorem index78_any (w : World) (ao : Option Addr) (n cap bx : Nat) (hr : Rds w 12 ao (L.map lkc)) (hn : L.length = n) (hle : n ≤ 1099511627776) (hb : LkB w bx l s) :
    Calls Try.prog 75 #[.slice ao n cap, .func (.func 78) #[] #[.pointer (some ⟨bx, 0, none⟩)]] w fun e w' => e = .returned (.int .i64 (idxP (oddP l) L)) ∧ Below w.heap.size w w' := by
  have RD := Lib.hid hr; have HN := Lib.hid hn; have HB := Lib.hid hb
  have hni : (n : Int) ≤ 1099511627776 := by omega
  clear hr hn hle hb
  go_enter Try.func75, Try.ntmps75
  go_wp2_with fail
  go_loopw [8] (fun v8 wr => ∃ k : Nat, v8 = .int .i64 (k : Int) ∧ k ≤ n ∧ Hid (∀ j x, j < k → L[j]? = some x → oddP l x.1 = false) ∧ Hid (Below w.heap.size w wr)) (fun v8 _ => n - (intOf v8).toNat)
  case atStart => exact ⟨0, rfl, Nat.zero_le _, Lib.hid (fun j x hj => by omega), Lib.hid (Below.refl _ _)⟩
  case round =>
    obtain ⟨k, rfl, hk, HALL, BR⟩ := hrel
    by_cases hkn : k < n
    · obtain ⟨x, hx⟩ : ∃ x, L[k]? = some x := ⟨_, List.getElem?_eq_getElem (by rw [HN.out]; exact hkn)⟩
      have HX := Lib.hid hx
      obtain ⟨g, o, rfl, hg, hc⟩ := (RD.out.below BR.out) k (lkc x) (by rw [List.getElem?_map, hx]; rfl)
      have RG := Lib.hid (show wr.rangeAt g (o + k * 12) (lkc x) from hc)
      have hki : (k : Int) < (n : Int) := by omega
      have hk0 : (0 : Int) ≤ (k : Int) := by omega
      obtain ⟨x, sx⟩ := x
      have C := Lib.hid (clo78_any (m := x) (t := sx) wr bx (HB.out.below BR.out))
      clear hc hx
      cases hp : oddP l x with
      | true =>
        rw [hp] at C
        have HP := Lib.hid hp
        clear hp
        go_wp2_with (refine wpList_load_mid rfl 38 (.tmp 14) rfl g (o + k * 12) rfl (lkc (x, sx)) _ RG.out Try.underlying38 rfl (lk_size _ _) ?_)
        refine C.out.mono ?_; rintro e w2 ⟨rfl, b2⟩
        have B2 := Lib.hid (below_next BR.out b2)
        clear b2
        go_wp2_with fail
        go_ret
        exact ⟨ret_int (idx_at HX.out HP.out HALL.out).symm, B2.out⟩
      | false =>
        rw [hp] at C
        have HP := Lib.hid hp
        clear hp
        go_wp2_with (refine wpList_load_mid rfl 38 (.tmp 14) rfl g (o + k * 12) rfl (lkc (x, sx)) _ RG.out Try.underlying38 rfl (lk_size _ _) ?_)
        refine C.out.mono ?_; rintro e w2 ⟨rfl, b2⟩
        have B2 := Lib.hid (below_next BR.out b2)
        clear b2
        go_wp2_with fail
        go_roundw
        case rel => exact ⟨k + 1, by go_num, by omega, Lib.hid (fun j y hj hy => by
          rcases Nat.lt_or_ge j k with h | h
          · exact HALL.out j y h hy
          · obtain rfl : j = k := by omega
            have := HX.out; rw [hy] at this; cases this; exact HP.out), B2⟩
        case measure => simp [intOf]; omega
    · obtain rfl : n = k := by omega
      go_wp2_with fail
      go_ret
      exact ⟨ret_int (idx_none HN.out HALL.out).symm, BR.out⟩
set_option maxHeartbeats 4000000 in
theorem index42_any (w : World) (ao : Option Addr) (n cap bx : Nat) (hr : Rds w 12 ao (L.map lkc)) (hn : L.length = n) (hle : n ≤ 1099511627776) (hb : LkB w bx l s) :
    Calls Try.prog 75 #[.slice ao n cap, .func (.func 42) #[] #[.pointer (some ⟨bx, 0, none⟩)]] w fun e w' => e = .returned (.int .i64 (idxP (txP l) L)) ∧ Below w.heap.size w w' := by
  have RD := Lib.hid hr; have HN := Lib.hid hn; have HB := Lib.hid hb
  have hni : (n : Int) ≤ 1099511627776 := by omega
  clear hr hn hle hb
  go_enter Try.func75, Try.ntmps75
  go_wp2_with fail
  go_loopw [8] (fun v8 wr => ∃ k : Nat, v8 = .int .i64 (k : Int) ∧ k ≤ n ∧ Hid (∀ j x, j < k → L[j]? = some x → txP l x.1 = false) ∧ Hid (Below w.heap.size w wr)) (fun v8 _ => n - (intOf v8).toNat)
  case atStart => exact ⟨0, rfl, Nat.zero_le _, Lib.hid (fun j x hj => by omega), Lib.hid (Below.refl _ _)⟩
  case round =>
    obtain ⟨k, rfl, hk, HALL, BR⟩ := hrel
    by_cases hkn : k < n
    · obtain ⟨x, hx⟩ : ∃ x, L[k]? = some x := ⟨_, List.getElem?_eq_getElem (by rw [HN.out]; exact hkn)⟩
      have HX := Lib.hid hx
      obtain ⟨g, o, rfl, hg, hc⟩ := (RD.out.below BR.out) k (lkc x) (by rw [List.getElem?_map, hx]; rfl)
      have RG := Lib.hid (show wr.rangeAt g (o + k * 12) (lkc x) from hc)
      have hki : (k : Int) < (n : Int) := by omega
      have hk0 : (0 : Int) ≤ (k : Int) := by omega
      obtain ⟨x, sx⟩ := x
      have C := Lib.hid (clo42_any (m := x) (t := sx) wr bx (HB.out.below BR.out))
      clear hc hx
      cases hp : txP l x with
      | true =>
        rw [hp] at C
        have HP := Lib.hid hp
        clear hp
        go_wp2_with (refine wpList_load_mid rfl 38 (.tmp 14) rfl g (o + k * 12) rfl (lkc (x, sx)) _ RG.out Try.underlying38 rfl (lk_size _ _) ?_)
        refine C.out.mono ?_; rintro e w2 ⟨rfl, b2⟩
        have B2 := Lib.hid (below_next BR.out b2)
        clear b2
        go_wp2_with fail
        go_ret
        exact ⟨ret_int (idx_at HX.out HP.out HALL.out).symm, B2.out⟩
      | false =>
        rw [hp] at C
        have HP := Lib.hid hp
        clear hp
        go_wp2_with (refine wpList_load_mid rfl 38 (.tmp 14) rfl g (o + k * 12) rfl (lkc (x, sx)) _ RG.out Try.underlying38 rfl (lk_size _ _) ?_)
        refine C.out.mono ?_; rintro e w2 ⟨rfl, b2⟩
        have B2 := Lib.hid (below_next BR.out b2)
        clear b2
        go_wp2_with fail
        go_roundw
        case rel => exact ⟨k + 1, by go_num, by omega, Lib.hid (fun j y hj hy => by
          rcases Nat.lt_or_ge j k with h | h
          · exact HALL.out j y h hy
          · obtain rfl : j = k := by omega
            have := HX.out; rw [hy] at this; cases this; exact HP.out), B2⟩
        case measure => simp [intOf]; omega
    · obtain rfl : n = k := by omega
      go_wp2_with fail
      go_ret
      exact ⟨ret_int (idx_none HN.out HALL.out).symm, BR.out⟩
set_option maxHeartbeats 1000000 in
theorem contains78_any (w : World) (ao : Option Addr) (n cap bx : Nat) (hr : Rds w 12 ao (L.map lkc)) (hn : L.length = n) (hle : n ≤ 1099511627776) (hb : LkB w bx l s) :
    Calls Try.prog 77 #[.slice ao n cap, .func (.func 78) #[] #[.pointer (some ⟨bx, 0, none⟩)]] w fun e w' => e = .returned (.bool (L.any fun x => oddP l x.1)) ∧ Below w.heap.size w w' := by
  have C := Lib.hid (index78_any (l := l) w ao n cap bx hr hn hle hb)
  rw [← idx_any]
  generalize idxP (oddP l) L = z at *
  clear hr hn hle hb
  go_enter Try.func77, Try.ntmps77
  go_wp2_with fail
  refine C.out.mono ?_; rintro e w2 ⟨rfl, b2⟩
  go_wp2_with fail
  go_ret
  exact ⟨by simp, b2⟩
end
/-- a fence that an incarnation lies below -/
def lowF (rep : Int) (k : Nat) (inc fence : Int) : Bool := decide ((k : Int) ≠ rep) && (decide (inc ≠ 0) && decide (inc < fence))
def fencedP (rep : Int) (c : Cp) (i : It) : Bool := lowF rep 0 i.i0 c.f0 || (lowF rep 1 i.i1 c.f1 || (lowF rep 2 i.i2 c.f2 || lowF rep 3 i.i3 c.f3))
set_option maxHeartbeats 8000000 in
theorem fenced_any {B b : Nat} {rep : Int} {c : Cp} {s : Cs} {t : Sd} (w : World) (h : RowR w B b rep c s) (i : It) : Calls Try.prog 76 #[.pointer (some ⟨b, 0, none⟩), i.ag t] w fun e w' => e = .returned (.bool (fencedP rep c i)) ∧ Below w.heap.size w w' := by
  obtain ⟨bk, ver, wt, es, i0, i1, i2, i3⟩ := i
  obtain ⟨ao, cap⟩ := t
  obtain ⟨W, hW⟩ : ∃ W, W = w.alloc (.cells #[.int .i64 bk, .int .u32 ver, .bool wt, .slice ao es.length cap, .int .u32 i0, .int .u32 i1, .int .u32 i2, .int .u32 i3] 26) := ⟨_, rfl⟩
  have bW : Below w.heap.size w W := by rw [hW]; exact below_alloc (Below.refl _ _) _
  have r1 : W.heap[w.heap.size]? = some (.cells #[.int .i64 bk, .int .u32 ver, .bool wt, .slice ao es.length cap, .int .u32 i0, .int .u32 i1, .int .u32 i2, .int .u32 i3] 26 (0, 0)) := by rw [hW]; exact heap_alloc_new w _
  have h2 := h.below bW
  have y5 := h2.at_ 5 _ rfl
  have y6 := h2.at_ 6 _ rfl
  have y7 := h2.at_ 7 _ rfl
  have y8 := h2.at_ 8 _ rfl
  have y10 := h2.at_ 10 _ rfl
  unfold fencedP
  simp only
  generalize c.f0 = f0 at *
  generalize c.f1 = f1 at *
  generalize c.f2 = f2 at *
  generalize c.f3 = f3 at *
  have BW := Lib.hid bW
  clear h h2 bW
  obtain ⟨-, -, -, -, a4, a5, a6, a7⟩ := item_cells r1
  clear r1
  have x0 : ∀ w : World, (Instr.index 24 (.agg #[.int .u32 f0, .int .u32 f1, .int .u32 f2, .int .u32 f3]) (.int .i64 0)).run Try.prog w = .ok (.int .u32 f0) w := fun _ => by kernel_rfl
  have x1 : ∀ w : World, (Instr.index 24 (.agg #[.int .u32 f0, .int .u32 f1, .int .u32 f2, .int .u32 f3]) (.int .i64 1)).run Try.prog w = .ok (.int .u32 f1) w := fun _ => by kernel_rfl
  have x2 : ∀ w : World, (Instr.index 24 (.agg #[.int .u32 f0, .int .u32 f1, .int .u32 f2, .int .u32 f3]) (.int .i64 2)).run Try.prog w = .ok (.int .u32 f2) w := fun _ => by kernel_rfl
  have x3 : ∀ w : World, (Instr.index 24 (.agg #[.int .u32 f0, .int .u32 f1, .int .u32 f2, .int .u32 f3]) (.int .i64 3)).run Try.prog w = .ok (.int .u32 f3) w := fun _ => by kernel_rfl
  simp only [It.ag]
  go_enter Try.func76, Try.ntmps76
  go_upto_region 1 with (fail)
  rw [← hW]
  clear hW
  generalize hbi : w.heap.size = bi at a4 a5 a6 a7 ⊢
  go_wp2_with fail
  go_loopw [13] (fun v13 wx => wx = W ∧ ∃ k : Nat, k ≤ 4 ∧ v13 = .int .i64 (k : Int) ∧ Hid ((1 ≤ k → lowF rep 0 i0 f0 = false) ∧ (2 ≤ k → lowF rep 1 i1 f1 = false) ∧ (3 ≤ k → lowF rep 2 i2 f2 = false) ∧ (4 ≤ k → lowF rep 3 i3 f3 = false))) (fun v13 _ => 4 - (intOf v13).toNat)
  case atStart => exact ⟨rfl, 0, by omega, rfl, Lib.hid ⟨by omega, by omega, by omega, by omega⟩⟩
  case round =>
    obtain ⟨rfl, k, hk, rfl, HALL⟩ := hrel
    have hk5 : k = 0 ∨ k = 1 ∨ k = 2 ∨ k = 3 ∨ k = 4 := by omega
    rcases hk5 with rfl | rfl | rfl | rfl | rfl
    · obtain ⟨lo, hlo⟩ : ∃ lo, lowF rep 0 i0 f0 = lo := ⟨_, rfl⟩
      have HLO := Lib.hid hlo
      clear hlo
      by_cases hA : (0 : Int) = rep
      · have hA2 : ((0 : Int) != rep) = false := by simp [hA]
        have hl : lo = false := by
          rw [← HLO.out]; unfold lowF
          rw [show decide (((0 : Nat) : Int) ≠ rep) = false from by simpa using hA]; rfl
        have HL := Lib.hid hl
        clear hl hA
        go_wp2_with fail
        go_roundw
        case rel =>
          obtain ⟨q0, q1, q2, q3⟩ := HALL.out
          have e := HLO.out.trans HL.out
          exact ⟨trivial, 1, by omega, rfl, Lib.hid ⟨fun _ => by first | exact e | exact q0 (by omega), fun _ => by first | exact e | exact q1 (by omega) | omega, fun _ => by first | exact e | exact q2 (by omega) | omega, fun _ => by first | exact e | exact q3 (by omega) | omega⟩⟩
        case measure => simp [intOf]
      · have hA2 : ((0 : Int) != rep) = true := by simpa using hA
        have HA := Lib.hid hA
        clear hA
        by_cases hB : i0 = 0
        · have hB2 : (i0 != 0) = false := by simp [hB]
          have hl : lo = false := by
            rw [← HLO.out]; unfold lowF
            rw [show decide (i0 ≠ 0) = false from by simpa using hB, Bool.false_and, Bool.and_false]
          have HL := Lib.hid hl
          clear hl hB
          go_wp2_with fail
          go_roundw
          case rel =>
            obtain ⟨q0, q1, q2, q3⟩ := HALL.out
            have e := HLO.out.trans HL.out
            exact ⟨trivial, 1, by omega, rfl, Lib.hid ⟨fun _ => by first | exact e | exact q0 (by omega), fun _ => by first | exact e | exact q1 (by omega) | omega, fun _ => by first | exact e | exact q2 (by omega) | omega, fun _ => by first | exact e | exact q3 (by omega) | omega⟩⟩
          case measure => simp [intOf]
        · have hB2 : (i0 != 0) = true := by simpa using hB
          have HB := Lib.hid hB
          clear hB
          by_cases hC : i0 < f0
          · have hl : lo = true := by
              rw [← HLO.out]; unfold lowF
              rw [show decide (((0 : Nat) : Int) ≠ rep) = true from by simpa using HA.out, show decide (i0 ≠ 0) = true from by simpa using HB.out, show decide (i0 < f0) = true from by simpa using hC]; rfl
            have HL := Lib.hid hl
            clear hl
            go_wp2_with fail
            go_ret
            have e := HLO.out.trans HL.out
            exact ⟨ret_bool (by simp [e]), by first | exact BW.out | (rw [← hbi]; exact BW.out)⟩
          · have hl : lo = false := by
              rw [← HLO.out]; unfold lowF
              rw [show decide (i0 < f0) = false from by simpa using hC, Bool.and_false, Bool.and_false]
            have HL := Lib.hid hl
            clear hl
            go_wp2_with fail
            go_roundw
            case rel =>
              obtain ⟨q0, q1, q2, q3⟩ := HALL.out
              have e := HLO.out.trans HL.out
              exact ⟨trivial, 1, by omega, rfl, Lib.hid ⟨fun _ => by first | exact e | exact q0 (by omega), fun _ => by first | exact e | exact q1 (by omega) | omega, fun _ => by first | exact e | exact q2 (by omega) | omega, fun _ => by first | exact e | exact q3 (by omega) | omega⟩⟩
            case measure => simp [intOf]
    · obtain ⟨lo, hlo⟩ : ∃ lo, lowF rep 1 i1 f1 = lo := ⟨_, rfl⟩
      have HLO := Lib.hid hlo
      clear hlo
      by_cases hA : (1 : Int) = rep
      · have hA2 : ((1 : Int) != rep) = false := by simp [hA]
        have hl : lo = false := by
          rw [← HLO.out]; unfold lowF
          rw [show decide (((1 : Nat) : Int) ≠ rep) = false from by simpa using hA]; rfl
        have HL := Lib.hid hl
        clear hl hA
        go_wp2_with fail
        go_roundw
        case rel =>
          obtain ⟨q0, q1, q2, q3⟩ := HALL.out
          have e := HLO.out.trans HL.out
          exact ⟨trivial, 2, by omega, rfl, Lib.hid ⟨fun _ => by first | exact e | exact q0 (by omega), fun _ => by first | exact e | exact q1 (by omega) | omega, fun _ => by first | exact e | exact q2 (by omega) | omega, fun _ => by first | exact e | exact q3 (by omega) | omega⟩⟩
        case measure => simp [intOf]
      · have hA2 : ((1 : Int) != rep) = true := by simpa using hA
        have HA := Lib.hid hA
        clear hA
        by_cases hB : i1 = 0
        · have hB2 : (i1 != 0) = false := by simp [hB]
          have hl : lo = false := by
            rw [← HLO.out]; unfold lowF
            rw [show decide (i1 ≠ 0) = false from by simpa using hB, Bool.false_and, Bool.and_false]
          have HL := Lib.hid hl
          clear hl hB
          go_wp2_with fail
          go_roundw
          case rel =>
            obtain ⟨q0, q1, q2, q3⟩ := HALL.out
            have e := HLO.out.trans HL.out
            exact ⟨trivial, 2, by omega, rfl, Lib.hid ⟨fun _ => by first | exact e | exact q0 (by omega), fun _ => by first | exact e | exact q1 (by omega) | omega, fun _ => by first | exact e | exact q2 (by omega) | omega, fun _ => by first | exact e | exact q3 (by omega) | omega⟩⟩
          case measure => simp [intOf]
        · have hB2 : (i1 != 0) = true := by simpa using hB
          have HB := Lib.hid hB
          clear hB
          by_cases hC : i1 < f1
          · have hl : lo = true := by
              rw [← HLO.out]; unfold lowF
              rw [show decide (((1 : Nat) : Int) ≠ rep) = true from by simpa using HA.out, show decide (i1 ≠ 0) = true from by simpa using HB.out, show decide (i1 < f1) = true from by simpa using hC]; rfl
            have HL := Lib.hid hl
            clear hl
            go_wp2_with fail
            go_ret
            have e := HLO.out.trans HL.out
            exact ⟨ret_bool (by simp [e]), by first | exact BW.out | (rw [← hbi]; exact BW.out)⟩
          · have hl : lo = false := by
              rw [← HLO.out]; unfold lowF
              rw [show decide (i1 < f1) = false from by simpa using hC, Bool.and_false, Bool.and_false]
            have HL := Lib.hid hl
            clear hl
            go_wp2_with fail
            go_roundw
            case rel =>
              obtain ⟨q0, q1, q2, q3⟩ := HALL.out
              have e := HLO.out.trans HL.out
              exact ⟨trivial, 2, by omega, rfl, Lib.hid ⟨fun _ => by first | exact e | exact q0 (by omega), fun _ => by first | exact e | exact q1 (by omega) | omega, fun _ => by first | exact e | exact q2 (by omega) | omega, fun _ => by first | exact e | exact q3 (by omega) | omega⟩⟩
            case measure => simp [intOf]
    · obtain ⟨lo, hlo⟩ : ∃ lo, lowF rep 2 i2 f2 = lo := ⟨_, rfl⟩
      have HLO := Lib.hid hlo
      clear hlo
      by_cases hA : (2 : Int) = rep
      · have hA2 : ((2 : Int) != rep) = false := by simp [hA]
        have hl : lo = false := by
          rw [← HLO.out]; unfold lowF
          rw [show decide (((2 : Nat) : Int) ≠ rep) = false from by simpa using hA]; rfl
        have HL := Lib.hid hl
        clear hl hA
        go_wp2_with fail
        go_roundw
        case rel =>
          obtain ⟨q0, q1, q2, q3⟩ := HALL.out
          have e := HLO.out.trans HL.out
          exact ⟨trivial, 3, by omega, rfl, Lib.hid ⟨fun _ => by first | exact e | exact q0 (by omega), fun _ => by first | exact e | exact q1 (by omega) | omega, fun _ => by first | exact e | exact q2 (by omega) | omega, fun _ => by first | exact e | exact q3 (by omega) | omega⟩⟩
        case measure => simp [intOf]
      · have hA2 : ((2 : Int) != rep) = true := by simpa using hA
        have HA := Lib.hid hA
        clear hA
        by_cases hB : i2 = 0
        · have hB2 : (i2 != 0) = false := by simp [hB]
          have hl : lo = false := by
            rw [← HLO.out]; unfold lowF
            rw [show decide (i2 ≠ 0) = false from by simpa using hB, Bool.false_and, Bool.and_false]
          have HL := Lib.hid hl
          clear hl hB
          go_wp2_with fail
          go_roundw
          case rel =>
            obtain ⟨q0, q1, q2, q3⟩ := HALL.out
            have e := HLO.out.trans HL.out
            exact ⟨trivial, 3, by omega, rfl, Lib.hid ⟨fun _ => by first | exact e | exact q0 (by omega), fun _ => by first | exact e | exact q1 (by omega) | omega, fun _ => by first | exact e | exact q2 (by omega) | omega, fun _ => by first | exact e | exact q3 (by omega) | omega⟩⟩
          case measure => simp [intOf]
        · have hB2 : (i2 != 0) = true := by simpa using hB
          have HB := Lib.hid hB
          clear hB
          by_cases hC : i2 < f2
          · have hl : lo = true := by
              rw [← HLO.out]; unfold lowF
              rw [show decide (((2 : Nat) : Int) ≠ rep) = true from by simpa using HA.out, show decide (i2 ≠ 0) = true from by simpa using HB.out, show decide (i2 < f2) = true from by simpa using hC]; rfl
            have HL := Lib.hid hl
            clear hl
            go_wp2_with fail
            go_ret
            have e := HLO.out.trans HL.out
            exact ⟨ret_bool (by simp [e]), by first | exact BW.out | (rw [← hbi]; exact BW.out)⟩
          · have hl : lo = false := by
              rw [← HLO.out]; unfold lowF
              rw [show decide (i2 < f2) = false from by simpa using hC, Bool.and_false, Bool.and_false]
            have HL := Lib.hid hl
            clear hl
            go_wp2_with fail
            go_roundw
            case rel =>
              obtain ⟨q0, q1, q2, q3⟩ := HALL.out
              have e := HLO.out.trans HL.out
              exact ⟨trivial, 3, by omega, rfl, Lib.hid ⟨fun _ => by first | exact e | exact q0 (by omega), fun _ => by first | exact e | exact q1 (by omega) | omega, fun _ => by first | exact e | exact q2 (by omega) | omega, fun _ => by first | exact e | exact q3 (by omega) | omega⟩⟩
            case measure => simp [intOf]
    · obtain ⟨lo, hlo⟩ : ∃ lo, lowF rep 3 i3 f3 = lo := ⟨_, rfl⟩
      have HLO := Lib.hid hlo
      clear hlo
      by_cases hA : (3 : Int) = rep
      · have hA2 : ((3 : Int) != rep) = false := by simp [hA]
        have hl : lo = false := by
          rw [← HLO.out]; unfold lowF
          rw [show decide (((3 : Nat) : Int) ≠ rep) = false from by simpa using hA]; rfl
        have HL := Lib.hid hl
        clear hl hA
        go_wp2_with fail
        go_roundw
        case rel =>
          obtain ⟨q0, q1, q2, q3⟩ := HALL.out
          have e := HLO.out.trans HL.out
          exact ⟨trivial, 4, by omega, rfl, Lib.hid ⟨fun _ => by first | exact e | exact q0 (by omega), fun _ => by first | exact e | exact q1 (by omega) | omega, fun _ => by first | exact e | exact q2 (by omega) | omega, fun _ => by first | exact e | exact q3 (by omega) | omega⟩⟩
        case measure => simp [intOf]
      · have hA2 : ((3 : Int) != rep) = true := by simpa using hA
        have HA := Lib.hid hA
        clear hA
        by_cases hB : i3 = 0
        · have hB2 : (i3 != 0) = false := by simp [hB]
          have hl : lo = false := by
            rw [← HLO.out]; unfold lowF
            rw [show decide (i3 ≠ 0) = false from by simpa using hB, Bool.false_and, Bool.and_false]
          have HL := Lib.hid hl
          clear hl hB
          go_wp2_with fail
          go_roundw
          case rel =>
            obtain ⟨q0, q1, q2, q3⟩ := HALL.out
            have e := HLO.out.trans HL.out
            exact ⟨trivial, 4, by omega, rfl, Lib.hid ⟨fun _ => by first | exact e | exact q0 (by omega), fun _ => by first | exact e | exact q1 (by omega) | omega, fun _ => by first | exact e | exact q2 (by omega) | omega, fun _ => by first | exact e | exact q3 (by omega) | omega⟩⟩
          case measure => simp [intOf]
        · have hB2 : (i3 != 0) = true := by simpa using hB
          have HB := Lib.hid hB
          clear hB
          by_cases hC : i3 < f3
          · have hl : lo = true := by
              rw [← HLO.out]; unfold lowF
              rw [show decide (((3 : Nat) : Int) ≠ rep) = true from by simpa using HA.out, show decide (i3 ≠ 0) = true from by simpa using HB.out, show decide (i3 < f3) = true from by simpa using hC]; rfl
            have HL := Lib.hid hl
            clear hl
            go_wp2_with fail
            go_ret
            have e := HLO.out.trans HL.out
            exact ⟨ret_bool (by simp [e]), by first | exact BW.out | (rw [← hbi]; exact BW.out)⟩
          · have hl : lo = false := by
              rw [← HLO.out]; unfold lowF
              rw [show decide (i3 < f3) = false from by simpa using hC, Bool.and_false, Bool.and_false]
            have HL := Lib.hid hl
            clear hl
            go_wp2_with fail
            go_roundw
            case rel =>
              obtain ⟨q0, q1, q2, q3⟩ := HALL.out
              have e := HLO.out.trans HL.out
              exact ⟨trivial, 4, by omega, rfl, Lib.hid ⟨fun _ => by first | exact e | exact q0 (by omega), fun _ => by first | exact e | exact q1 (by omega) | omega, fun _ => by first | exact e | exact q2 (by omega) | omega, fun _ => by first | exact e | exact q3 (by omega) | omega⟩⟩
            case measure => simp [intOf]
    · go_wp2_with fail
      go_ret
      obtain ⟨q0, q1, q2, q3⟩ := HALL.out
      exact ⟨ret_bool (by rw [q0 (by omega), q1 (by omega), q2 (by omega), q3 (by omega)]; rfl), by first | exact BW.out | (rw [← hbi]; exact BW.out)⟩
end Go.Proofs.Ytbjcmomicjdepaa
