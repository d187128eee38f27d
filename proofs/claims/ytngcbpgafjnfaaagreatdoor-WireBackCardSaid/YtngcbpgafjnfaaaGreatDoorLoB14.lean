/- Four bytes as a number, and back. Clone, Same, own, still, sumOf. -/
import Derived.Test.YtngcbpgafjnfaaaGreatDoorLoB13
set_option linter.unusedSimpArgs false
set_option linter.unusedVariables false

namespace Go.Proofs.YtngcbpgafjnfaaaGreatDoor
open Go.RowKit Go.Sort
set_option linter.unusedVariables false

/-- the number of the first k bytes, the lowest one first -/
def numK (l : List Nat) : Nat → Nat
  | 0 => 0
  | k + 1 => numK l k + 256 ^ k * bt l k
/-- of the first four -/
def num (l : List Nat) : Nat := numK l 4
theorem num_eq (l : List Nat) : num l = bt l 0 + 256 * bt l 1 + 65536 * bt l 2 + 16777216 * bt l 3 := by simp [num, numK]
theorem num_lt {l : List Nat} (h : ∀ j, bt l j < 256) : num l < 4294967296 := by
  have := h 0; have := h 1; have := h 2; have := h 3
  rw [num_eq]; omega

theorem or_u32 (a b k : Nat) (ha : a < 2 ^ k) (hk : k ≤ 32) (hb : b * 2 ^ k < 4294967296) : bits .or .u32 (a : Int) ((b * 2 ^ k : Nat) : Int) = ((a + b * 2 ^ k : Nat) : Int) := by
  have h2 : (2 : Nat) ^ k ≤ 2 ^ 32 := Nat.pow_le_pow_right (by omega) hk
  rw [u32_or_nat _ _ (by omega) hb]
  congr 1
  rw [Nat.or_comm, nat_join k (b * 2 ^ k) a (Nat.mul_mod_left _ _) ha, Nat.add_comm]
theorem numK_lt {l : List Nat} (h : ∀ j, bt l j < 256) : ∀ k, numK l k < 256 ^ k
  | 0 => by simp [numK]
  | k + 1 => by
    have h1 := numK_lt h k
    have h2 := h k
    have h3 : 256 ^ k * bt l k ≤ 256 ^ k * 255 := Nat.mul_le_mul_left _ (by omega)
    rw [numK, Nat.pow_succ]; omega
theorem word_step {l : List Nat} {k : Nat} (hk : k < 4) (h : ∀ j, bt l j < 256) : bits .or .u32 (numK l k : Nat) ((bt l k : Nat) * 2 ^ (8 * k) % 4294967296 : Int) = (numK l (k + 1) : Nat) := by
  have hp : (256 : Nat) ^ k = 2 ^ (8 * k) := by rw [Nat.pow_mul]
  have hlt : bt l k * 2 ^ (8 * k) < 4294967296 := by
    have h1 := h k
    have h2 : (2 : Nat) ^ (8 * k) ≤ 2 ^ 24 := Nat.pow_le_pow_right (by omega) (by omega)
    exact Nat.lt_of_le_of_lt (Nat.mul_le_mul (show bt l k ≤ 255 by omega) h2) (by decide)
  have e : ((bt l k : Nat) * 2 ^ (8 * k) % 4294967296 : Int) = ((bt l k * 2 ^ (8 * k) : Nat) : Int) := by
    rw [Int.natCast_mul, Int.natCast_pow, show ((2 : Nat) : Int) = 2 from rfl]
    have : ((bt l k : Nat) : Int) * 2 ^ (8 * k) = ((bt l k * 2 ^ (8 * k) : Nat) : Int) := by rw [Int.natCast_mul, Int.natCast_pow]; rfl
    omega
  rw [e, or_u32 _ _ (8 * k) (by rw [← hp]; exact numK_lt h k) (by omega) hlt, numK, hp, Nat.mul_comm (bt l k)]

set_option maxHeartbeats 2000000 in
theorem word_any (ao : Option Addr) (n cap : Nat) (l : List Nat) (hl : l.length = n) (h4 : 4 ≤ n) (w : World) (hr : Rd w ao l) :
    Calls Tryz.prog 75 #[.slice ao n cap] w fun e w' => e = .returned (.int .u32 (num l : Nat)) ∧ w = w' := by
  have HR := Lib.hid hr; have HL := Lib.hid hl
  clear hr hl
  have hsg : IntKind.u32.signed = false := rfl
  go_enter Tryz.func75, Tryz.ntmps75
  go_wp2_with fail
  go_loop [3, 4, 5] (fun r x i => ∃ k : Nat, k ≤ 4 ∧ i = .int .i64 (k : Int) ∧ r = .int .u32 (numK l k : Nat)) (fun _ _ i => 4 - (intOf i).toNat)
  case atStart => exact ⟨0, by omega, rfl, rfl⟩
  case round =>
    obtain ⟨k, hk, rfl, rfl⟩ := hrel
    by_cases hlt : k < 4
    · obtain ⟨g, o, rfl, hg, hc⟩ := HR.out.at_ k (by rw [HL.out]; omega)
      have hb := HR.out.byte k
      have b0 := HR.out.byte 0; have b1 := HR.out.byte 1; have b2 := HR.out.byte 2
      have HN := Lib.hid (show numK l (k + 1) = numK l k + 256 ^ k * bt l k from rfl)
      have e1 := Lib.hid (word_step hlt HR.out.byte)
      go_wp2_with fail
      go_round
      case rel => exact ⟨k + 1, by omega, by go_num, by rw [e1.out]⟩
      case measure => simp [intOf]; omega
    · obtain rfl : k = 4 := by omega
      go_wp2_with fail
      go_ret
      exact ⟨rfl, rfl⟩

/-- the same from the other end -/
def numD (l : List Nat) : Nat → Nat
  | 0 => 0
  | j + 1 => 256 * numD l j + bt l (3 - j)
theorem numD_four (l : List Nat) : numD l 4 = num l := by rw [num_eq]; simp [numD]; omega
theorem numD_lt {l : List Nat} (h : ∀ j, bt l j < 256) : ∀ k, numD l k < 256 ^ k
  | 0 => by simp [numD]
  | k + 1 => by
    have h1 := numD_lt h k
    have h2 := h (3 - k)
    rw [numD, Nat.pow_succ]; omega

set_option maxHeartbeats 2000000 in
theorem number_any (ao : Option Addr) (n cap : Nat) (l : List Nat) (hl : l.length = n) (h4 : 4 ≤ n) (w : World) (hr : Rd w ao l) :
    Calls Tryz.prog 77 #[.slice ao n cap] w fun e w' => e = .returned (.int .u32 (num l : Nat)) ∧ w = w' := by
  have HR := Lib.hid hr; have HL := Lib.hid hl
  have HD := Lib.hid (numD_four l)
  have HLT := Lib.hid (numD_lt hr.byte)
  clear hr hl
  have hsg : IntKind.u32.signed = false := rfl
  go_enter Tryz.func77, Tryz.ntmps77
  go_wp2_with fail
  go_loop [3, 4] (fun r i => ∃ k : Nat, k ≤ 4 ∧ i = .int .i64 (3 - (k : Int)) ∧ r = .int .u32 (numD l k : Nat)) (fun _ i => (intOf i + 1).toNat)
  case atStart => exact ⟨0, by omega, rfl, rfl⟩
  case round =>
    obtain ⟨k, hk, rfl, rfl⟩ := hrel
    by_cases hlt : k < 4
    · obtain ⟨g, o, rfl, hg, hc⟩ := HR.out.at_ (3 - k) (by rw [HL.out]; omega)
      have hb := HR.out.byte (3 - k)
      have HN := Lib.hid (show numD l (k + 1) = 256 * numD l k + bt l (3 - k) from rfl)
      have hkk : numD l k < 16777216 := Nat.lt_of_lt_of_le (HLT.out k) (Nat.pow_le_pow_right (show 0 < 256 by omega) (show k ≤ 3 by omega))
      generalize numD l k = x at *
      go_wp2_with fail
      go_round
      case rel => exact ⟨k + 1, by omega, by go_num, by rw [HN.out]; go_num⟩
      case measure => simp [intOf]; omega
    · obtain rfl : k = 4 := by omega
      go_wp2_with fail
      go_ret
      exact ⟨ret_int (by rw [HD.out]), rfl⟩

/-- a number's four bytes -/
def four (x : Nat) : List Nat := [x % 256, x / 256 % 256, x / 65536 % 256, x / 16777216 % 256]
def fourK (x : Nat) (k : Nat) : List Nat := (four x).take k
theorem fourK_succ (x k : Nat) (hk : k < 4) : fourK x (k + 1) = fourK x k ++ [x / 256 ^ k % 256] := by
  have h : k = 0 ∨ k = 1 ∨ k = 2 ∨ k = 3 := by omega
  rcases h with rfl | rfl | rfl | rfl <;> simp [fourK, four]
theorem fourK_length (x k : Nat) (hk : k ≤ 4) : (fourK x k).length = k := by simp [fourK, four]; omega
theorem four_lt (x : Nat) : ∀ c ∈ four x, c < 256 := by
  intro c hc
  simp only [four, List.mem_cons, List.not_mem_nil, or_false] at hc
  omega
theorem num_four (x : Nat) (hx : x < 4294967296) (l : List Nat) : num (four x ++ l) = x := by
  rw [num_eq]
  simp [bt, four]
  omega

set_option maxHeartbeats 2000000 in
theorem four_any (x : Nat) (hx : x < 4294967296) (w : World) : Calls Tryz.prog 48 #[.int .u32 (x : Int)] w (Made w (four x)) := by
  have hsg : IntKind.u32.signed = false := rfl
  go_enter Tryz.func48, Tryz.ntmps48
  go_wp2_with fail
  go_loopw [0, 3, 4] (fun y v i wr => ∃ (k : Nat) (ao : Option Addr) (cap : Nat), k ≤ 4 ∧ i = .int .i64 (k : Int) ∧ y = .int .u32 (x / 256 ^ k : Nat) ∧ v = .slice ao k cap ∧ Own wr w.heap.size ao k cap (fourK x k) ∧ Below w.heap.size w wr) (fun _ _ i _ => 4 - (intOf i).toNat)
  case atStart => exact ⟨0, none, 0, by omega, rfl, by simp, rfl, Own.nil _ _, Below.refl _ _⟩
  case round =>
    obtain ⟨k, ao, cap, hk, rfl, rfl, rfl, ho, hb⟩ := hrel
    have HO := Lib.hid ho; clear ho
    by_cases hlt : k < 4
    · have hy : x / 256 ^ k < 4294967296 := Nat.lt_of_le_of_lt (Nat.div_le_self _ _) hx
      have HS := Lib.hid (fourK_succ x k hlt)
      have HP := Lib.hid (show x / 256 ^ (k + 1) = x / 256 ^ k / 256 by rw [Nat.pow_succ, Nat.div_div_eq_div_mul])
      generalize x / 256 ^ k = y at *
      have hs := hb.size
      go_wp2_with (at_builtin; refine wpList_app rfl (.tmp 9) (.tmp 13) rfl rfl (HO.out.below (below_alloc (Below.refl _ _) _)) rfl (Own.one wr 0 (y % 256) (by omega) (by omega)).rd rfl (by simp; omega) (by omega) ?_; intro ao2 cap2 w2 hown2 hk2 hn2)
      have hb2 := (HO.out.below (below_alloc (Below.refl _ _) _)).step (hb.alloc hb.size _) (by simp; omega) hk2
      go_roundw
      case rel => exact ⟨k + 1, ao2, cap2, by omega, by go_num, by rw [HP.out]; go_num, rfl, by rw [HS.out]; exact hown2, hb2⟩
      case measure => simp [intOf]; omega
    · obtain rfl : k = 4 := by omega
      go_wp2_with fail
      go_ret
      exact ⟨ao, cap, rfl, HO.out, hb⟩

theorem shr_u8 (x k : Nat) : u8v (x / 256 ^ k % 256) = .int .u8 ((x : Int) / 2 ^ (8 * k) % 256) := by
  have hp : (256 : Nat) ^ k = 2 ^ (8 * k) := by rw [Nat.pow_mul]
  unfold u8v
  rw [hp, Int.natCast_emod, Int.natCast_ediv, Int.natCast_pow]
  rfl
/-- a number's bytes laid into four places -/
def putK (l : List Nat) (x k0 : Nat) : Nat → List Nat
  | 0 => l
  | k + 1 => (putK l x k0 k).set (k0 + k) (x / 256 ^ k % 256)
def put (l : List Nat) (k x : Nat) : List Nat := l.take k ++ (four x ++ l.drop (k + 4))
theorem put_length {l : List Nat} {k x : Nat} (h : k + 4 ≤ l.length) : (put l k x).length = l.length := by simp [put, four]; omega
theorem put_four (l : List Nat) (x k : Nat) (h : k + 4 ≤ l.length) : putK l x k 4 = put l k x := by
  have hl : (l.take k).length = k := by simp; omega
  have hd : 4 ≤ (l.drop k).length := by simp; omega
  have e : l.drop (k + 4) = (l.drop k).drop 4 := by rw [List.drop_drop]
  unfold put
  rw [e]
  have e2 : l = l.take k ++ l.drop k := (List.take_append_drop k l).symm
  generalize l.take k = X at *
  generalize l.drop k = Y at *
  subst e2
  match Y, hd with
  | a :: b :: c :: d :: r, _ => simp [putK, four, List.set_append, hl]

set_option maxHeartbeats 2000000 in
theorem setword_any (x : Nat) (hx : x < 4294967296) (B g o n cap : Nat) (l : List Nat) (k0 n' c' : Nat) (h4 : k0 + 4 ≤ n) (h4' : 4 ≤ n') (w : World) (ho : Own w B (some ⟨g, o, none⟩) n cap l) :
    Calls Tryz.prog 64 #[.slice (some ⟨g, o + k0, none⟩) n' c', .int .u32 (x : Int)] w fun e w' => e = .returned (.tuple #[]) ∧ Own w' B (some ⟨g, o, none⟩) n cap (put l k0 x) ∧ Keep [g] w w' := by
  have hsg : IntKind.u32.signed = false := rfl
  have HO := Lib.hid ho
  have HP := Lib.hid (put_four l x k0 (by rw [ho.len]; exact h4))
  clear ho
  obtain ⟨o', ho'⟩ : ∃ o', o' = o + k0 := ⟨_, rfl⟩
  rw [← ho']
  have HOO := Lib.hid ho'; clear ho'
  go_enter Tryz.func64, Tryz.ntmps64
  go_wp2_with fail
  go_loopw [4, 5] (fun y i wr => ∃ (k : Nat), k ≤ 4 ∧ i = .int .i64 (k : Int) ∧ Own wr B (some ⟨g, o, none⟩) n cap (putK l x k0 k) ∧ Keep [g] w wr) (fun _ i _ => 4 - (intOf i).toNat)
  case atStart => exact ⟨0, by omega, rfl, HO.out, Keep.refl _ _⟩
  case round =>
    obtain ⟨k, hk, rfl, ho, hb⟩ := hrel
    by_cases hlt : k < 4
    · obtain ⟨g', o2, e, hg, hgs, hc, hf⟩ := ho.at_ (k0 + k) (by omega)
      cases e
      rw [← Nat.add_assoc, ← HOO.out] at hc hf
      have HO2 := Lib.hid ho; clear ho
      have e1 := Lib.hid (show putK l x k0 (k + 1) = (putK l x k0 k).set (k0 + k) (x / 256 ^ k % 256) from rfl)
      have e2 := Lib.hid (shr_u8 x k)
      go_wp2_with fail
      go_roundw
      case rel =>
        rw [← e2.out]
        refine ⟨k + 1, by omega, by go_num, ?_, hb.trans ((Keep.setCell _ _ _).mono fun g hg => .inl hg)⟩
        rw [e1.out, HOO.out, Nat.add_assoc]
        exact HO2.out.set (k0 + k) _ (by omega) (by omega)
      case measure => simp [intOf]; omega
    · obtain rfl : k = 4 := by omega
      go_wp2_with fail
      go_end0
      exact ⟨rfl, by rw [← HP.out]; exact ho, hb⟩
end Go.Proofs.YtngcbpgafjnfaaaGreatDoor


namespace Go.Proofs.YtngcbpgafjnfaaaGreatDoor
open Go.RowKit Go.Sort
set_option linter.unusedVariables false

theorem eql_nil (w : World) (ao : Option Addr) (n c : Nat) : (binOp .eql 54 (.slice ao n c) (.slice none 0 0)).run Tryz.prog w = .ok (.bool ao.isNone) w :=
  Lib.run_eql_slice_nil w _ 5 ao n c 0 0 Tryz.underlying54

set_option maxHeartbeats 2000000 in
theorem clone_any (ao : Option Addr) (n cap : Nat) (l : List Nat) (hl : l.length = n) (hn : n ≤ 140737488355328) (w : World) (hr : Rd w ao l) :
    Calls Tryz.prog 76 #[.slice ao n cap] w fun e w' => ∃ ao' cap', e = .returned (.slice ao' n cap') ∧ Own w' w.heap.size ao' n cap' l ∧ Below w.heap.size w w' := by
  have HR := Lib.hid hr; have HL := Lib.hid hl
  clear hr hl
  have hnil := eql_nil w ao n cap
  cases ao with
  | none =>
    have hl0 : l = [] := by
      cases l with
      | nil => rfl
      | cons a t => obtain ⟨g, o, e, _⟩ := HR.out.at_ 0 (by simp); cases e
    subst hl0
    go_enter Tryz.func76, Tryz.ntmps76
    go_wp2_with fail
    go_ret
    obtain rfl : n = 0 := HL.out.symm
    exact ⟨none, 0, rfl, Own.nil _ _, Below.refl _ _⟩
  | some a =>
    go_enter Tryz.func76, Tryz.ntmps76
    go_wp2_with (at_builtin; refine wpList_app rfl (.tmp 5) (.tmp 6) rfl rfl (Own.none' w w.heap.size (Nat.le_refl _)) rfl (HR.out.below (below_alloc (Below.refl _ _) _)) HL.out (by simp) (by omega) ?_; intro ao2 cap2 w2 hown2 hk2 hn2)
    have hb2 := (Own.none' w w.heap.size (Nat.le_refl _)).step (below_alloc (Below.refl _ _) _) (by simp) hk2
    go_ret
    rw [Nat.zero_add, List.nil_append] at hown2
    exact ⟨ao2, cap2, rfl, hown2, hb2⟩

set_option maxHeartbeats 2000000 in
theorem same_any (ao bo : Option Addr) (n m c d : Nat) (l l' : List Nat) (hl : l.length = n) (hl' : l'.length = m) (hn : n ≤ 9223372036854775807) (w : World) (h1 : Rd w ao l) (h2 : Rd w bo l') :
    Calls Tryz.prog 38 #[.slice ao n c, .slice bo m d] w fun e w' => e = .returned (.bool (l == l')) ∧ Below w.heap.size w w' := by
  have H1 := Lib.hid h1; have H2 := Lib.hid h2
  have HL := Lib.hid hl; have HM := Lib.hid hl'
  clear h1 h2 hl hl'
  by_cases hnm : n = m
  · subst hnm
    go_enter Tryz.func38, Tryz.ntmps38
    go_wp2_with fail
    go_loopw [5] (fun i wr => ∃ k : Nat, k ≤ n ∧ i = .int .i64 k ∧ Hid (∀ j, j < k → bt l j = bt l' j) ∧ Below w.heap.size w wr) (fun i _ => n - (intOf i).toNat)
    case atStart => exact ⟨0, Nat.zero_le _, rfl, fun j hj => by omega, Below.refl _ _⟩
    case round =>
      obtain ⟨k, hk, rfl, hall, hb⟩ := hrel
      by_cases hlt : k < n
      · obtain ⟨g1, o1, rfl, p1, q1⟩ := (H1.out.below hb).at_ k (by rw [HL.out]; exact hlt)
        obtain ⟨g2, o2, rfl, p2, q2⟩ := (H2.out.below hb).at_ k (by rw [HM.out]; exact hlt)
        have r1 := cell_regrown q1
        have r2 := cell_regrown q2
        have b1 := H1.out.byte k
        have b2 := H2.out.byte k
        clear p1 p2 q1 q2
        have HX := Lib.hid (show bt l k = bt l k from rfl)
        have hxs : ∃ x, x = bt l k := ⟨_, rfl⟩
        have hys : ∃ y, y = bt l' k := ⟨_, rfl⟩
        obtain ⟨x, hx⟩ := hxs
        obtain ⟨y, hy⟩ := hys
        rw [← hx] at r1 b1
        rw [← hy] at r2 b2
        have HXX := Lib.hid hx; have HYY := Lib.hid hy
        clear hx hy HX
        by_cases hxy : x = y
        · subst hxy
          go_wp2_with fail
          refine wp_region_quiet_below (by kernel_rfl) (by kernel_rfl) ?_
          repeat (go_big_quiet_step (fail))
          refine wpQuiet_nil ?_
          intro _ hw'
          obtain ⟨⟨dq, osq⟩, hw''⟩ := hw'
          subst hw''
          have lk := below_regrown wr dq osq
          go_wp2_with fail
          go_roundw
          case rel =>
            refine ⟨k + 1, by omega, by go_num, fun j hj => ?_, below_next hb lk⟩
            by_cases hjk : j = k
            · subst hjk; rw [← HXX.out, ← HYY.out]
            · exact hall.out j (by omega)
          case measure => simp [intOf]; omega
        · have hne : ((x : Int) == (y : Int)) = false := by simp; omega
          go_wp2_with fail
          refine wp_region_quiet_below (by kernel_rfl) (by kernel_rfl) ?_
          repeat (go_big_quiet_step (fail))
          refine wpQuiet_nil ?_
          intro _ hw'
          obtain ⟨⟨dq, osq⟩, hw''⟩ := hw'
          subst hw''
          have lk := below_regrown wr dq osq
          go_wp2_with fail
          go_ret
          refine ⟨ret_bool ?_, below_next hb lk⟩
          symm
          rw [beq_eq_false_iff_ne]
          intro e
          apply hxy
          rw [HXX.out, HYY.out, e]
      · obtain rfl : k = n := by omega
        go_wp2_with fail
        go_ret
        refine ⟨ret_bool ?_, hb⟩
        symm
        rw [beq_iff_eq]
        exact ext_bt (by rw [HL.out, HM.out]) (fun j hj => hall.out j (by rw [← HL.out]; exact hj))
  · have hne : ((n : Int) == (m : Int)) = false := by simp; omega
    go_enter Tryz.func38, Tryz.ntmps38
    go_wp2_with fail
    go_ret
    refine ⟨ret_bool ?_, Below.refl _ _⟩
    symm
    rw [beq_eq_false_iff_ne]
    intro e
    apply hnm
    rw [← HL.out, ← HM.out, e]

theorem sum_regrown {s : Nat} (hs : s < 4294967296) {ao : Option Addr} {n cap : Nat} {l : List Nat} (hl : l.length = n) (hn : n ≤ 9223372036854775807) {w : World} (ht : Tab w) (hr : Rd w ao l) (d : Nat) (os : Array Obj) :
    Calls Tryz.prog 94 #[.int .u32 (s : Int), .slice ao n cap] (grow (redrawn w d) os) fun e w'' => e = .returned (.int .u32 (sumOf s l : Nat)) ∧ ∃ p : Regrown, w'' = grow (redrawn w p.d) p.os :=
  Calls.regrown_of (same_below (sum_any s hs ao n cap l hl hn _ (ht.below (below_regrown w d os)) (hr.below (below_regrown w d os))))
theorem rsum_regrown {s : Nat} (hs : s < 4294967296) {ao : Option Addr} {n cap : Nat} {l : List Nat} (hl : l.length = n) (hn : n ≤ 9223372036854775807) {w : World} (hr : Rd w ao l) (d : Nat) (os : Array Obj) :
    Calls Tryz.prog 49 #[.int .u32 (s : Int), .slice ao n cap] (grow (redrawn w d) os) fun e w'' => e = .returned (.int .u32 (sumOf s l : Nat)) ∧ ∃ p : Regrown, w'' = grow (redrawn w p.d) p.os :=
  Calls.regrown_of (same_below (rsum_any s hs ao n cap l hl hn _ (hr.below (below_regrown w d os))))

/-- the sum that a frame should have -/
def fsum (l : List Nat) : Nat := sumOf (sumOf 0 ((l.drop 2).take 4)) (l.drop 10)
theorem fsum_lt (l : List Nat) : fsum l < 4294967296 := sumOf_lt _ _

set_option maxHeartbeats 2000000 in
theorem sumof_any (ao : Option Addr) (n cap : Nat) (l : List Nat) (hl : l.length = n) (h10 : 10 ≤ n) (hc : n ≤ cap) (hn : n ≤ 9223372036854775807) (w : World) (ht : Tab w) (hr : Rd w ao l) :
    Calls Tryz.prog 65 #[.slice ao n cap] w fun e w' => e = .returned (.int .u32 (fsum l : Nat)) ∧ Below w.heap.size w w' := by
  obtain ⟨g, o, rfl, _, _⟩ := hr.at_ 0 (by omega)
  have c1 := sum_regrown (cap := cap - 2) (s := 0) (by omega) (n := 4) (by simp; omega) (by omega) ht (hr.off 2 4)
  have C2 := Lib.hid (sum_regrown (cap := cap - 10) (s := sumOf 0 ((l.drop 2).take 4)) (sumOf_lt _ _) (n := n - 10) (l := l.drop 10) (by simp; omega) (by omega) ht (hr.ifr cap 10 (by omega)))
  rw [show ((0 : Nat) : Int) = 0 from rfl] at c1
  have C1 := Lib.hid c1; clear c1
  have HF := Lib.hid (show fsum l = sumOf (sumOf 0 ((l.drop 2).take 4)) (l.drop 10) from rfl)
  clear ht hr hl
  generalize sumOf 0 ((l.drop 2).take 4) = s1 at *
  generalize sumOf s1 (l.drop 10) = s2 at *
  rcases (by omega : (cap = 10 ∧ n = 10) ∨ 10 < cap) with ⟨rfl, rfl⟩ | hcap
  rw [if_pos rfl] at C2
  simp only [Nat.reduceSub] at C1 C2
  clear h10 hc hn
  rotate_left
  rw [if_neg (by omega)] at C2
  all_goals
    go_enter Tryz.func65, Tryz.ntmps65
    go_wp2_with fail
    refine wp_region_quiet_below (by kernel_rfl) (by kernel_rfl) ?_
    go_big_quiet_step (fail)
    go_big_quiet_step (fail)
    go_big_quiet_step (exact C1.out _ _)
    go_big_quiet_step (fail)
    go_big_quiet_step (fail)
    go_big_quiet_step (exact C2.out _ _)
    go_big_quiet_step (fail)
    refine wpQuiet_nil ?_
    intro _ hw'
    obtain ⟨⟨dq, osq⟩, hw''⟩ := hw'
    subst hw''
    have lk := below_regrown w dq osq
    go_wp2_with fail
    go_ret
    exact ⟨ret_int (by rw [HF.out]), lk⟩

end Go.Proofs.YtngcbpgafjnfaaaGreatDoor
