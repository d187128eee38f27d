/- The document's detector: its state; Time, Silent, Wait, Bad, Place. -/
import Derived.Test.YtlfnkplgjlpaaaaAwake
import Derived.Test.YtlfnkplgjlpaaaaArg
import Derived.Test.YtlfnkplgjlpaaaaOwn2
namespace Go.Proofs.Ytlfnkplgjlpaaaa
open Go.RowKit Go.Sort
set_option linter.unusedVariables false

abbrev c5 (n : Nd) : List Value := [.int .i64 n.id, .int .i64 (n.last : Int), .int .i64 (n.mean : Int), .int .i64 (n.margin : Int), .bool n.bad]
theorem c5_len (n : Nd) : (c5 n).length = 5 := rfl
abbrev pgv (n : Nd) : Value := .agg #[.int .i64 n.id, .int .i64 (n.last : Int), .int .i64 (n.mean : Int), .int .i64 (n.margin : Int), .bool n.bad]
abbrev pobj (n : Nd) : Obj := .cells #[.int .i64 n.id, .int .i64 (n.last : Int), .int .i64 (n.mean : Int), .int .i64 (n.margin : Int), .bool n.bad] 71
structure RfW (w : World) (B hb : Nat) (ao : Option Addr) (cap : Nat) (S : List Nd) (guess : Nat) : Prop where
  row : w.heap[hb]? = some (.cells #[.int .i64 (guess : Int), .slice ao S.length cap] 32 (0, 0))
  own : w.ownsRow B 71 5 (.slice ao S.length cap) S.length (fl c5 S)
  base : B ≤ hb
  apart : hb ∉ blk ao
  inc : Inc S
  ok : ∀ n ∈ S, n.Ok
  few : S.length ≤ 12
  g : 1 ≤ guess ∧ guess ≤ 4096
def Rf (w : World) (B hb : Nat) (Bs : List Nat) (S : List Nd) (guess : Nat) : Prop := ∃ ao cap, Bs = hb :: blk ao ∧ RfW w B hb ao cap S guess
section
variable {w w' : World} {B hb cap guess : Nat} {ao : Option Addr} {S : List Nd} {Bs : List Nat}
theorem RfW.hlt (h : RfW w B hb ao cap S guess) : hb < w.heap.size := (Array.getElem?_eq_some_iff.1 h.row).1
theorem RfW.at0 (h : RfW w B hb ao cap S guess) : w.cell? ⟨hb, 0, none⟩ = some (.int .i64 (guess : Int)) := cell_of_row w hb 0 _ _ (0, 0) h.row
theorem RfW.at1 (h : RfW w B hb ao cap S guess) : w.cell? ⟨hb, 1, none⟩ = some (.slice ao S.length cap) := cell_of_row w hb 1 _ _ (0, 0) h.row
theorem RfW.fr (h : RfW w B hb ao cap S guess) (i : Nat) : w.frozen? ⟨hb, i, none⟩ = false := frozen_of_row w hb i _ _ h.row
theorem RfW.blocks (h : RfW w B hb ao cap S guess) : ∀ q ∈ hb :: blk ao, B ≤ q ∧ q < w.heap.size := by
  intro q hq
  rcases List.mem_cons.1 hq with rfl | hq
  · exact ⟨h.base, h.hlt⟩
  · exact owns_blk h.own q hq
theorem RfW.keep {U : List Nat} (h : RfW w B hb ao cap S guess) (k : Keep U w w') (hU : ∀ q ∈ hb :: blk ao, q ∉ U) : RfW w' B hb ao cap S guess :=
  ⟨(k.block hb h.hlt (hU hb (by simp))).trans h.row, owns_keep h.own k (blk_own _ _ _ fun g hg => hU g (by simp [hg])), h.base, h.apart, h.inc, h.ok, h.few, h.g⟩
theorem RfW.below (h : RfW w B hb ao cap S guess) (b : Below w.heap.size w w') : RfW w' B hb ao cap S guess := h.keep (Keep.of_below b []) (by simp)
theorem Rf.blocks (h : Rf w B hb Bs S guess) : ∀ q ∈ Bs, B ≤ q ∧ q < w.heap.size := by
  obtain ⟨ao, cap, rfl, h⟩ := h
  exact h.blocks
theorem Rf.keep {U : List Nat} (h : Rf w B hb Bs S guess) (k : Keep U w w') (hU : ∀ q ∈ Bs, q ∉ U) : Rf w' B hb Bs S guess := by
  obtain ⟨ao, cap, rfl, h⟩ := h
  exact ⟨ao, cap, rfl, h.keep k hU⟩
theorem Rf.below (h : Rf w B hb Bs S guess) (b : Below w.heap.size w w') : Rf w' B hb Bs S guess := h.keep (Keep.of_below b []) (by simp)
/-- node j -/
theorem RfW.node (h : RfW w B hb ao cap S guess) {j : Nat} {n : Nd} (hj : S[j]? = some n) : ∃ g, ao = some ⟨g, 0, none⟩ ∧ g < w.heap.size ∧ B ≤ g ∧ ∀ i v, (c5 n)[i]? = some v → w.cell? ⟨g, j * 5 + i, none⟩ = some v ∧ w.frozen? ⟨g, j * 5 + i, none⟩ = false := by
  have hjl := (List.getElem?_eq_some_iff.1 hj).1
  have ho := h.own
  rcases ho.2 with ⟨h2, h3⟩ | ⟨g, cap', cur, h2, hb, hg, h3, h4, h5, h6⟩
  · omega
  · cases h2
    refine ⟨g, rfl, (Array.getElem?_eq_some_iff.1 hg).1, hb, fun i v hv => ⟨?_, frozen_of_row w g _ cur _ hg⟩⟩
    have hi : i < 5 := (List.getElem?_eq_some_iff.1 hv).1
    rw [cell_of_row w g _ cur _ (0, 0) hg]
    have := congrArg (·[j * 5 + i]?) h6
    simp only [List.getElem?_take] at this
    rw [if_pos (by omega), Array.getElem?_toList, fl_at c5_len S j i hi, hj] at this
    rw [this]
    exact hv

set_option maxHeartbeats 400000 in
theorem rtime_any (now : Int) (w : World) : Calls Try.prog 45 #[.int .i64 now] w fun e w' => e = .returned (.bool (isT now)) ∧ w' = w := by
  unfold isT
  by_cases h : 0 ≤ now
  · have e1 : decide (0 ≤ now) = true := by simpa using h
    rw [e1, Bool.true_and]
    go_enter Try.func45, Try.ntmps45
    go_wp2_with fail
    go_ret
    exact ⟨rfl, rfl⟩
  · have e1 : decide (0 ≤ now) = false := by simpa using h
    rw [e1, Bool.false_and]
    go_enter Try.func45, Try.ntmps45
    go_wp2_with fail
    go_ret
    exact ⟨rfl, rfl⟩
set_option maxRecDepth 10000 in
set_option maxHeartbeats 800000 in
theorem rsilent_any (n : Nd) (h : n.Ok) {now : Nat} (hn : now ≤ 1099511627776) (w : World) : Calls Try.prog 47 #[pgv n, .int .i64 (now : Int)] w fun e w' => e = .returned (.int .i64 (n.sil now : Int)) ∧ Below w.heap.size w w' := by
  obtain ⟨id, last, mean, marg, bad⟩ := n
  obtain ⟨h1, h2, h3, h4, h5⟩ := h
  simp only at h1 h2 h3 h4 h5
  go_enter Try.func47, Try.ntmps47
  go_wp2_with fail
  all_goals (go_ret; refine ⟨ret_int ?_, below_alloc (Below.refl _ _) _⟩; simp only [Nd.sil]; omega)
set_option maxRecDepth 10000 in
set_option maxHeartbeats 800000 in
theorem rwait_any (n : Nd) (h : n.Ok) (w : World) : Calls Try.prog 31 #[pgv n] w fun e w' => e = .returned (.int .i64 (n.wait : Int)) ∧ Below w.heap.size w w' := by
  obtain ⟨id, last, mean, marg, bad⟩ := n
  obtain ⟨h1, h2, h3, h4, h5⟩ := h
  simp only at h1 h2 h3 h4 h5
  have hq : (mean : Int).tdiv 8 = (mean : Int) / 8 := Int.tdiv_eq_ediv_of_nonneg (by omega)
  have hq2 : 0 ≤ (mean : Int) / 8 ∧ (mean : Int) / 8 ≤ 4096 := by omega
  go_enter Try.func31, Try.ntmps31
  go_wp2_with fail
  all_goals (go_ret; refine ⟨ret_int ?_, below_alloc (Below.refl _ _) _⟩; simp only [Nd.wait]; omega)
set_option maxRecDepth 10000 in
set_option maxHeartbeats 1600000 in
theorem rbad_any (n : Nd) (h : n.Ok) {now : Nat} (hn : now ≤ 1099511627776) (w : World) : Calls Try.prog 48 #[pgv n, .int .i64 (now : Int)] w fun e w' => e = .returned (.bool (n.susp now)) ∧ Below w.heap.size w w' := by
  have C1 := Lib.hid (show Ret _ _ _ from fun w => rsilent_any n h hn w)
  have C2 := Lib.hid (show Ret _ _ _ from fun w => rwait_any n h w)
  unfold Nd.susp
  generalize n.wait = wt at *
  generalize n.sil now = sl at *
  have hW : Below w.heap.size w (w.alloc (pobj n)) := below_alloc (Below.refl _ _) _
  have k := fun i => cell_of_row _ _ i _ _ (0, 0) (heap_alloc_new w (pobj n))
  have k0 := k 0; have k1 := k 1; have k2 := k 2; have k3 := k 3; have k4 := k 4
  simp only [List.getElem?_toArray, List.getElem?_cons_zero, List.getElem?_cons_succ] at k0 k1 k2 k3 k4
  clear k
  obtain ⟨id, last, mean, marg, bad⟩ := n
  go_enter Try.func48, Try.ntmps48
  go_wp2_with fail
  simp only [pobj] at k0 k1 k2 k3 k4 hW
  generalize w.alloc (.cells #[.int .i64 id, .int .i64 (last : Int), .int .i64 (mean : Int), .int .i64 (marg : Int), .bool bad] 71) = W at *
  have k0 := cell_regrown k0
  have k1 := cell_regrown k1
  have k2 := cell_regrown k2
  have k3 := cell_regrown k3
  have k4 := cell_regrown k4
  refine wp_region_quiet_below (by kernel_rfl) (by kernel_rfl) ?_
  repeat (go_big_quiet_step (first | exact C1.out.re _ _ _ | exact C2.out.re _ _ _))
  refine wpQuiet_nil ?_
  intro _ hw'
  obtain ⟨⟨dq, osq⟩, hw''⟩ := hw'
  subst hw''
  have lk := below_regrown W dq osq
  go_wp2_with fail
  go_ret
  exact ⟨rfl, below_next hW lk⟩
/-- where a node stands -/
def Stands (S : List Nd) (id x : Int) : Prop := (x = -1 ∧ look S id = none) ∨ ∃ (j : Nat) (n : Nd), x = (j : Int) ∧ S[j]? = some n ∧ n.id = id ∧ look S id = some n
set_option maxRecDepth 10000 in
set_option maxHeartbeats 2000000 in
theorem rplace_any (id : Int) (w : World) (h : RfW w B hb ao cap S guess) : Calls Try.prog 46 #[.pointer (some ⟨hb, 0, none⟩), .int .i64 id] w fun e w' => ∃ x, e = .returned (.int .i64 x) ∧ Stands S id x ∧ w' = w := by
  have H := Lib.hid h
  have c1 := h.at1
  have hfew := h.few
  obtain ⟨m, hm⟩ : ∃ m, S.length = m := ⟨_, rfl⟩
  rw [hm] at c1 hfew
  have HM := Lib.hid hm
  have hmi : (m : Int) ≤ 12 := by omega
  clear h hm hfew
  go_enter Try.func46, Try.ntmps46
  go_wp2_with fail
  go_loopw [5] (fun v5 wr => ∃ k : Nat, v5 = .int .i64 (k : Int) ∧ k ≤ m ∧ (∀ n ∈ S.take k, n.id ≠ id) ∧ wr = w) (fun v5 _ => m - (intOf v5).toNat)
  case atStart => exact ⟨0, rfl, by omega, by simp, rfl⟩
  case round =>
    obtain ⟨k, rfl, hk, hno, rfl⟩ := hrel
    by_cases hlt : k < m
    · obtain ⟨n, hn⟩ : ∃ n, S[k]? = some n := ⟨_, List.getElem?_eq_getElem (by rw [HM.out]; exact hlt)⟩
      obtain ⟨g, rfl, hg, hgB, hcell⟩ := H.out.node hn
      have d0 := (hcell 0 _ rfl).1
      rw [Nat.add_zero] at d0
      have HLK := Lib.hid (H.out.inc.look (List.mem_of_getElem? hn))
      have HNX := Lib.hid (take_next hn)
      have HN := Lib.hid hn
      have HNO := Lib.hid hno
      have hki : (0 : Int) ≤ (k : Int) := by omega
      have hki2 : (k : Int) < (m : Int) := by omega
      clear hcell hn hno
      obtain ⟨nid, hnid⟩ : ∃ nid, n.id = nid := ⟨_, rfl⟩
      have HNI := Lib.hid hnid
      rw [hnid] at d0
      clear hnid
      by_cases he : nid = id
      · have he2 : (nid == id) = true := by simpa using he
        have HE := Lib.hid he
        clear he
        go_wp2_with fail
        go_ret
        refine ⟨_, rfl, .inr ⟨k, n, rfl, HN.out, HNI.out.trans HE.out, ?_⟩, rfl⟩
        have := HLK.out
        rwa [HNI.out, HE.out] at this
      · have he2 : (nid == id) = false := by simpa using he
        have HE := Lib.hid he
        clear he
        go_wp2_with fail
        go_roundw
        case rel =>
          refine ⟨k + 1, by go_num, by omega, ?_, trivial⟩
          rw [HNX.out]
          intro x hx
          rcases List.mem_append.1 hx with hx | hx
          · exact HNO.out x hx
          · rw [List.mem_singleton] at hx
            rw [hx, HNI.out]; exact HE.out
        case measure => simp [intOf]; omega
    · obtain rfl : k = m := by omega
      have hnone : look S id = none := by
        rw [← HM.out, List.take_length] at hno
        unfold look
        rw [List.find?_eq_none]
        intro x hx
        simpa using hno x hx
      have HNN := Lib.hid hnone
      clear hno hnone
      go_wp2_with fail
      go_ret
      exact ⟨_, rfl, .inl ⟨rfl, HNN.out⟩, rfl⟩
end
end Go.Proofs.Ytlfnkplgjlpaaaa
