/- NetPlays: the document's net: Take. -/
import Derived.Test.YthanjfnpohhebaaRout
namespace Go.Proofs.Ythanjfnpohhebaa
open Go.RowKit Go.Sort
set_option linter.unusedVariables false
set_option linter.unusedSectionVars false
set_option linter.unusedSimpArgs false
set_option maxRecDepth 100000
section
variable {w w' : World} {B nb lc room last : Nat} {lo : Option Addr} {D : List Pkt} {T : Tr}
/-- what Take ends in -/
def RtakeEnd (w : World) (B nb : Nat) (lo : Option Addr) (D : List Pkt) (room last : Nat) (T : Tr) (k : Nat) (p : Pkt) (e : Ending) (w' : World) : Prop :=
  e = .returned (.tuple #[agv p, .int .i64 0]) ∧ ∃ lo' lc', RnW w' B nb lo' lc' (D.take k ++ D.drop (k + 1)) room last T ∧ Turned (rnB nb lo D) (rnB nb lo' (D.take k ++ D.drop (k + 1))) w w' ∧ Keep [nb] w w'
def RtakeNo (w : World) (e : Ending) (w' : World) : Prop := e = .returned (.tuple #[zpk, .int .i64 72]) ∧ Below w.heap.size w w'
set_option maxHeartbeats 1600000 in
theorem rtake_none (w : World) (id : Nat) (lost : Bool) (h : RnW w B nb lo lc D room last T) (hat : Nowhere D id) :
    Calls Try.prog 23 #[.pointer (some ⟨nb, 0, none⟩), .int .u64 (id : Int), .bool lost] w (RtakeNo w) := by
  have bA := below_alloc (Below.refl w.heap.size w) zobj
  have C := Lib.hid (place_no (h.below bA) hat)
  have B0 := Lib.hid bA
  have q0 := Row4.new w (.int .u64 0) (.int .i64 0) (.int .i64 0) (.slice none 0 0)
  have HS0 := Lib.hid (show w.heap.size < (w.alloc zobj).heap.size by simp)
  have Q0 := Lib.hid q0
  clear h hat bA q0
  go_enter Try.func23, Try.ntmps23
  go_wp2_with fail
  refine C.out.mono ?_; rintro e w1 ⟨rfl, rfl⟩
  obtain ⟨z0, z1, z2, z3, e0, e1, e2, e3, hlz⟩ := Q0.out.all
  generalize w.alloc zobj = w1 at *
  go_wp2_with fail
  refine bodyPost_ret (v := .tuple #[zpk, .int .i64 72]) (results_cell_tmp Try.results23 rfl ?_ rfl) rfl ⟨rfl, B0.out.trans ((lay4_keep w1 w.heap.size (.int .u64 0) (.int .i64 0) (.int .i64 0) (.slice none 0 0)).below (Nat.le_of_lt HS0.out) (by simp))⟩
  go_simp
set_option maxHeartbeats 1600000 in
theorem rtake_lost (w : World) (id : Nat) {k : Nat} {p : Pkt} (h : RnW w B nb lo lc D room last T) (hat : At D id k p) (hT : T.lost < 4611686018427387904) :
    Calls Try.prog 23 #[.pointer (some ⟨nb, 0, none⟩), .int .u64 (id : Int), .bool true] w (RtakeEnd w B nb lo D room last T.addLost k p) := by
  have bA := below_alloc (Below.refl w.heap.size w) zobj
  have hA := h.below bA
  have C := Lib.hid (place_yes hA hat)
  have B0 := Lib.hid bA
  have q0 := Row4.new w (.int .u64 0) (.int .i64 0) (.int .i64 0) (.slice none 0 0)
  have HS0 := Lib.hid (show w.heap.size < (w.alloc zobj).heap.size by simp)
  have Q0 := Lib.hid q0
  have H0 := Lib.hid h; have HA := Lib.hid hA
  have hkl := (List.getElem?_eq_some_iff.1 hat.1).1
  have hfew := h.few
  have hki : ¬ ((k : Int) < 0) := by omega
  have HAT := Lib.hid hat
  have hnl := h.lt
  clear h hat bA q0 hA hfew hkl
  go_enter Try.func23, Try.ntmps23
  go_wp2_with fail
  refine C.out.mono ?_; rintro e w1 ⟨rfl, rfl⟩
  generalize w.alloc zobj = w1 at *
  have HTT := Lib.hid hT
  clear C hT
  go_upto_region 4 with (fail)
  have c3 := HA.out.at_ 7; have f3 := HA.out.fr 7; have hlt := HA.out.lt
  have hT := HTT.out
  simp only [rowR, List.getElem?_toArray, List.getElem?_cons_succ, List.getElem?_cons_zero] at c3
  have hts : (T.lost : Int) + 1 ≤ 4611686018427387904 := by omega
  go_wp2_with fail
  have k2 := Keep.setCell w1 ⟨nb, 7, none⟩ (.int .i64 ((T.lost + 1 : Nat) : Int))
  have h2 := HA.out.setTr 7 (.int .i64 ((T.lost + 1 : Nat) : Int)) T.addLost rfl
  rw [show ((T.lost : Int) + 1) = ((T.lost + 1 : Nat) : Int) by omega]
  obtain ⟨x0, hx0⟩ : ∃ q, q = w.heap.size := ⟨_, rfl⟩
  have q2 : Row4 (w1.setCell ⟨nb, 7, none⟩ (.int .i64 ((T.lost + 1 : Nat) : Int))) x0 (.int .u64 0) (.int .i64 0) (.int .i64 0) (.slice none 0 0) := by rw [hx0]; exact Q0.out.keep k2 (by simp; omega)
  rw [← hx0]
  generalize hw2 : w1.setCell ⟨nb, 7, none⟩ (.int .i64 ((T.lost + 1 : Nat) : Int)) = w2 at *
  clear hw2 c3 f3
  have hk3 : Turned (rnB nb lo D) (rnB nb lo D) w w2 := ⟨(Keep.of_below B0.out _).trans (k2.mono (by simp)), fun q hq => .inl hq⟩
  have HT := Lib.hid hk3
  have HKN := Lib.hid ((Keep.of_below B0.out [nb]).trans k2)
  have HX0 := Lib.hid hx0
  have OUT := Lib.hid (rout_any w2 h2 HAT.out.1)
  have Q2 := Lib.hid q2
  have hx2 : x0 < w2.heap.size := (Array.getElem?_eq_some_iff.1 q2).1
  have HX2 := Lib.hid hx2
  clear hk3 k2 h2 hx0 q2
  obtain ⟨pid, fr, dn, ao, cap, l⟩ := p
  obtain ⟨n, hn⟩ : ∃ n, l.length = n := ⟨_, rfl⟩
  have HAG := Lib.hid (show agv ⟨pid, fr, dn, ao, cap, l⟩ = .agg #[.int .u64 (pid : Int), .int .i64 fr, .int .i64 dn, .slice ao n cap] by rw [← hn])
  clear hn
  refine OUT.out.mono ?_; rintro e w3 ⟨rfl, lo', lc', h3, t3, kn3⟩
  rw [HAG.out]
  have HNB := Lib.hid H0.out.blocks
  have hx0n : x0 ∉ rnB nb lo D := fun hq => by have := (HNB.out x0 hq).2; have := HX0.out; omega
  have q3 := Q2.out.keep t3.keep hx0n
  obtain ⟨z0, z1, z2, z3, e0, e1, e2, e3, hlz⟩ := q3.all
  have H3 := Lib.hid h3; have T3 := Lib.hid t3; have KN3 := Lib.hid (HKN.out.trans kn3)
  clear h3 t3 q3 kn3
  go_wp2_with fail
  have k5 := lay4_keep w3 x0 (.int .u64 (pid : Int)) (.int .i64 fr) (.int .i64 dn) (.slice ao n cap)
  have t2 := HT.out.trans T3.out
  refine bodyPost_ret (v := .tuple #[.agg #[.int .u64 (pid : Int), .int .i64 fr, .int .i64 dn, .slice ao n cap], .int .i64 0]) (results_cell_tmp Try.results23 rfl ?_ rfl) rfl ⟨by rw [HAG.out], lo', lc', H3.out.keep k5 ?_, ⟨?_, t2.new⟩, ?_⟩
  · go_simp
  · intro q hq e
    simp only [List.mem_singleton] at e
    subst e
    rcases T3.out.new _ hq with h1 | h1
    · exact hx0n h1
    · exact absurd HX2.out (by omega)
  · refine ((t2.keep.mono (T := x0 :: rnB nb lo D) (fun q hq => .inl (List.mem_cons_of_mem _ hq))).trans (k5.mono (by simp))).mono (fun q hq => ?_)
    rcases List.mem_cons.1 hq with rfl | hq
    · exact .inr (Nat.le_of_eq HX0.out.symm)
    · exact .inl hq
  · refine ((KN3.out.mono (T := [x0, nb]) (fun q hq => .inl (List.mem_cons_of_mem _ hq))).trans (k5.mono (by simp))).mono (fun q hq => ?_)
    rcases List.mem_cons.1 hq with rfl | hq
    · exact .inr (Nat.le_of_eq HX0.out.symm)
    · exact .inl hq
set_option maxHeartbeats 1600000 in
theorem rtake_yes (w : World) (id : Nat) {k : Nat} {p : Pkt} (h : RnW w B nb lo lc D room last T) (hat : At D id k p) (hT : T.taken < 4611686018427387904) :
    Calls Try.prog 23 #[.pointer (some ⟨nb, 0, none⟩), .int .u64 (id : Int), .bool false] w (RtakeEnd w B nb lo D room last T.addTaken k p) := by
  have bA := below_alloc (Below.refl w.heap.size w) zobj
  have hA := h.below bA
  have C := Lib.hid (place_yes hA hat)
  have B0 := Lib.hid bA
  have q0 := Row4.new w (.int .u64 0) (.int .i64 0) (.int .i64 0) (.slice none 0 0)
  have HS0 := Lib.hid (show w.heap.size < (w.alloc zobj).heap.size by simp)
  have Q0 := Lib.hid q0
  have H0 := Lib.hid h; have HA := Lib.hid hA
  have hkl := (List.getElem?_eq_some_iff.1 hat.1).1
  have hfew := h.few
  have hki : ¬ ((k : Int) < 0) := by omega
  have HAT := Lib.hid hat
  have hnl := h.lt
  clear h hat bA q0 hA hfew hkl
  go_enter Try.func23, Try.ntmps23
  go_wp2_with fail
  refine C.out.mono ?_; rintro e w1 ⟨rfl, rfl⟩
  generalize w.alloc zobj = w1 at *
  have HTT := Lib.hid hT
  clear C hT
  go_upto_region 4 with (fail)
  have c3 := HA.out.at_ 6; have f3 := HA.out.fr 6; have hlt := HA.out.lt
  have hT := HTT.out
  simp only [rowR, List.getElem?_toArray, List.getElem?_cons_succ, List.getElem?_cons_zero] at c3
  have hts : (T.taken : Int) + 1 ≤ 4611686018427387904 := by omega
  go_wp2_with fail
  have k2 := Keep.setCell w1 ⟨nb, 6, none⟩ (.int .i64 ((T.taken + 1 : Nat) : Int))
  have h2 := HA.out.setTr 6 (.int .i64 ((T.taken + 1 : Nat) : Int)) T.addTaken rfl
  rw [show ((T.taken : Int) + 1) = ((T.taken + 1 : Nat) : Int) by omega]
  obtain ⟨x0, hx0⟩ : ∃ q, q = w.heap.size := ⟨_, rfl⟩
  have q2 : Row4 (w1.setCell ⟨nb, 6, none⟩ (.int .i64 ((T.taken + 1 : Nat) : Int))) x0 (.int .u64 0) (.int .i64 0) (.int .i64 0) (.slice none 0 0) := by rw [hx0]; exact Q0.out.keep k2 (by simp; omega)
  rw [← hx0]
  generalize hw2 : w1.setCell ⟨nb, 6, none⟩ (.int .i64 ((T.taken + 1 : Nat) : Int)) = w2 at *
  clear hw2 c3 f3
  have hk3 : Turned (rnB nb lo D) (rnB nb lo D) w w2 := ⟨(Keep.of_below B0.out _).trans (k2.mono (by simp)), fun q hq => .inl hq⟩
  have HT := Lib.hid hk3
  have HKN := Lib.hid ((Keep.of_below B0.out [nb]).trans k2)
  have HX0 := Lib.hid hx0
  have OUT := Lib.hid (rout_any w2 h2 HAT.out.1)
  have Q2 := Lib.hid q2
  have hx2 : x0 < w2.heap.size := (Array.getElem?_eq_some_iff.1 q2).1
  have HX2 := Lib.hid hx2
  clear hk3 k2 h2 hx0 q2
  obtain ⟨pid, fr, dn, ao, cap, l⟩ := p
  obtain ⟨n, hn⟩ : ∃ n, l.length = n := ⟨_, rfl⟩
  have HAG := Lib.hid (show agv ⟨pid, fr, dn, ao, cap, l⟩ = .agg #[.int .u64 (pid : Int), .int .i64 fr, .int .i64 dn, .slice ao n cap] by rw [← hn])
  clear hn
  refine OUT.out.mono ?_; rintro e w3 ⟨rfl, lo', lc', h3, t3, kn3⟩
  rw [HAG.out]
  have HNB := Lib.hid H0.out.blocks
  have hx0n : x0 ∉ rnB nb lo D := fun hq => by have := (HNB.out x0 hq).2; have := HX0.out; omega
  have q3 := Q2.out.keep t3.keep hx0n
  obtain ⟨z0, z1, z2, z3, e0, e1, e2, e3, hlz⟩ := q3.all
  have H3 := Lib.hid h3; have T3 := Lib.hid t3; have KN3 := Lib.hid (HKN.out.trans kn3)
  clear h3 t3 q3 kn3
  go_wp2_with fail
  have k5 := lay4_keep w3 x0 (.int .u64 (pid : Int)) (.int .i64 fr) (.int .i64 dn) (.slice ao n cap)
  have t2 := HT.out.trans T3.out
  refine bodyPost_ret (v := .tuple #[.agg #[.int .u64 (pid : Int), .int .i64 fr, .int .i64 dn, .slice ao n cap], .int .i64 0]) (results_cell_tmp Try.results23 rfl ?_ rfl) rfl ⟨by rw [HAG.out], lo', lc', H3.out.keep k5 ?_, ⟨?_, t2.new⟩, ?_⟩
  · go_simp
  · intro q hq e
    simp only [List.mem_singleton] at e
    subst e
    rcases T3.out.new _ hq with h1 | h1
    · exact hx0n h1
    · exact absurd HX2.out (by omega)
  · refine ((t2.keep.mono (T := x0 :: rnB nb lo D) (fun q hq => .inl (List.mem_cons_of_mem _ hq))).trans (k5.mono (by simp))).mono (fun q hq => ?_)
    rcases List.mem_cons.1 hq with rfl | hq
    · exact .inr (Nat.le_of_eq HX0.out.symm)
    · exact .inl hq
  · refine ((KN3.out.mono (T := [x0, nb]) (fun q hq => .inl (List.mem_cons_of_mem _ hq))).trans (k5.mono (by simp))).mono (fun q hq => ?_)
    rcases List.mem_cons.1 hq with rfl | hq
    · exact .inr (Nat.le_of_eq HX0.out.symm)
    · exact .inl hq
end
end Go.Proofs.Ythanjfnpohhebaa
