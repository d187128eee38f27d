/- NetPlays: the document's net: Send, Twice. -/
import Derived.Test.YthanjfnpohhebaaRadd
import Derived.StillTailTactics
namespace Go.Proofs.Ythanjfnpohhebaa
open Go.RowKit Go.Sort
set_option linter.unusedVariables false
set_option linter.unusedSectionVars false
set_option linter.unusedSimpArgs false
set_option maxRecDepth 100000
section
variable {w w' : World} {B nb lc room last : Nat} {lo : Option Addr} {D : List Pkt} {T : Tr}
/-- what Send and Twice end in, where a packet is made -/
def RmoreEnd (w : World) (B nb : Nat) (lo : Option Addr) (D : List Pkt) (room : Nat) (T : Tr) (M : Nat) (fr dn : Int) (l : List Nat) (e : Ending) (w' : World) : Prop :=
  e = .returned (.tuple #[.int .u64 (M : Int), .int .i64 0]) ∧ ∃ ao' cap' lo' lc', RnW w' B nb lo' lc' (D ++ [⟨M, fr, dn, ao', cap', l⟩]) room M T ∧ Turned (rnB nb lo D) (rnB nb lo' (D ++ [⟨M, fr, dn, ao', cap', l⟩])) w w'
def FaultEnd (w : World) (x : Int) (e : Ending) (w' : World) : Prop := e = .returned (.tuple #[.int .u64 0, .int .i64 x]) ∧ Below w.heap.size w w'
set_option maxHeartbeats 400000 in
theorem rsend_long (w : World) (v : Value) (fr dn : Int) (ao : Option Addr) (n cap : Nat) (hn0 : 65546 < n) (hcap : n ≤ 140737488355328) : Calls Try.prog 22 #[v, .int .i64 fr, .int .i64 dn, .slice ao n cap] w (FaultEnd w 73) := by
  go_enter Try.func22, Try.ntmps22
  go_wp2_with fail
  go_ret2
  exact ⟨rfl, Below.refl _ _⟩
set_option maxHeartbeats 800000 in
theorem rsend_full (w : World) (fr dn : Int) (ao : Option Addr) (n cap : Nat) (hl : n ≤ 65546) (h : RnW w B nb lo lc D room last T) (hf : D.length = room) :
    Calls Try.prog 22 #[.pointer (some ⟨nb, 0, none⟩), .int .i64 fr, .int .i64 dn, .slice ao n cap] w (FaultEnd w 71) := by
  have c0 := h.at_ 0; have c2 := h.at_ 2
  simp only [rowR, List.getElem?_toArray, List.getElem?_cons_succ, List.getElem?_cons_zero] at c0 c2
  rw [hf] at c2
  have e0 : ((room : Int) == (room : Int)) = true := by simp
  clear h hf
  go_enter Try.func22, Try.ntmps22
  go_wp2_with fail
  go_quiet (fail)
  have b1 := below_drewN (Below.refl w.heap.size w) nq
  clear c0 c2
  generalize w.drewN nq = w1 at *
  go_wp2_with fail
  go_ret2
  exact ⟨rfl, b1⟩
set_option maxHeartbeats 1600000 in
theorem rsend_yes (w : World) (fr dn : Int) {ao : Option Addr} {cap n M : Nat} {l : List Nat} (hr : Rd w ao l) (hln : l.length = n) (hl : n ≤ 65546) (hf : D.length < room) (hrm : room ≤ 4096) (hM : M = last + 1) (hm : M < 18446744073709551616) (h : RnW w B nb lo lc D room last T) (hao : l ≠ [] → ∀ g ∈ blk ao, g ≠ nb) (hT : T.sent < 4611686018427387904) :
    Calls Try.prog 22 #[.pointer (some ⟨nb, 0, none⟩), .int .i64 fr, .int .i64 dn, .slice ao n cap] w (RmoreEnd w B nb lo D room T.addSent M fr dn l) := by
  have c0 := h.at_ 0; have c2 := h.at_ 2
  simp only [rowR, List.getElem?_toArray, List.getElem?_cons_succ, List.getElem?_cons_zero] at c0 c2
  have H := Lib.hid h; have HR := Lib.hid hr; have HA := Lib.hid hao
  have hf2 : D.length < 4096 := by omega
  have HF := Lib.hid hf2
  obtain ⟨m, hm2⟩ : ∃ m, D.length = m := ⟨_, rfl⟩
  rw [hm2] at c2 hf hf2
  have e0 : ((m : Int) == (room : Int)) = false := by simp; omega
  clear h hr hao hm2
  go_enter Try.func22, Try.ntmps22
  go_wp2_with fail
  go_quiet (fail)
  have b1 := below_drewN (Below.refl w.heap.size w) nq
  have H1 := Lib.hid (H.out.below b1)
  have R1 := Lib.hid (HR.out.below b1)
  have B1 := Lib.hid b1
  clear c0 c2 b1 e0
  generalize w.drewN nq = w1 at *
  have c3 := H1.out.at_ 3; have f3 := H1.out.fr 3; have hlt := H1.out.lt
  simp only [rowR, List.getElem?_toArray, List.getElem?_cons_succ, List.getElem?_cons_zero] at c3
  have hts : (T.sent : Int) + 1 ≤ 4611686018427387904 := by omega
  go_wp2_with fail
  have k2 := Keep.setCell w1 ⟨nb, 3, none⟩ (.int .i64 ((T.sent + 1 : Nat) : Int))
  have h2 := H1.out.setTr 3 (.int .i64 ((T.sent + 1 : Nat) : Int)) T.addSent rfl
  rw [show ((T.sent : Int) + 1) = ((T.sent + 1 : Nat) : Int) by omega]
  have hr2 := R1.out.keepE k2 (by simpa using HA.out)
  generalize hw2 : w1.setCell ⟨nb, 3, none⟩ (.int .i64 ((T.sent + 1 : Nat) : Int)) = w2 at *
  clear hw2 c3 f3
  have hk : Turned (rnB nb lo D) (rnB nb lo D) w w2 := ⟨(Keep.of_below B1.out _).trans (k2.mono (by simp)), fun q hq => .inl hq⟩
  have HT := Lib.hid hk
  have AD := Lib.hid (radd_any w2 fr dn (xc := cap) hr2 hln hl HF.out hM hm h2 HA.out)
  clear hr2 h2 hk k2 hM
  go_wp2_with fail
  refine AD.out.mono ?_; rintro e w3 ⟨rfl, ao', cap', lo', lc', h3, t3⟩
  have H3 := Lib.hid h3; have T3 := Lib.hid t3
  clear h3 t3
  go_wp2_with fail
  go_ret2
  exact ⟨rfl, ao', cap', lo', lc', H3.out, HT.out.trans T3.out⟩

set_option maxHeartbeats 800000 in
theorem rtwice_none (w : World) (id : Nat) (h : RnW w B nb lo lc D room last T) (hat : Nowhere D id) :
    Calls Try.prog 26 #[.pointer (some ⟨nb, 0, none⟩), .int .u64 (id : Int)] w (FaultEnd w 72) := by
  have C := Lib.hid (place_no h hat)
  clear h hat
  go_enter Try.func26, Try.ntmps26
  go_wp2_with fail
  refine C.out.mono ?_; rintro e w1 ⟨rfl, rfl⟩
  go_wp2_with fail
  go_ret2
  exact ⟨rfl, Below.refl _ _⟩
set_option maxHeartbeats 800000 in
theorem rtwice_full (w : World) (id : Nat) (h : RnW w B nb lo lc D room last T) {k : Nat} {p : Pkt} (hat : At D id k p) (hf : D.length = room) :
    Calls Try.prog 26 #[.pointer (some ⟨nb, 0, none⟩), .int .u64 (id : Int)] w (FaultEnd w 71) := by
  have C := Lib.hid (place_yes h hat)
  have c0 := h.at_ 0; have c2 := h.at_ 2
  simp only [rowR, List.getElem?_toArray, List.getElem?_cons_succ, List.getElem?_cons_zero] at c0 c2
  rw [hf] at c2
  have e0 : ((room : Int) == (room : Int)) = true := by simp
  have hk : k < room := by rw [← hf]; exact (List.getElem?_eq_some_iff.1 hat.1).1
  have hki : ¬ ((k : Int) < 0) := by omega
  clear h hat hf
  go_enter Try.func26, Try.ntmps26
  go_wp2_with fail
  refine C.out.mono ?_; rintro e w1 ⟨rfl, rfl⟩
  go_wp2_with fail
  go_quiet (fail)
  have b1 := below_drewN (Below.refl w.heap.size w) nq
  clear c0 c2 C
  generalize w.drewN nq = w1 at *
  go_wp2_with fail
  go_ret2
  exact ⟨rfl, b1⟩
set_option maxHeartbeats 1600000 in
theorem rtwice_yes (w : World) (id : Nat) {k M : Nat} {p : Pkt} (hat : At D id k p) (hf : D.length < room) (hrm : room ≤ 4096) (hM : M = last + 1) (hm : M < 18446744073709551616) (h : RnW w B nb lo lc D room last T) (hT : T.twice < 4611686018427387904) :
    Calls Try.prog 26 #[.pointer (some ⟨nb, 0, none⟩), .int .u64 (id : Int)] w (RmoreEnd w B nb lo D room T.addTwice M p.fr p.to p.data) := by
  have C := Lib.hid (place_yes h hat)
  have c0 := h.at_ 0; have c2 := h.at_ 2
  simp only [rowR, List.getElem?_toArray, List.getElem?_cons_succ, List.getElem?_cons_zero] at c0 c2
  have H := Lib.hid h
  have hf2 : D.length < 4096 := by omega
  have HF := Lib.hid hf2
  have HAT := Lib.hid hat
  obtain ⟨m, hm2⟩ : ∃ m, D.length = m := ⟨_, rfl⟩
  have HM2 := Lib.hid hm2
  rw [hm2] at c2 hf hf2
  have e0 : ((m : Int) == (room : Int)) = false := by simp; omega
  have hk : k < m := by rw [← hm2]; exact (List.getElem?_eq_some_iff.1 hat.1).1
  have hki : ¬ ((k : Int) < 0) := by omega
  clear h hat hm2
  go_enter Try.func26, Try.ntmps26
  go_wp2_with fail
  refine C.out.mono ?_; rintro e w1 ⟨rfl, rfl⟩
  go_wp2_with fail
  go_quiet (fail)
  have b1 := below_drewN (Below.refl w.heap.size w) nq
  have H1 := Lib.hid (H.out.below b1)
  have B1 := Lib.hid b1
  clear c0 c2 b1 e0 C
  generalize w.drewN nq = w1 at *
  have c4 := H1.out.at_ 4; have f4 := H1.out.fr 4; have hlt := H1.out.lt
  simp only [rowR, List.getElem?_toArray, List.getElem?_cons_succ, List.getElem?_cons_zero] at c4
  have hts : (T.twice : Int) + 1 ≤ 4611686018427387904 := by omega
  go_wp2_with fail
  have k2 := Keep.setCell w1 ⟨nb, 4, none⟩ (.int .i64 ((T.twice + 1 : Nat) : Int))
  have h2 := H1.out.setTr 4 (.int .i64 ((T.twice + 1 : Nat) : Int)) T.addTwice rfl
  rw [show ((T.twice : Int) + 1) = ((T.twice + 1 : Nat) : Int) by omega]
  generalize hw2 : w1.setCell ⟨nb, 4, none⟩ (.int .i64 ((T.twice + 1 : Nat) : Int)) = w2 at *
  clear hw2 c4 f4
  have hk3 : Turned (rnB nb lo D) (rnB nb lo D) w w2 := ⟨(Keep.of_below B1.out _).trans (k2.mono (by simp)), fun q hq => .inl hq⟩
  have HT := Lib.hid hk3
  have H2 := Lib.hid h2
  clear hk3 k2
  obtain ⟨g, rfl, hg, hc⟩ := h2.pkt HAT.out.1
  have c2 := h2.at_ 2
  simp only [rowR, List.getElem?_toArray, List.getElem?_cons_succ, List.getElem?_cons_zero] at c2
  rw [HM2.out] at c2
  have d1 := hc 1 (by omega); have d2 := hc 2 (by omega); have d3 := hc 3 (by omega)
  simp only [List.getElem?_cons_succ, List.getElem?_cons_zero] at d1 d2 d3
  obtain ⟨n, hn⟩ : ∃ n, p.data.length = n := ⟨_, rfl⟩
  have hp := List.mem_of_getElem? HAT.out.1
  have hl : n ≤ 65546 := by rw [← hn]; exact H.out.lens p hp
  have hpo := h2.pk.own p hp
  have hpn : ∀ g ∈ blk p.ao, g ≠ nb := fun g hg e => h2.n2 (e ▸ bs_mem.2 ⟨p, hp, hg⟩)
  rw [show p.sl = .slice p.ao n p.cap by rw [← hn]] at d3
  have hki0 : (0 : Int) ≤ (k : Int) := by omega
  have hkim : (k : Int) < (m : Int) := by omega
  have AD := Lib.hid (fun (b : Below w2.heap.size w2 w2.drew) => radd_any w2.drew p.fr p.to (xc := p.cap) (hpo.rd.below b) hn hl HF.out hM hm (h2.below b) (fun _ => hpn))
  clear h2 hc hpo hpn hp hn hM
  obtain ⟨pid, fr, dn, ao, cap, l⟩ := p
  simp only at d1 d2 d3 AD ⊢
  go_still_tail 25, (by kernel_rfl)
  change wpList _ _ _ _ _ w2.drew
  go_wp2_with fail
  refine (AD.out (Below.refl _ _).drew).mono ?_; rintro e w3 ⟨rfl, ao', cap', lo', lc', h3, t3⟩
  have H3 := Lib.hid h3; have T3 := Lib.hid t3
  clear h3 t3
  go_wp2_with fail
  go_ret2
  exact ⟨rfl, ao', cap', lo', lc', H3.out, (HT.out.trans (Turned.of_below _ (Below.refl _ _).drew)).trans T3.out⟩
end
end Go.Proofs.Ythanjfnpohhebaa
