/- Lose, Twice. -/
import Derived.Test.YthanjfnpohhebaaMeth3
namespace Go.Proofs.Ythanjfnpohhebaa
open Go.RowKit Go.Sort
set_option linter.unusedVariables false

section
variable {B hn gm : Nat} {S : List Pkt} {room made : Nat} {T : Tr} {Bs : List Nat}
set_option maxRecDepth 100000 in
set_option maxHeartbeats 1600000 in
theorem lose_in (w : World) (id : Nat) (hid : id < 18446744073709551616) (h : Net w B hn Bs S room made T) {p : Pkt} (hl : look S id = some p) (hT : T.lost < 4611686018427387904) :
    Calls Try.prog 36 #[.pointer (some ⟨hn, 0, none⟩), .int .u64 (id : Int)] w fun e w' => e = .returned (.tuple #[]) ∧ Gone w w' B hn Bs S id p room made T.addLost := by
  obtain ⟨gm, rfl, h2⟩ := h
  have c2 := h2.at_ 2
  simp only [rowN, List.getElem?_toArray, List.getElem?_cons_succ, List.getElem?_cons_zero] at c2
  have hltn := h2.hlt
  obtain ⟨w3, hr, hm3, k3⟩ := h2.delMap hid hl 0
  have h3 := h2.del hl hm3 k3
  have c7 := h3.at_ 7; have f7 := h3.fr 7; have hltn3 := h3.hlt
  simp only [rowN, List.getElem?_toArray, List.getElem?_cons_succ, List.getElem?_cons_zero] at c7
  have hts : (T.lost : Int) + 1 ≤ 4611686018427387904 := by omega
  have HD := Lib.hid hr
  have HW2 := Lib.hid h2; have HW3 := Lib.hid h3; have K3 := Lib.hid k3; have HK := Lib.hid hl
  clear h2 h3 hm3 k3 hr hl
  go_enter Try.func36, Try.ntmps36
  go_wp2_with (at_delete; refine wpList_del rfl (.tmp 7) (.tmp 8) rfl rfl rfl HD.out ?_)
  rw [show ((T.lost : Int) + 1) = ((T.lost + 1 : Nat) : Int) by omega]
  go_end0
  have h4 := HW3.out.setTr 7 (.int .i64 ((T.lost + 1 : Nat) : Int)) T.addLost rfl
  have k4 := Keep.setCell w3 ⟨hn, 7, none⟩ (.int .i64 ((T.lost + 1 : Nat) : Int))
  refine ⟨rfl, _, ⟨gm, rfl, h4⟩, (K3.out.mono (by simp)).trans (k4.mono (by simp)), fun q hq => ?_, fun g hg hm => ?_⟩
  · simp only [List.mem_cons] at hq ⊢
    rcases hq with h | h | h
    · exact .inl h
    · exact .inr (.inl h)
    · exact .inr (.inr (bs_wo q h))
  · have hp := look_some HK.out
    simp only [List.mem_cons] at hm
    rcases hm with rfl | rfl | hm
    · exact HW2.out.nh (bs_mem.2 ⟨_, hp.1, hg⟩)
    · exact HW2.out.ng (bs_mem.2 ⟨_, hp.1, hg⟩)
    · have := HW2.out.pk.own_wo hp.1 HW2.out.inc g hg
      rw [hp.2] at this
      exact this hm
theorem Gone.of_below {w w1 w2 : World} {id : Nat} {p : Pkt} (b : Below w.heap.size w w1) (h : Gone w1 w2 B hn Bs S id p room made T) : Gone w w2 B hn Bs S id p room made T := by
  obtain ⟨Bs', h1, h2, h3, h4⟩ := h
  exact ⟨Bs', h1, (Keep.of_below b _).trans h2, h3, h4⟩

set_option maxRecDepth 100000 in
set_option maxHeartbeats 1600000 in
theorem lose_no (w : World) (rv : Value) (id : Nat) (p : Pkt) (x : Int) (hx : x ≠ 0)
    (hc : Calls Try.prog 35 #[rv, .int .u64 (id : Int)] w fun e w' => e = .returned (.tuple #[agv p, .int .i64 x]) ∧ Below w.heap.size w w') :
    Calls Try.prog 16 #[rv, .int .u64 (id : Int)] w fun e w' => e = .returned (.int .i64 x) ∧ Below w.heap.size w w' := by
  obtain ⟨pid, fr, to, ao, cap, l⟩ := p
  have C := Lib.hid hc
  simp only [agv, Pkt.cells, Pkt.sl] at C
  have hne : (x != 0) = true := by simpa using hx
  generalize l.length = n at *
  clear hc
  go_enter Try.func16, Try.ntmps16
  go_wp2_with fail
  refine C.out.mono ?_; rintro e w1 ⟨rfl, b1⟩
  go_wp2_with fail
  go_ret
  exact ⟨rfl, below_alloc b1 _⟩
set_option maxRecDepth 100000 in
set_option maxHeartbeats 1600000 in
theorem lose_yes (w : World) (id : Nat) (hid : id < 18446744073709551616) (h : Net w B hn Bs S room made T) {p : Pkt} (hl : look S id = some p) (hT : T.lost < 4611686018427387904) :
    Calls Try.prog 16 #[.pointer (some ⟨hn, 0, none⟩), .int .u64 (id : Int)] w fun e w' => e = .returned (.int .i64 0) ∧ Gone w w' B hn Bs S id p room made T.addLost := by
  have hfind := find_any id hid w h
  rw [show findE S id = .tuple #[agv p, .int .i64 0] by unfold findE; rw [hl]] at hfind
  have C := Lib.hid hfind
  have H := Lib.hid h
  have LI := Lib.hid (fun w1 (b : Below w.heap.size w w1) => lose_in w1 id hid (h.below b) hl hT)
  obtain ⟨pid, fr, to, ao, cap, l⟩ := p
  simp only [agv, Pkt.cells, Pkt.sl] at C
  clear hfind h hl
  generalize l.length = n at C
  go_enter Try.func16, Try.ntmps16
  go_wp2_with fail
  refine C.out.mono ?_; rintro e w1 ⟨rfl, b1⟩
  have bb := below_alloc b1 (.cells #[.int .u64 (pid : Int), .int .i64 fr, .int .i64 to, .slice ao n cap] 52)
  have B1 := Lib.hid bb
  have LI2 := Lib.hid (LI.out _ bb)
  clear b1 bb
  go_wp2_with fail
  refine LI2.out.mono ?_; rintro e w2 ⟨rfl, g2⟩
  have G2 := Lib.hid g2; clear g2
  go_wp2_with fail
  go_ret
  exact ⟨rfl, G2.out.of_below B1.out⟩

set_option maxRecDepth 100000 in
set_option maxHeartbeats 1600000 in
theorem twice_no (w : World) (rv : Value) (id : Nat) (p : Pkt) (x : Int) (hx : x ≠ 0)
    (hc : Calls Try.prog 35 #[rv, .int .u64 (id : Int)] w fun e w' => e = .returned (.tuple #[agv p, .int .i64 x]) ∧ Below w.heap.size w w') :
    Calls Try.prog 17 #[rv, .int .u64 (id : Int)] w fun e w' => e = .returned (.tuple #[.int .u64 0, .int .i64 x]) ∧ Below w.heap.size w w' := by
  obtain ⟨pid, fr, to, ao, cap, l⟩ := p
  have C := Lib.hid hc
  simp only [agv, Pkt.cells, Pkt.sl] at C
  have hne : (x != 0) = true := by simpa using hx
  generalize l.length = n at *
  clear hc
  go_enter Try.func17, Try.ntmps17
  go_wp2_with fail
  refine C.out.mono ?_; rintro e w1 ⟨rfl, b1⟩
  go_wp2_with fail
  go_ret2
  exact ⟨rfl, below_alloc b1 _⟩
set_option maxRecDepth 100000 in
set_option maxHeartbeats 1600000 in
theorem twice_full (w : World) (id : Nat) (hid : id < 18446744073709551616) (h : Net w B hn Bs S room made T) {p : Pkt} (hl : look S id = some p) (hf : room ≤ S.length) :
    Calls Try.prog 17 #[.pointer (some ⟨hn, 0, none⟩), .int .u64 (id : Int)] w fun e w' => e = .returned (.tuple #[.int .u64 0, .int .i64 71]) ∧ Below w.heap.size w w' := by
  have hfind := find_any id hid w h
  rw [show findE S id = .tuple #[agv p, .int .i64 0] by unfold findE; rw [hl]] at hfind
  have C := Lib.hid hfind
  have LI := Lib.hid (fun w1 (b : Below w.heap.size w w1) => full_any w1 (h.below b))
  rw [show decide (room ≤ S.length) = true by simp [hf]] at LI
  obtain ⟨pid, fr, to, ao, cap, l⟩ := p
  simp only [agv, Pkt.cells, Pkt.sl] at C
  clear hfind h hl
  generalize l.length = n at C
  go_enter Try.func17, Try.ntmps17
  go_wp2_with fail
  refine C.out.mono ?_; rintro e w1 ⟨rfl, b1⟩
  have bb := below_alloc b1 (.cells #[.int .u64 (pid : Int), .int .i64 fr, .int .i64 to, .slice ao n cap] 52)
  have B1 := Lib.hid bb
  have LI2 := Lib.hid (LI.out _ bb)
  clear b1 bb
  go_wp2_with fail
  refine LI2.out.mono ?_; rintro e w2 ⟨rfl, b2⟩
  have B2 := Lib.hid (below_next B1.out b2); clear b2
  go_wp2_with fail
  go_ret2
  exact ⟨rfl, B2.out⟩
set_option maxRecDepth 100000 in
set_option maxHeartbeats 1600000 in
theorem twice_yes (w : World) (id : Nat) {M : Nat} (hid : id < 18446744073709551616) (h : Net w B hn Bs S room made T) {p : Pkt} (hl : look S id = some p) (hf : S.length < room) (hM : M = made + 1) (hm : M < 18446744073709551616) (hT : T.twice < 4611686018427387904) :
    Calls Try.prog 17 #[.pointer (some ⟨hn, 0, none⟩), .int .u64 (id : Int)] w fun e w' =>
      ∃ ao' cap' Bs', e = .returned (.tuple #[.int .u64 (M : Int), .int .i64 0]) ∧ Net w' B hn Bs' (S ++ [⟨M, p.fr, p.to, ao', cap', p.data⟩]) room M T.addTwice ∧ Turned Bs Bs' w w' := by
  have hfind := find_any id hid w h
  rw [show findE S id = .tuple #[agv p, .int .i64 0] by unfold findE; rw [hl]] at hfind
  have C := Lib.hid hfind
  have LI := Lib.hid (fun w1 (b : Below w.heap.size w w1) => full_any w1 (h.below b))
  rw [show decide (room ≤ S.length) = false by simp; omega] at LI
  have H := Lib.hid h
  have HP := Lib.hid (show Rd w p.ao p.data ∧ p.data.length ≤ 65546 ∧ (∀ g ∈ blk p.ao, g ≠ hn ∧ g < w.heap.size) by
    obtain ⟨gm, _, h0⟩ := h
    have hp := (look_some hl).1
    refine ⟨(h0.pk.own p hp).rd, h0.lens p hp, fun g hg => ⟨fun e => h0.nh (bs_mem.2 ⟨p, hp, e ▸ hg⟩), ((h0.pk.own p hp).lt_size g hg).2⟩⟩)
  obtain ⟨pid, fr, to, ao, cap, l⟩ := p
  simp only [agv, Pkt.cells, Pkt.sl] at C HP ⊢
  obtain ⟨n, hln⟩ : ∃ n, l.length = n := ⟨_, rfl⟩
  rw [hln] at C HP
  have HL := Lib.hid hln
  clear hfind h hl hln
  go_enter Try.func17, Try.ntmps17
  go_wp2_with fail
  refine C.out.mono ?_; rintro e w1 ⟨rfl, b1⟩
  have bb := below_alloc b1 (.cells #[.int .u64 (pid : Int), .int .i64 fr, .int .i64 to, .slice ao n cap] 52)
  have Q1 := Lib.hid (Row4.new w1 (.int .u64 (pid : Int)) (.int .i64 fr) (.int .i64 to) (.slice ao n cap))
  have B1 := Lib.hid bb
  have LI2 := Lib.hid (LI.out _ bb)
  have HS1 := Lib.hid b1.size
  clear b1 bb
  go_wp2_with fail
  refine LI2.out.mono ?_; rintro e w2 ⟨rfl, b2⟩
  have hb2 := below_next B1.out b2
  obtain ⟨gm, hBs, h2⟩ := H.out.below hb2
  have q2 := Q1.out.below b2
  have c4 := h2.at_ 4; have f4 := h2.fr 4; have hltn := h2.hlt
  simp only [rowN, List.getElem?_toArray, List.getElem?_cons_succ, List.getElem?_cons_zero] at c4
  have hts : (T.twice : Int) + 1 ≤ 4611686018427387904 := by omega
  have B2 := Lib.hid hb2; have HBs := Lib.hid hBs; have HW2 := Lib.hid h2
  have k3 := Keep.setCell w2 ⟨hn, 4, none⟩ (.int .i64 ((T.twice + 1 : Nat) : Int))
  have h3 := h2.setTr 4 (.int .i64 ((T.twice + 1 : Nat) : Int)) T.addTwice rfl
  have hltw := (H.out.blocks hn (by rw [hBs]; simp)).2
  have hne : w1.heap.size ∉ [hn] := by have := HS1.out; simp; omega
  obtain ⟨d0, d1, d2, d3, g0, g1, g2, g3, hld⟩ := (q2.keep k3 hne).all
  have hr3 := (HP.out.1.below hb2).keep k3 (by simpa using fun g hg => (HP.out.2.2 g hg).1)
  have t3 : Turned Bs Bs w (w2.setCell ⟨hn, 4, none⟩ (.int .i64 ((T.twice + 1 : Nat) : Int))) := ⟨(Keep.of_below hb2 _).trans (k3.mono (by rw [hBs]; simp)), fun q hq => .inl hq⟩
  have hcast : ((T.twice : Int) + 1) = ((T.twice + 1 : Nat) : Int) := by omega
  rw [← hcast] at d0 d1 d2 d3 g0 g1 g2 g3 hld hr3 t3 h3
  have AD := Lib.hid (add_any _ fr to (cap := cap) hr3 HL.out HP.out.2.1 hf hM hm (⟨gm, hBs, h3⟩ : Net _ B hn Bs S room made T.addTwice) (fun g hg => (HP.out.2.2 g hg).1))
  have T3 := Lib.hid t3
  clear b2 hb2 hBs h2 q2 k3 h3 hr3 t3 hcast hM
  go_wp2_with fail
  refine AD.out.mono ?_; rintro e w3 ⟨ao', cap', Bs', rfl, h3, t3⟩
  have H3 := Lib.hid h3; have T4 := Lib.hid t3
  clear h3 t3
  go_wp2_with fail
  go_ret2
  exact ⟨ao', cap', Bs', rfl, H3.out, T3.out.trans T4.out⟩
end
end Go.Proofs.Ythanjfnpohhebaa
