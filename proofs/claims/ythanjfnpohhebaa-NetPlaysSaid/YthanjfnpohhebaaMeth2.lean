/- Look, Take, Lose, Twice. -/
import Derived.Test.YthanjfnpohhebaaMeth
namespace Go.Proofs.Ythanjfnpohhebaa
open Go.RowKit Go.Sort
set_option linter.unusedVariables false

/-- a block of four cells -/
abbrev Row4 (w : World) (bx : Nat) (c0 c1 c2 c3 : Value) : Prop := w.heap[bx]? = some (.cells #[c0, c1, c2, c3] 52 (0, 0))
abbrev RowP (w : World) (bx : Nat) (p : Pkt) : Prop := Row4 w bx (.int .u64 (p.id : Int)) (.int .i64 p.fr) (.int .i64 p.to) p.sl
theorem Row4.all {w : World} {bx : Nat} {c0 c1 c2 c3 : Value} (h : Row4 w bx c0 c1 c2 c3) : w.cell? ⟨bx, 0, none⟩ = some c0 ∧ w.cell? ⟨bx, 1, none⟩ = some c1 ∧ w.cell? ⟨bx, 2, none⟩ = some c2 ∧ w.cell? ⟨bx, 3, none⟩ = some c3 ∧
    w.frozen? ⟨bx, 0, none⟩ = false ∧ w.frozen? ⟨bx, 1, none⟩ = false ∧ w.frozen? ⟨bx, 2, none⟩ = false ∧ w.frozen? ⟨bx, 3, none⟩ = false ∧ bx < w.heap.size :=
  ⟨cell_of_row w bx 0 _ _ (0, 0) h, cell_of_row w bx 1 _ _ (0, 0) h, cell_of_row w bx 2 _ _ (0, 0) h, cell_of_row w bx 3 _ _ (0, 0) h, frozen_of_row w bx 0 _ _ h, frozen_of_row w bx 1 _ _ h, frozen_of_row w bx 2 _ _ h, frozen_of_row w bx 3 _ _ h, (Array.getElem?_eq_some_iff.1 h).1⟩
theorem Row4.below {w w' : World} {bx : Nat} {c0 c1 c2 c3 : Value} (h : Row4 w bx c0 c1 c2 c3) (b : Below w.heap.size w w') : Row4 w' bx c0 c1 c2 c3 := (b.block bx (Array.getElem?_eq_some_iff.1 h).1).trans h
theorem Row4.keep {w w' : World} {bx : Nat} {c0 c1 c2 c3 : Value} {T : List Nat} (h : Row4 w bx c0 c1 c2 c3) (k : Keep T w w') (hn : bx ∉ T) : Row4 w' bx c0 c1 c2 c3 := (k.block bx (Array.getElem?_eq_some_iff.1 h).1 hn).trans h
theorem Row4.new (w : World) (c0 c1 c2 c3 : Value) : Row4 (w.alloc (.cells #[c0, c1, c2, c3] 52)) w.heap.size c0 c1 c2 c3 := heap_alloc_new w _
/-- four cells laid anew -/
abbrev lay4 (w : World) (bx : Nat) (c0 c1 c2 c3 : Value) : World := (((w.setCell ⟨bx, 0, none⟩ c0).setCell ⟨bx, 1, none⟩ c1).setCell ⟨bx, 2, none⟩ c2).setCell ⟨bx, 3, none⟩ c3
theorem lay4_keep (w : World) (bx : Nat) (c0 c1 c2 c3 : Value) : Keep [bx] w (lay4 w bx c0 c1 c2 c3) :=
  (((Keep.setCell w ⟨bx, 0, none⟩ c0).trans (Keep.setCell _ ⟨bx, 1, none⟩ c1)).trans (Keep.setCell _ ⟨bx, 2, none⟩ c2)).trans (Keep.setCell _ ⟨bx, 3, none⟩ c3)

section
variable {B hn gm : Nat} {S : List Pkt} {room made : Nat} {T : Tr} {Bs : List Nat}
abbrev zobj : Obj := .cells #[.int .u64 0, .int .i64 0, .int .i64 0, .slice none 0 0] 52
set_option maxRecDepth 100000 in
set_option maxHeartbeats 1600000 in
/-- Look, whatever find answers -/
theorem look_go (w : World) (rv : Value) (id : Nat) (p : Pkt) (x : Int) (hr : Rd w p.ao p.data) (hb : p.data.length ≤ 140737488355328)
    (hc : Calls Try.prog 35 #[rv, .int .u64 (id : Int)] (w.alloc zobj) fun e w' => e = .returned (.tuple #[agv p, .int .i64 x]) ∧ Below (w.alloc zobj).heap.size (w.alloc zobj) w') :
    Calls Try.prog 20 #[rv, .int .u64 (id : Int)] w fun e w' => ∃ ao cap, e = .returned (.tuple #[agv ⟨p.id, p.fr, p.to, ao, cap, p.data⟩, .int .i64 x]) ∧ Own w' w.heap.size ao p.data.length cap p.data ∧ Below w.heap.size w w' := by
  obtain ⟨pid, fr, to, ao, cap, l⟩ := p
  simp only at hr hb
  have b0 := below_alloc (Below.refl w.heap.size w) zobj
  have C := Lib.hid hc
  have B0 := Lib.hid b0
  have HR := Lib.hid (hr.below b0)
  have R0 := Lib.hid (Row4.new w (.int .u64 0) (.int .i64 0) (.int .i64 0) (.slice none 0 0))
  have HS0 := Lib.hid (show w.heap.size < (w.alloc zobj).heap.size by simp)
  obtain ⟨n, hln⟩ : ∃ n, l.length = n := ⟨_, rfl⟩
  simp only [agv, Pkt.cells, Pkt.sl] at C ⊢
  rw [hln] at C hb ⊢
  have HL := Lib.hid hln
  clear b0 hc hr hln
  go_enter Try.func20, Try.ntmps20
  go_wp2_with fail
  refine C.out.mono ?_; rintro e w1 ⟨rfl, b1⟩
  have r1 := R0.out.below b1
  have B1 := Lib.hid (below_next B0.out b1)
  have hlt : w.heap.size < w1.heap.size := Nat.lt_of_lt_of_le HS0.out b1.size
  have bb1 := below_alloc (Below.refl w1.heap.size w1) (.cells #[.int .u64 (pid : Int), .int .i64 fr, .int .i64 to, .slice ao n cap] 52)
  have CL := Lib.hid (clone_any (n := n) _ ((HR.out.below b1).below bb1) HL.out (cap := cap) hb)
  have R1 := Lib.hid (r1.below bb1)
  have Q1 := Lib.hid (Row4.new w1 (.int .u64 (pid : Int)) (.int .i64 fr) (.int .i64 to) (.slice ao n cap))
  have B2 := Lib.hid (below_next B1.out bb1)
  clear r1 b1 bb1 R0 B0 C
  go_wp2_with fail
  refine CL.out.mono ?_; rintro e w2 ⟨ao2, cap2, he, own2, b2⟩
  rw [HL.out] at he own2
  subst he
  have r2 := R1.out.below b2
  have q2 := Q1.out.below b2
  obtain ⟨c0, c1, c2, c3, f0, f1, f2, f3, hlt2⟩ := r2.all
  obtain ⟨d0, d1, d2, d3, g0, g1, g2, g3, hlt3⟩ := q2.all
  have B3 := Lib.hid (below_next B2.out b2)
  have hne : w.heap.size ≠ w1.heap.size := by omega
  have hge : w.heap.size ≤ w1.heap.size := by omega
  have HO := Lib.hid own2
  have HG := Lib.hid (show w.heap.size ≤ w1.heap.size by omega)
  generalize hbx : w.heap.size = bx at *
  have HX := Lib.hid hbx
  have HY := Lib.hid (show bx ∉ blk ao2 ∧ w1.heap.size ∉ blk ao2 by
    have hs : (w1.alloc (.cells #[.int .u64 (pid : Int), .int .i64 fr, .int .i64 to, .slice ao n cap] 52)).heap.size = w1.heap.size + 1 := by simp
    refine ⟨fun hm => ?_, fun hm => ?_⟩ <;> have := (HO.out.lt_size _ hm).1 <;> omega)
  have HZ := Lib.hid (show bx ≤ (w1.alloc (.cells #[.int .u64 (pid : Int), .int .i64 fr, .int .i64 to, .slice ao n cap] 52)).heap.size by simp; omega)
  generalize hby : w1.heap.size = bk at *
  clear hlt hge r2 q2 b2 own2 hbx hby
  go_wp2_with fail
  have kk := (Keep.setCell w2 ⟨bk, 3, none⟩ (.slice ao2 n cap2)).mono (T := [bx, bk]) (by simp) |>.trans ((lay4_keep _ bx (.int .u64 (pid : Int)) (.int .i64 fr) (.int .i64 to) (.slice ao2 n cap2)).mono (by simp))
  refine bodyPost_ret (v := .tuple #[.agg #[.int .u64 (pid : Int), .int .i64 fr, .int .i64 to, .slice ao2 n cap2], .int .i64 x]) (results_cell_tmp Try.results20 rfl ?_ rfl) rfl ⟨ao2, cap2, rfl, ?_, ?_⟩
  · go_simp
  · rw [HX.out]
    refine (HO.out.keep kk fun g hg hm => ?_).base HZ.out
    simp at hm
    rcases hm with rfl | rfl
    · exact HY.out.1 hg
    · exact HY.out.2 hg
  · rw [HX.out]
    exact B3.out.trans (kk.below (by omega) (by have := HG.out; simp; omega))

abbrev zp : Pkt := ⟨0, 0, 0, none, 0, []⟩
/-- what find tells of a packet -/
def foundP (S : List Pkt) (id : Nat) : Pkt := (look S id).getD zp
def foundE (S : List Pkt) (id : Nat) : Int := if (look S id).isSome then 0 else 72
theorem findE_eq (S : List Pkt) (id : Nat) : findE S id = .tuple #[agv (foundP S id), .int .i64 (foundE S id)] := by
  unfold findE foundP foundE
  cases look S id <;> rfl
theorem look_any (w : World) (id : Nat) (hid : id < 18446744073709551616) (h : Net w B hn Bs S room made T) :
    Calls Try.prog 20 #[.pointer (some ⟨hn, 0, none⟩), .int .u64 (id : Int)] w fun e w' => ∃ ao cap, e = .returned (.tuple #[agv ⟨(foundP S id).id, (foundP S id).fr, (foundP S id).to, ao, cap, (foundP S id).data⟩, .int .i64 (foundE S id)]) ∧
      Own w' w.heap.size ao (foundP S id).data.length cap (foundP S id).data ∧ Below w.heap.size w w' := by
  have hf := find_any id hid _ (h.below (below_alloc (Below.refl w.heap.size w) zobj))
  rw [findE_eq] at hf
  obtain ⟨gm, _, h⟩ := h
  have hp : Rd w (foundP S id).ao (foundP S id).data ∧ (foundP S id).data.length ≤ 140737488355328 := by
    unfold foundP
    cases hl : look S id with
    | none => exact ⟨Rd.nil _ _, by simp⟩
    | some p =>
      have := (look_some hl).1
      exact ⟨(h.pk.own p this).rd, by have := h.lens p this; simp; omega⟩
  exact look_go w _ id _ _ hp.1 hp.2 hf
theorem look_nil (w : World) (id : Nat) :
    Calls Try.prog 20 #[.pointer none, .int .u64 (id : Int)] w fun e w' => ∃ ao cap, e = .returned (.tuple #[.agg #[.int .u64 0, .int .i64 0, .int .i64 0, .slice ao 0 cap], .int .i64 1]) ∧ Below w.heap.size w w' :=
  (look_go w _ id zp 1 (Rd.nil _ _) (by simp) (find_nil id _)).mono fun e w' ⟨ao, cap, h1, _, h3⟩ => ⟨ao, cap, h1, h3⟩
end
end Go.Proofs.Ythanjfnpohhebaa
