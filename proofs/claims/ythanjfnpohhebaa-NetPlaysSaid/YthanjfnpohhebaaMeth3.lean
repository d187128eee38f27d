/- Take, Lose, Twice. -/
import Derived.Test.YthanjfnpohhebaaMeth2
namespace Go.Proofs.Ythanjfnpohhebaa
open Go.RowKit Go.Sort
set_option linter.unusedVariables false

/-- delete(m, id) -/
theorem wpList_del {w w' : World} {ops : Array Oper} {rest : List Oper} {o : Oper} {a : Act} {Q : Exit → Act → World → Prop} (hgd : o.guard = none) (m k : Operand)
    (ho : o.op = .call { callee := .builtin .delete, args := #[m, k], argTypes := #[60, 30] }) {gm id : Nat} (hm : a.eval m = .map (some gm)) (hk : a.eval k = .int .u64 (id : Int))
    (hr : (Builtin.delete_ #[60, 30] o.type #[.map (some gm), .int .u64 (id : Int)]).run Try.prog w = .ok (.tuple #[]) w') (h : wpList Try.prog ops Q rest (a.put o.dst (.tuple #[])) w') : wpList Try.prog ops Q (o :: rest) a w := by
  refine wpList_plain hgd fun K hK => ?_
  unfold Oper.wp execOp
  simp only [ho, resolve, invoke, builtin, Sem.run_bind, Sem.run_pure, Result.andThen_ok, List.map_toArray, List.map_cons, List.map_nil, hm, hk, hr]
  exact hK _ _ h

theorem bs_wo {S : List Pkt} {id : Nat} : ∀ g ∈ bs (wo S id), g ∈ bs S := fun g hg => by
  obtain ⟨p, hp, hg⟩ := bs_mem.1 hg
  exact bs_mem.2 ⟨p, (wo_mem.1 hp).1, hg⟩
theorem PkW.own_wo {w : World} {B : Nat} {S : List Pkt} (h : PkW w B S) {p : Pkt} (hp : p ∈ S) (hi : Inc S) : ∀ g ∈ blk p.ao, g ∉ bs (wo S p.id) := by
  intro g hg hm
  obtain ⟨q, hq, hg2⟩ := bs_mem.1 hm
  obtain ⟨hq, hne⟩ := wo_mem.1 hq
  have key : ∀ {S : List Pkt}, S.Pairwise (fun p q => ∀ g ∈ blk p.ao, g ∉ blk q.ao) → p ∈ S → q ∈ S → p ≠ q → False := by
    intro S hpw
    induction S with
    | nil => intro h; cases h
    | cons x r ih =>
      intro h1 h2 h3
      obtain ⟨ha, hb⟩ := List.pairwise_cons.1 hpw
      rcases List.mem_cons.1 h1 with rfl | h1' <;> rcases List.mem_cons.1 h2 with rfl | h2'
      · exact h3 rfl
      · exact ha q h2' g hg hg2
      · exact ha p h1' g hg2 hg
      · exact ih hb h1' h2' h3
  exact key h.apart hp hq fun e => hne (by rw [e])

section
variable {B hn gm : Nat} {S : List Pkt} {room made : Nat} {T : Tr} {Bs : List Nat}
theorem NetW.del {w w2 : World} (h : NetW w B hn gm S room made T) {id : Nat} {p : Pkt} (hl : look S id = some p) (hm : MapV w2 gm (S.length - 1) (fmap (wo S id))) (k : Keep [gm] w w2) : NetW w2 B hn gm (wo S id) room made T := by
  have hlen := wo_len h.inc hl
  refine ⟨by rw [show (wo S id).length = S.length - 1 by omega]; exact hm, (k.block hn h.hlt (by simpa using h.ne)).trans h.row, h.base, h.gbase, h.ne, (h.pk.sub List.filter_sublist).keep k (fun g hg e => h.ng (by simp at e; exact e ▸ bs_wo g hg)), fun hm => h.nh (bs_wo _ hm), fun hm => h.ng (bs_wo _ hm), wo_inc h.inc id, fun q hq => h.ids q (wo_mem.1 hq).1, fun q hq => h.lens q (wo_mem.1 hq).1, h.rm, by have := h.few; omega⟩
theorem NetW.delMap {w : World} (h : NetW w B hn gm S room made T) {id : Nat} (hid : id < 18446744073709551616) {p : Pkt} (hl : look S id = some p) (ty : TypeId) :
    ∃ w', (Builtin.delete_ #[60, 30] ty #[.map (some gm), .int .u64 (id : Int)]).run Try.prog w = .ok (.tuple #[]) w' ∧ MapV w' gm (S.length - 1) (fmap (wo S id)) ∧ Keep [gm] w w' := by
  obtain ⟨w', h1, h2, h3⟩ := h.map.del id hid ty
  rw [show (fmap S id).isSome = true by simp [fmap, hl], fmap_wo] at h2
  exact ⟨w', h1, h2, h3⟩

/-- what a call that removes packet id comes to -/
def Gone (w w' : World) (B hn : Nat) (Bs : List Nat) (S : List Pkt) (id : Nat) (p : Pkt) (room made : Nat) (T : Tr) : Prop :=
  ∃ Bs', Net w' B hn Bs' (wo S id) room made T ∧ Keep Bs' w w' ∧ (∀ q ∈ Bs', q ∈ Bs) ∧ ∀ g ∈ blk p.ao, g ∉ Bs'

set_option maxRecDepth 100000 in
set_option maxHeartbeats 1600000 in
theorem take_no (w : World) (rv : Value) (id : Nat) (p : Pkt) (x : Int) (hx : x ≠ 0)
    (hc : Calls Try.prog 35 #[rv, .int .u64 (id : Int)] (w.alloc zobj) fun e w' => e = .returned (.tuple #[agv p, .int .i64 x]) ∧ Below (w.alloc zobj).heap.size (w.alloc zobj) w') :
    Calls Try.prog 15 #[rv, .int .u64 (id : Int)] w fun e w' => e = .returned (.tuple #[zpk, .int .i64 x]) ∧ Below w.heap.size w w' := by
  obtain ⟨pid, fr, to, ao, cap, l⟩ := p
  have b0 := below_alloc (Below.refl w.heap.size w) zobj
  have C := Lib.hid hc
  have B0 := Lib.hid b0
  have R0 := Lib.hid (Row4.new w (.int .u64 0) (.int .i64 0) (.int .i64 0) (.slice none 0 0))
  have HS0 := Lib.hid (show w.heap.size < (w.alloc zobj).heap.size by simp)
  simp only [agv, Pkt.cells, Pkt.sl] at C
  have hne : (x != 0) = true := by simpa using hx
  generalize l.length = n at *
  clear b0 hc
  go_enter Try.func15, Try.ntmps15
  go_wp2_with fail
  refine C.out.mono ?_; rintro e w1 ⟨rfl, b1⟩
  have r1 := R0.out.below b1
  have B1 := Lib.hid (below_next B0.out b1)
  have hlt : w.heap.size < w1.heap.size := Nat.lt_of_lt_of_le HS0.out b1.size
  obtain ⟨c0, c1, c2, c3, f0, f1, f2, f3, hlt2⟩ := r1.all
  have B2 := Lib.hid (B1.out.trans ((lay4_keep w1 w.heap.size (.int .u64 0) (.int .i64 0) (.int .i64 0) (.slice none 0 0)).below (Nat.le_of_lt hlt) (by simp)))
  clear r1 b1 R0 B0 C
  go_wp2_with fail
  refine bodyPost_ret (v := .tuple #[zpk, .int .i64 x]) (results_cell_tmp Try.results15 rfl ?_ rfl) rfl ⟨rfl, ?_⟩
  · go_simp
  · exact below_alloc B2.out _

set_option maxRecDepth 100000 in
set_option maxHeartbeats 1600000 in
theorem take_yes (w : World) (id : Nat) (hid : id < 18446744073709551616) (h : Net w B hn Bs S room made T) {p : Pkt} (hl : look S id = some p) (hT : T.taken < 4611686018427387904) :
    Calls Try.prog 15 #[.pointer (some ⟨hn, 0, none⟩), .int .u64 (id : Int)] w fun e w' => e = .returned (.tuple #[agv p, .int .i64 0]) ∧ Gone w w' B hn Bs S id p room made T.addTaken := by
  have b0 := below_alloc (Below.refl w.heap.size w) zobj
  have hfind := find_any id hid _ (h.below b0)
  rw [show findE S id = .tuple #[agv p, .int .i64 0] by unfold findE; rw [hl]] at hfind
  have C := Lib.hid hfind
  have B0 := Lib.hid b0
  have H := Lib.hid h
  have R0 := Lib.hid (Row4.new w (.int .u64 0) (.int .i64 0) (.int .i64 0) (.slice none 0 0))
  have HS0 := Lib.hid (show w.heap.size < (w.alloc zobj).heap.size by simp)
  have HK := Lib.hid hl
  obtain ⟨pid, fr, to, ao, cap, l⟩ := p
  simp only [agv, Pkt.cells, Pkt.sl] at C ⊢
  obtain ⟨n, hln⟩ : ∃ n, l.length = n := ⟨_, rfl⟩
  rw [hln] at C ⊢
  clear b0 hfind h hl hln
  go_enter Try.func15, Try.ntmps15
  go_wp2_with fail
  refine C.out.mono ?_; rintro e w1 ⟨rfl, b1⟩
  have r1 := R0.out.below b1
  have B1 := Lib.hid (below_next B0.out b1)
  have hlt : w.heap.size < w1.heap.size := Nat.lt_of_lt_of_le HS0.out b1.size
  have bb1 := below_alloc (Below.refl w1.heap.size w1) (.cells #[.int .u64 (pid : Int), .int .i64 fr, .int .i64 to, .slice ao n cap] 52)
  have R1 := Lib.hid (r1.below bb1)
  have Q1 := Lib.hid (Row4.new w1 (.int .u64 (pid : Int)) (.int .i64 fr) (.int .i64 to) (.slice ao n cap))
  have B2 := Lib.hid (below_next B1.out bb1)
  obtain ⟨gm, hBs, h2⟩ := H.out.below B2.out
  have c2 := h2.at_ 2
  simp only [rowN, List.getElem?_toArray, List.getElem?_cons_succ, List.getElem?_cons_zero] at c2
  have hltn := (H.out.blocks hn (by rw [hBs]; simp)).2
  have hltg := (H.out.blocks gm (by rw [hBs]; simp)).2
  have c2' : w1.cell? ⟨hn, 2, none⟩ = some (.map (some gm)) := by
    rw [← c2]; exact (bb1.cell (Nat.lt_of_lt_of_le hltn (by omega))).symm
  have hltn1 : hn < w1.heap.size := by omega
  obtain ⟨w3, hr, hm3, k3⟩ := h2.delMap hid HK.out 0
  have HD := Lib.hid hr
  have HBs := Lib.hid hBs
  have h3 := h2.del HK.out hm3 k3
  have c6 := h3.at_ 6; have f6 := h3.fr 6; have hltn3 := h3.hlt
  simp only [rowN, List.getElem?_toArray, List.getElem?_cons_succ, List.getElem?_cons_zero] at c6
  have hn1 : w.heap.size ∉ [gm] := by simp; omega
  have hn2 : w1.heap.size ∉ [gm] := by simp; omega
  obtain ⟨z0, z1, z2, z3, e0, e1, e2, e3, hlz⟩ := (R1.out.keep k3 hn1).all
  obtain ⟨d0, d1, d2, d3, g0, g1, g2, g3, hld⟩ := (Q1.out.keep k3 hn2).all
  have hne1 : hn ≠ w.heap.size := by omega
  have hne2 : hn ≠ w1.heap.size := by omega
  have hts : (T.taken : Int) + 1 ≤ 4611686018427387904 := by omega
  have HW3 := Lib.hid h3; have K3 := Lib.hid k3; have HW2 := Lib.hid h2
  clear r1 b1 bb1 c2 R0 hBs h2 hr C B0 hm3 k3 h3 R1 Q1
  go_wp2_with (at_delete; refine wpList_del rfl (.tmp 21) (.tmp 22) rfl rfl rfl HD.out ?_)
  rw [show ((T.taken : Int) + 1) = ((T.taken + 1 : Nat) : Int) by omega]
  have h4 := HW3.out.setTr 6 (.int .i64 ((T.taken + 1 : Nat) : Int)) T.addTaken rfl
  have k4 := Keep.setCell w3 ⟨hn, 6, none⟩ (.int .i64 ((T.taken + 1 : Nat) : Int))
  have k5 := lay4_keep (w3.setCell ⟨hn, 6, none⟩ (.int .i64 ((T.taken + 1 : Nat) : Int))) w.heap.size (.int .u64 (pid : Int)) (.int .i64 fr) (.int .i64 to) (.slice ao n cap)
  have hblk : ∀ q ∈ hn :: gm :: bs (wo S id), q < w.heap.size ∧ q ∈ Bs := fun q hq => by
    have hm : q ∈ Bs := by
      rw [HBs.out]
      simp only [List.mem_cons] at hq ⊢
      rcases hq with h | h | h
      · exact .inl h
      · exact .inr (.inl h)
      · exact .inr (.inr (bs_wo q h))
    exact ⟨(H.out.blocks q hm).2, hm⟩
  refine bodyPost_ret (v := .tuple #[.agg #[.int .u64 (pid : Int), .int .i64 fr, .int .i64 to, .slice ao n cap], .int .i64 0]) (results_cell_tmp Try.results15 rfl ?_ rfl) rfl ⟨rfl, _, ⟨gm, rfl, h4.keep k5 fun q hq hm => ?_⟩, ?_, fun q hq => (hblk q hq).2, ?_⟩
  · go_simp
  · have := (hblk q hq).1; simp at hm; omega
  · have ka := (Keep.of_below B2.out (w.heap.size :: hn :: gm :: bs (wo S id))).trans (K3.out.mono (by simp))
    have kb := (k4.mono (T := w.heap.size :: hn :: gm :: bs (wo S id)) (by simp)).trans (k5.mono (by simp))
    exact (ka.trans kb).mono fun q hq => by
      rcases List.mem_cons.1 hq with rfl | hq
      · exact .inr (Nat.le_refl _)
      · exact .inl hq
  · intro g hg hm
    have hp := look_some HK.out
    simp only [List.mem_cons] at hm
    rcases hm with rfl | rfl | hm
    · exact HW2.out.nh (bs_mem.2 ⟨_, hp.1, hg⟩)
    · exact HW2.out.ng (bs_mem.2 ⟨_, hp.1, hg⟩)
    · have := HW2.out.pk.own_wo hp.1 HW2.out.inc g hg
      rw [hp.2] at this
      exact this hm
end
end Go.Proofs.Ythanjfnpohhebaa
