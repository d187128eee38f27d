/- Due: its parts. -/
import Derived.Test.YtjhdlohcjodgjaaClose2
import Derived.Maps.AppendAt
import Derived.Deep.RegionLaw
namespace Go.Proofs.Ytjhdlohcjodgjaa
open Go.RowKit
set_option linter.unusedVariables false

set_option maxHeartbeats 800000 in
theorem isdue_any (nb : Nat) (now : Nat) (x : Cal) (W : World) (h : W.cell? ⟨nb, 0, none⟩ = some (.int .i64 (now : Int))) :
    Calls Try.prog 44 (#[agv x] ++ #[.pointer (some ⟨nb, 0, none⟩)]) W fun e W' => e = .returned (.bool (decide (x.due ≤ now))) ∧ Below W.heap.size W W' := by
  have hl := World.block_lt_of_cell? W _ h
  show Calls Try.prog 44 #[agv x, .pointer (some ⟨nb, 0, none⟩)] W _
  go_enter Try.func44, Try.ntmps44
  go_wp2_with fail
  go_ret
  exact ⟨ret_bool (by simp), below_alloc (Below.refl _ _) _⟩
theorem enterIsDue : ∀ args w, (callFunc 44 args).run Try.prog w = .ok (.enter 44 args) w := enters_of Try.func44 (by kernel_rfl) rfl
theorem step_del {w w' : World} {ops : Array Oper} {o : Oper} {a : Act} {K : Act → World → Prop} {Q : Exit → Act → World → Prop} {E : Prop} (hgd : o.guard = none) (m k : Operand)
    (ho : o.op = .call { callee := .builtin .delete, args := #[m, k], argTypes := #[86, 29] }) {gm id : Nat} (hm : a.eval m = .map (some gm)) (hk : a.eval k = .int .u64 (id : Int))
    (hr : (Builtin.delete_ #[86, 29] o.type #[.map (some gm), .int .u64 (id : Int)]).run Try.prog w = .ok (.tuple #[]) w') (h : K (a.put o.dst (.tuple #[])) w') :
    if Region.wanted o (yielded ops a.tmps) = true then Oper.wp Try.prog o a w K Q else E := by
  have hw : Region.wanted o (yielded ops a.tmps) = true := by simp [Region.wanted, hgd]
  rw [if_pos hw]
  unfold Oper.wp execOp
  simp only [ho, resolve, invoke, builtin, Sem.run_bind, Sem.run_pure, Result.andThen_ok, List.map_toArray, List.map_cons, List.map_nil, hm, hk, hr]
  exact h

/-- what Due does, call by call -/
structure DueR where
  S : List Cal
  again : List Cal
  over : List Cal
def dueStep (C : Cfg) (now : Nat) (r : DueR) (x : Cal) : DueR :=
  if C.tries ≤ x.tries then ⟨wo r.S x.id, r.again, r.over ++ [x]⟩ else ⟨upS r.S x.id (triedC C x now), r.again ++ [triedC C x now], r.over⟩
def dueRun (C : Cfg) (now : Nat) (S : List Cal) (l : List Cal) : DueR := l.foldl (dueStep C now) ⟨S, [], []⟩
theorem dueRun_succ (C : Cfg) (now : Nat) (S l : List Cal) (k : Nat) {x : Cal} (h : l[k]? = some x) : dueRun C now S (l.take (k + 1)) = dueStep C now (dueRun C now S (l.take k)) x := by
  unfold dueRun
  have hk := (List.getElem?_eq_some_iff.1 h).1
  have hx := (List.getElem?_eq_some_iff.1 h).2
  rw [List.take_succ_eq_append_getElem hk, hx, List.foldl_append]
  rfl
theorem triedC_id (C : Cfg) (x : Cal) (now : Nat) : (triedC C x now).id = x.id := rfl
theorem triedC_fits (C : Cfg) (hC : C.ok) (x : Cal) (hx : x.fits) (now : Nat) (hn : now ≤ 1099511627776) (ht : ¬ C.tries ≤ x.tries) : (triedC C x now).fits := by
  have := waitN_le C.base C.most x.tries
  unfold Cfg.ok at hC
  unfold Cal.fits triedC at *
  simp only at *
  omega
theorem dueStep_look (C : Cfg) (now : Nat) (r : DueR) (x : Cal) {k : Nat} (hk : k ≠ x.id) : look (dueStep C now r x).S k = look r.S k := by
  unfold dueStep
  split
  · rw [look_wo, if_neg hk]
  · rw [look_upS _ _ _ (triedC_id C x now), if_neg hk]
theorem dueStep_lens (C : Cfg) (now : Nat) (r : DueR) (x : Cal) : (dueStep C now r x).again.length + (dueStep C now r x).over.length = r.again.length + r.over.length + 1 := by
  unfold dueStep; split <;> simp <;> omega
theorem dueRun_lens (C : Cfg) (now : Nat) (S l : List Cal) : (dueRun C now S l).again.length + (dueRun C now S l).over.length = l.length := by
  have key : ∀ (l : List Cal) (r : DueR), (l.foldl (dueStep C now) r).again.length + (l.foldl (dueStep C now) r).over.length = r.again.length + r.over.length + l.length := by
    intro l
    induction l with
    | nil => intro r; simp
    | cons x t ih => intro r; rw [List.foldl_cons, ih, dueStep_lens]; simp; omega
  have := key l ⟨S, [], []⟩
  simpa [dueRun] using this
/-- what is still to come is still there -/
theorem dueRun_look (C : Cfg) (now : Nat) (S l : List Cal) (hd : (l.map (·.id)).Nodup) (k : Nat) {x : Cal} (hx : l[k]? = some x) (hS : look S x.id = some x) : look (dueRun C now S (l.take k)).S x.id = some x := by
  have key : ∀ (m : List Cal) (r : DueR), (∀ y ∈ m, y.id ≠ x.id) → look r.S x.id = some x → look (m.foldl (dueStep C now) r).S x.id = some x := by
    intro m
    induction m with
    | nil => intro r _ h; exact h
    | cons y t ih =>
      intro r hy h
      rw [List.foldl_cons]
      refine ih _ (fun z hz => hy z (List.mem_cons_of_mem _ hz)) ?_
      rw [dueStep_look _ _ _ _ (Ne.symm (hy y (List.mem_cons_self ..)))]
      exact h
  refine key _ _ (fun y hy e => ?_) hS
  obtain ⟨j, hj, hjy⟩ := List.getElem_of_mem hy
  have hjk : j < k := by simp at hj; omega
  have hkl := (List.getElem?_eq_some_iff.1 hx).1
  have h1 : (l.map (·.id))[j]? = some x.id := by
    rw [List.getElem?_map, List.getElem?_eq_getElem (by omega)]
    rw [List.getElem_take] at hjy
    rw [hjy]; simp [e]
  have h2 : (l.map (·.id))[k]? = some x.id := by rw [List.getElem?_map, hx]; rfl
  have := (List.getElem?_inj (by simp; omega) hd).1 (h1.trans h2.symm)
  omega
theorem lay5_row {w : World} {b : Nat} {c0 c1 c2 c3 c4 : Value} (h : Row5 w b c0 c1 c2 c3 c4) (d0 d1 d2 d3 d4 : Value) : Row5 (lay5 w b d0 d1 d2 d3 d4) b d0 d1 d2 d3 d4 := by
  have h0 : Row5 (w.setCell ⟨b, 0, none⟩ d0) b d0 c1 c2 c3 c4 := heap_setCell_same w b 0 _ _ d0 h
  have h1 : Row5 ((w.setCell ⟨b, 0, none⟩ d0).setCell ⟨b, 1, none⟩ d1) b d0 d1 c2 c3 c4 := heap_setCell_same _ b 1 _ _ d1 h0
  have h2 : Row5 (((w.setCell ⟨b, 0, none⟩ d0).setCell ⟨b, 1, none⟩ d1).setCell ⟨b, 2, none⟩ d2) b d0 d1 d2 c3 c4 := heap_setCell_same _ b 2 _ _ d2 h1
  have h3 : Row5 ((((w.setCell ⟨b, 0, none⟩ d0).setCell ⟨b, 1, none⟩ d1).setCell ⟨b, 2, none⟩ d2).setCell ⟨b, 3, none⟩ d3) b d0 d1 d2 d3 c4 := heap_setCell_same _ b 3 _ _ d3 h2
  exact heap_setCell_same _ b 4 _ _ d4 h3
/-- two rows of the call's own, apart -/
def Apart (u v : Value) : Prop := ∀ g, u.ownBlock = some g → v.ownBlock ≠ some g
theorem Apart.symm {u v : Value} (h : Apart u v) : Apart v u := fun g hg e => h g e hg
theorem Apart.grow {u u' v : Value} {H : Nat} (h : Apart u v) (hg : u'.ownBlock = u.ownBlock ∨ u'.ownBlock = some H) (hv : ∀ g, v.ownBlock = some g → g < H) : Apart u' v := by
  intro g e1 e2
  rcases hg with h1 | h1
  · exact h g (h1 ▸ e1) e2
  · rw [h1] at e1
    injection e1 with e1
    have := hv g e2
    omega
theorem owns_grown {w w' : World} {B : Nat} {u v : Value} {n : Nat} {xs : List Value} (h : w.ownsRow B 70 5 v n xs) (hg : w.grownBy w' u.ownBlock) (ha : Apart u v) : w'.ownsRow B 70 5 v n xs :=
  h.kept hg (by
    cases hq : v.ownBlock with
    | none => exact .inl rfl
    | some g => exact .inr (fun e => ha g e.symm hq))
theorem owns_lt {w : World} {B : Nat} {v : Value} {n : Nat} {xs : List Value} (h : w.ownsRow B 70 5 v n xs) : ∀ g, v.ownBlock = some g → B ≤ g ∧ g < w.heap.size := h.lt
theorem keep_grownO {w w' : World} {o : Option Nat} (h : w.grownBy w' o) : Keep o.toList w w' :=
  ⟨h.os, h.tape, h.output, h.size, fun k hk hn => h.block k hk fun e => hn (by rw [← e]; simp)⟩
/-- the head of a round of Due -/
structure DueRel (w w1 : World) (B hn gm made : Nat) (S : List Cal) (C : Cfg) (now : Nat) (l : List Cal) (vs v6 v7 : Value) (k : Nat) (wr : World) : Prop where
  st : CalsW wr B hn gm (dueRun C now S (l.take k)).S C made
  keep : Keep [gm] w1 wr
  o6 : wr.ownsRow w.heap.size 70 5 v6 (dueRun C now S (l.take k)).again.length (lc (dueRun C now S (l.take k)).again)
  o7 : wr.ownsRow w.heap.size 70 5 v7 (dueRun C now S (l.take k)).over.length (lc (dueRun C now S (l.take k)).over)
  os : wr.ownsRow w.heap.size 70 5 vs l.length (lc l)
  a67 : Apart v6 v7
  a6 : Apart v6 vs
  a7 : Apart v7 vs
  n6 : ∀ g, v6.ownBlock = some g → w1.heap.size ≤ g
  n7 : ∀ g, v7.ownBlock = some g → w1.heap.size ≤ g
  ns : ∀ g, vs.ownBlock = some g → w.heap.size + 2 ≤ g
  lt : hn < w.heap.size ∧ gm < w.heap.size
  le : w.heap.size < w1.heap.size
section
variable {w w1 wr w3 w4 w5 : World} {B hn gm made now k : Nat} {S l : List Cal} {C : Cfg} {vs v6 v7 v' : Value} {x : Cal}
theorem DueRel.over (h : DueRel w w1 B hn gm made S C now l vs v6 v7 k wr) (hs : dueRun C now S (l.take (k + 1)) = dueStep C now (dueRun C now S (l.take k)) x) (hx : C.tries ≤ x.tries)
    (k3 : Keep [gm] wr w3) (h3 : CalsW w3 B hn gm (wo (dueRun C now S (l.take k)).S x.id) C made) (hw4 : w4 = w3.alloc (boxc x))
    (ho : w5.ownsRow w.heap.size 70 5 v' ((dueRun C now S (l.take k)).over.length + 1) (lc (dueRun C now S (l.take k)).over ++ x.list)) (hg : w4.grownBy w5 v7.ownBlock) (hb : v'.ownBlock = v7.ownBlock ∨ v'.ownBlock = some w4.heap.size) :
    DueRel w w1 B hn gm made S C now l vs v6 v' (k + 1) w5 := by
  have hst : dueRun C now S (l.take (k + 1)) = ⟨wo (dueRun C now S (l.take k)).S x.id, (dueRun C now S (l.take k)).again, (dueRun C now S (l.take k)).over ++ [x]⟩ := by rw [hs, dueStep, if_pos hx]
  have b4 : Below w3.heap.size w3 w4 := by rw [hw4]; exact below_alloc (Below.refl _ _) _
  have k5 := keep_grownO hg
  have ka : Keep ([gm] ++ v7.ownBlock.toList) wr w5 := ((k3.mono (by simp)).trans (Keep.of_below b4 _)).trans (k5.mono (fun q hq => .inl (List.mem_append_right _ hq)))
  have hlt := h.lt; have hle := h.le
  have hk1 := h.keep.size
  have m7 : ∀ g, v7.ownBlock = some g → w1.heap.size ≤ g := h.n7
  have hgm : ∀ g, w.heap.size ≤ g → g ≠ gm := fun g hg e => by omega
  have kb : Keep (v7.ownBlock.toList) w3 w5 := (Keep.of_below b4 _).trans k5
  have hs4 : wr.heap.size ≤ w4.heap.size := Nat.le_trans k3.size b4.size
  have hown : ∀ {v : Value} {n : Nat} {xs : List Value}, wr.ownsRow w.heap.size 70 5 v n xs → Apart v7 v → w5.ownsRow w.heap.size 70 5 v n xs := fun hv ha => owns_keep hv ka (fun g hg hm => by
    rcases List.mem_append.1 hm with h1 | h1
    · simp at h1; exact hgm g (owns_lt hv g hg).1 h1
    · simp at h1; exact ha g h1 hg)
  refine ⟨?_, ?_, ?_, ?_, hown h.os h.a7, ?_, h.a6, ?_, h.n6, ?_, h.ns, h.lt, h.le⟩
  · rw [hst]
    refine h3.keep kb ?_ ?_
    · intro hm; simp at hm; have := m7 _ hm; omega
    · intro hm; simp at hm; have := m7 _ hm; omega
  · refine ((h.keep.mono (T := [gm] ++ v7.ownBlock.toList) (by simp)).trans ka).mono fun q hq => ?_
    rcases List.mem_append.1 hq with h1 | h1
    · exact .inl h1
    · simp at h1; exact .inr (m7 q h1)
  · rw [hst]; exact hown h.o6 h.a67.symm
  · rw [hst]; simp only [List.length_append, List.length_cons, List.length_nil, lc, fl_app, fl_one]; exact ho
  · exact (h.a67.symm.grow hb (fun g hg => Nat.lt_of_lt_of_le (owns_lt h.o6 g hg).2 hs4)).symm
  · exact h.a7.grow hb (fun g hg => Nat.lt_of_lt_of_le (owns_lt h.os g hg).2 hs4)
  · intro g hg
    rcases hb with h1 | h1
    · exact h.n7 g (h1 ▸ hg)
    · rw [h1] at hg; injection hg with hg; omega
theorem DueRel.again (h : DueRel w w1 B hn gm made S C now l vs v6 v7 k wr) (hs : dueRun C now S (l.take (k + 1)) = dueStep C now (dueRun C now S (l.take k)) x) (hx : ¬ C.tries ≤ x.tries)
    (k3 : Keep [gm] wr w3) (h3 : CalsW w3 B hn gm (upS (dueRun C now S (l.take k)).S x.id (triedC C x now)) C made) (hw4 : w4 = w3.alloc (boxc (triedC C x now)))
    (ho : w5.ownsRow w.heap.size 70 5 v' ((dueRun C now S (l.take k)).again.length + 1) (lc (dueRun C now S (l.take k)).again ++ (triedC C x now).list)) (hg : w4.grownBy w5 v6.ownBlock) (hb : v'.ownBlock = v6.ownBlock ∨ v'.ownBlock = some w4.heap.size) :
    DueRel w w1 B hn gm made S C now l vs v' v7 (k + 1) w5 := by
  have hst : dueRun C now S (l.take (k + 1)) = ⟨upS (dueRun C now S (l.take k)).S x.id (triedC C x now), (dueRun C now S (l.take k)).again ++ [triedC C x now], (dueRun C now S (l.take k)).over⟩ := by rw [hs, dueStep, if_neg hx]
  have b4 : Below w3.heap.size w3 w4 := by rw [hw4]; exact below_alloc (Below.refl _ _) _
  have k5 := keep_grownO hg
  have ka : Keep ([gm] ++ v6.ownBlock.toList) wr w5 := ((k3.mono (by simp)).trans (Keep.of_below b4 _)).trans (k5.mono (fun q hq => .inl (List.mem_append_right _ hq)))
  have hlt := h.lt; have hle := h.le
  have hk1 := h.keep.size
  have m7 : ∀ g, v6.ownBlock = some g → w1.heap.size ≤ g := h.n6
  have hgm : ∀ g, w.heap.size ≤ g → g ≠ gm := fun g hg e => by omega
  have kb : Keep (v6.ownBlock.toList) w3 w5 := (Keep.of_below b4 _).trans k5
  have hs4 : wr.heap.size ≤ w4.heap.size := Nat.le_trans k3.size b4.size
  have hown : ∀ {v : Value} {n : Nat} {xs : List Value}, wr.ownsRow w.heap.size 70 5 v n xs → Apart v6 v → w5.ownsRow w.heap.size 70 5 v n xs := fun hv ha => owns_keep hv ka (fun g hg hm => by
    rcases List.mem_append.1 hm with h1 | h1
    · simp at h1; exact hgm g (owns_lt hv g hg).1 h1
    · simp at h1; exact ha g h1 hg)
  refine ⟨?_, ?_, ?_, ?_, hown h.os h.a6, ?_, ?_, h.a7, ?_, h.n7, h.ns, h.lt, h.le⟩
  · rw [hst]
    refine h3.keep kb ?_ ?_
    · intro hm; simp at hm; have := m7 _ hm; omega
    · intro hm; simp at hm; have := m7 _ hm; omega
  · refine ((h.keep.mono (T := [gm] ++ v6.ownBlock.toList) (by simp)).trans ka).mono fun q hq => ?_
    rcases List.mem_append.1 hq with h1 | h1
    · exact .inl h1
    · simp at h1; exact .inr (m7 q h1)
  · rw [hst]; simp only [List.length_append, List.length_cons, List.length_nil, lc, fl_app, fl_one]; exact ho
  · rw [hst]; exact hown h.o7 h.a67
  · exact h.a67.grow hb (fun g hg => Nat.lt_of_lt_of_le (owns_lt h.o7 g hg).2 hs4)
  · exact h.a6.grow hb (fun g hg => Nat.lt_of_lt_of_le (owns_lt h.os g hg).2 hs4)
  · intro g hg
    rcases hb with h1 | h1
    · exact h.n6 g (h1 ▸ hg)
    · rw [h1] at hg; injection hg with hg; omega
end
section
variable {B hn gm made : Nat} {S : List Cal} {C : Cfg}
set_option maxHeartbeats 800000 in
theorem due_bad (now : Int) (hn0 : timeB now = false) (rv : Value) (w : World) : Calls Try.prog 26 #[rv, .int .i64 now] w fun e w' => e = .returned (.tuple #[.slice none 0 0, .slice none 0 0]) ∧ Below w.heap.size w w' := by
  have C1 := Lib.hid (istime_any now)
  rw [hn0] at C1
  clear hn0
  go_enter Try.func26, Try.ntmps26
  go_wp2_with (go_at_call 39; refine (C1.out _).mono ?_; rintro e w1 ⟨rfl, rfl⟩)
  go_ret2
  exact ⟨rfl, below_alloc (Below.refl _ _) _⟩
end
end Go.Proofs.Ytjhdlohcjodgjaa
