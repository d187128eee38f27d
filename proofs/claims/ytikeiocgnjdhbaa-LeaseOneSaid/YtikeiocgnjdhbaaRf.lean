/- lease.refusalOfArc, refusal (gen_rf.py writes it). -/
import Derived.Test.YtikeiocgnjdhbaaOd
namespace Go.Proofs.Ytikeiocgnjdhbaa
open Go.RowKit Go.Sort
set_option linter.unusedVariables false
set_option linter.unusedSimpArgs false
set_option maxRecDepth 100000

/-- a decree -/
structure Dc where
  kind : Int
  node : Int
  by_ : Int
  f : Int
  z : Int
  cnt : Int
  seen : Int
abbrev Dc.cells (D : Dc) : Array Value := #[.int .i64 D.kind, .int .i64 D.node, .int .i64 D.by_, .int .i64 D.f, .int .i64 D.z, .int .u32 D.cnt, .int .u32 D.seen]
abbrev Dc.v (D : Dc) : Value := .agg D.cells
abbrev Tb.v (T : Tb) : Value := .agg ⟨T.list⟩
/-- block b holds the decree -/
def DcR (w : World) (b : Nat) (D : Dc) : Prop := w.heap[b]? = some (.cells D.cells 39 (0, 0))
section
variable {w w' : World} {b : Nat} {D : Dc}
theorem DcR.lt (h : DcR w b D) : b < w.heap.size := (Array.getElem?_eq_some_iff.1 h).1
theorem DcR.at_ (h : DcR w b D) (i : Nat) : w.cell? ⟨b, i, none⟩ = D.cells[i]? := cell_of_row w b i _ _ (0, 0) h
theorem DcR.kk (h : DcR w b D) : w.cell? ⟨b, 0, none⟩ = some (.int .i64 D.kind) := h.at_ 0
theorem DcR.nn (h : DcR w b D) : w.cell? ⟨b, 1, none⟩ = some (.int .i64 D.node) := h.at_ 1
theorem DcR.bb (h : DcR w b D) : w.cell? ⟨b, 2, none⟩ = some (.int .i64 D.by_) := h.at_ 2
theorem DcR.ff (h : DcR w b D) : w.cell? ⟨b, 3, none⟩ = some (.int .i64 D.f) := h.at_ 3
theorem DcR.zz (h : DcR w b D) : w.cell? ⟨b, 4, none⟩ = some (.int .i64 D.z) := h.at_ 4
theorem DcR.cc (h : DcR w b D) : w.cell? ⟨b, 5, none⟩ = some (.int .u32 D.cnt) := h.at_ 5
theorem DcR.ss (h : DcR w b D) : w.cell? ⟨b, 6, none⟩ = some (.int .u32 D.seen) := h.at_ 6
theorem DcR.below {B : Nat} (h : DcR w b D) (hb : Below B w w') (hg : b < B) : DcR w' b D := (hb.block b hg).trans h
theorem DcR.keep (h : DcR w b D) (hb : Below w.heap.size w w') : DcR w' b D := h.below hb h.lt
theorem DcR.alloc (h : DcR w b D) (o : Obj) : DcR (w.alloc o) b D := h.keep (below_alloc (Below.refl _ _) o)
theorem DcR.new (w : World) (D : Dc) : DcR (w.alloc (.cells D.cells 39)) w.heap.size D := heap_alloc_new w _
end
/-- both boxed -/
theorem two_boxes (w : World) (T : Tb) (D : Dc) : TbR ((w.alloc (.cells ⟨T.list⟩ 29)).alloc (.cells D.cells 39)) w.heap.size T ∧ DcR ((w.alloc (.cells ⟨T.list⟩ 29)).alloc (.cells D.cells 39)) (w.heap.size + 1) D
    ∧ Below w.heap.size w ((w.alloc (.cells ⟨T.list⟩ 29)).alloc (.cells D.cells 39)) := by
  refine ⟨(TbR.new w T).alloc _, ?_, below_alloc (below_alloc (Below.refl _ _) _) _⟩
  have := DcR.new (w.alloc (.cells ⟨T.list⟩ 29)) D
  rw [World.size_alloc] at this
  exact this

theorem wpList_wanted {P : Program} {ops : Array Oper} {rest : List Oper} {o : Oper} {a : Act} {w : World} {Q : Exit → Act → World → Prop} (hw : Region.wanted o (yielded ops a.tmps) = true) (v : Value)
    (hrun : (execOp a.eval o).run P w = .ok (.value v) w) (h : wpList P ops Q rest (a.put o.dst v) w) : wpList P ops Q (o :: rest) a w :=
  wpList_step fun K hK => by
    rw [if_pos hw]
    unfold Oper.wp
    simp only [hrun, Oper.upon]
    exact hK _ _ h
theorem load_tbw {ops : Array Oper} {rest : List Oper} {o : Oper} {a : Act} {w : World} {Q : Exit → Act → World → Prop} {x : Operand} {g : Nat} {T : Tb} (ho : o.op = .load 29 x) (hx : a.eval x = .pointer (some ⟨g, 0, none⟩)) (hg : TbR w g T) (s : T.Sz)
    (hw : Region.wanted o (yielded ops a.tmps) = true) (h : wpList Try.prog ops Q rest (a.put o.dst (.agg ⟨T.list⟩)) w) : wpList Try.prog ops Q (o :: rest) a w :=
  wpList_wanted hw _ (exec_load 29 x ho hx (hg.load s)) h
/-- why an arc may not go from one to another: 0 if it may -/
def arcNo (T : Tb) (D : Dc) : Int :=
  if rightB D.f D.z = false ∨ D.z = 0 then 1
  else if D.by_ = D.node ∨ allB T D.by_ D.f (np D.f D.z) = false then 141
  else if D.kind = 3 ∧ T.r D.by_.toNat ≠ D.seen then 142 else 0
theorem np_right {f z : Int} (h : rightB f z = true) : (np f z : Int) = z := by
  have := right_spec.1 h
  unfold np; rw [places_length, if_pos h]; omega
theorem by_node {T : Tb} {D : Dc} (hr : rightB D.f D.z = true) (hz : ¬ D.z = 0) (ha : allB T D.by_ D.f (np D.f D.z) = true) : 0 ≤ D.by_ ∧ D.by_ < 12 := by
  have h1 := right_spec.1 hr
  have h2 := np_right hr
  have h3 := List.all_eq_true.1 ha 0 (by simp; omega)
  unfold ownB at h3
  rw [Bool.and_eq_true] at h3
  exact isN_spec.1 h3.1
set_option maxHeartbeats 1000000 in
theorem arc_no (T : Tb) (s : T.Sz) (D : Dc) (hr : rightB D.f D.z = false) : Ret 34 #[T.v, D.v] (.returned (.int .i64 1)) := by
  intro w
  have C1 := Lib.hid (right_any D.f D.z)
  rw [hr] at C1
  clear hr
  obtain ⟨h1, h2, hW⟩ := two_boxes w T D
  go_enter Try.func34, Try.ntmps34
  go_upto_region 1 with (fail)
  generalize (w.alloc (.cells ⟨T.list⟩ 29)).alloc (.cells D.cells 39) = W at *
  have cf := h2.ff
  have cz := h2.zz
  have H1 := Lib.hid h1
  have H2 := Lib.hid h2
  clear h1 h2
  go_wp2_with fail
  refine (C1.out _).mono ?_
  rintro e w1 ⟨rfl, l1⟩
  replace H1 := Lib.hid (H1.out.keep l1)
  replace H2 := Lib.hid (H2.out.keep l1)
  have HW := Lib.hid (below_next hW l1)
  clear cf cz hW l1
  go_wp2_with fail
  go_ret
  exact ⟨rfl, HW.out⟩

set_option maxHeartbeats 1000000 in
theorem arc_zero (T : Tb) (s : T.Sz) (D : Dc) (hr : rightB D.f D.z = true) (hz : D.z = 0) : Ret 34 #[T.v, D.v] (.returned (.int .i64 1)) := by
  intro w
  have C1 := Lib.hid (right_any D.f D.z)
  rw [hr] at C1
  clear hr
  have HZ := Lib.hid hz; clear hz
  obtain ⟨h1, h2, hW⟩ := two_boxes w T D
  go_enter Try.func34, Try.ntmps34
  go_upto_region 1 with (fail)
  generalize (w.alloc (.cells ⟨T.list⟩ 29)).alloc (.cells D.cells 39) = W at *
  have cf := h2.ff
  have cz := h2.zz
  have H1 := Lib.hid h1
  have H2 := Lib.hid h2
  clear h1 h2
  go_wp2_with fail
  refine (C1.out _).mono ?_
  rintro e w1 ⟨rfl, l1⟩
  replace H1 := Lib.hid (H1.out.keep l1)
  replace H2 := Lib.hid (H2.out.keep l1)
  have HW := Lib.hid (below_next hW l1)
  clear cf cz hW l1
  have cz := H2.out.zz
  rw [HZ.out] at cz
  clear HZ
  go_wp2_with fail
  go_ret
  exact ⟨rfl, HW.out⟩

set_option maxHeartbeats 1000000 in
theorem arc_self (T : Tb) (s : T.Sz) (D : Dc) (hr : rightB D.f D.z = true) (hz : ¬ D.z = 0) (hb : D.by_ = D.node) : Ret 34 #[T.v, D.v] (.returned (.int .i64 141)) := by
  intro w
  have C1 := Lib.hid (right_any D.f D.z)
  rw [hr] at C1
  clear hr
  have HB := Lib.hid hb; clear hb
  obtain ⟨h1, h2, hW⟩ := two_boxes w T D
  go_enter Try.func34, Try.ntmps34
  go_upto_region 1 with (fail)
  generalize (w.alloc (.cells ⟨T.list⟩ 29)).alloc (.cells D.cells 39) = W at *
  have cf := h2.ff
  have cz := h2.zz
  have H1 := Lib.hid h1
  have H2 := Lib.hid h2
  clear h1 h2
  go_wp2_with fail
  refine (C1.out _).mono ?_
  rintro e w1 ⟨rfl, l1⟩
  replace H1 := Lib.hid (H1.out.keep l1)
  replace H2 := Lib.hid (H2.out.keep l1)
  have HW := Lib.hid (below_next hW l1)
  clear cf cz hW l1
  have cz := H2.out.zz
  have cb := H2.out.bb
  have cn := H2.out.nn
  rw [HB.out] at cb
  clear HB
  go_wp2_with fail
  go_ret
  exact ⟨rfl, HW.out⟩

set_option maxHeartbeats 1000000 in
theorem arc_owner (T : Tb) (s : T.Sz) (D : Dc) (hr : rightB D.f D.z = true) (hz : ¬ D.z = 0) (hb : ¬ D.by_ = D.node) (ha : allB T D.by_ D.f (np D.f D.z) = false) : Ret 34 #[T.v, D.v] (.returned (.int .i64 141)) := by
  intro w
  have C1 := Lib.hid (right_any D.f D.z)
  rw [hr] at C1
  clear hr
  have C2 := Lib.hid (ownsall_any T s D.by_ D.f D.z)
  rw [ha] at C2
  clear ha
  obtain ⟨h1, h2, hW⟩ := two_boxes w T D
  go_enter Try.func34, Try.ntmps34
  go_upto_region 1 with (fail)
  generalize (w.alloc (.cells ⟨T.list⟩ 29)).alloc (.cells D.cells 39) = W at *
  have cf := h2.ff
  have cz := h2.zz
  have H1 := Lib.hid h1
  have H2 := Lib.hid h2
  clear h1 h2
  go_wp2_with fail
  refine (C1.out _).mono ?_
  rintro e w1 ⟨rfl, l1⟩
  replace H1 := Lib.hid (H1.out.keep l1)
  replace H2 := Lib.hid (H2.out.keep l1)
  have HW := Lib.hid (below_next hW l1)
  clear cf cz hW l1
  have cz := H2.out.zz
  have cb := H2.out.bb
  have cn := H2.out.nn
  have cf := H2.out.ff
  go_wp2_with (first
    | (refine load_tbw (T := T) rfl rfl H1.out s ?_ ?_; · simp [Region.wanted, yielded, hb]))
  refine (C2.out _).mono ?_
  rintro e w2 ⟨rfl, l2⟩
  replace H1 := Lib.hid (H1.out.keep l2)
  replace H2 := Lib.hid (H2.out.keep l2)
  replace HW := Lib.hid (below_next HW.out l2)
  clear cz cb cn cf l2
  go_wp2_with fail
  go_ret
  exact ⟨rfl, HW.out⟩

set_option maxHeartbeats 1000000 in
theorem arc_move (T : Tb) (s : T.Sz) (D : Dc) (hr : rightB D.f D.z = true) (hz : ¬ D.z = 0) (hb : ¬ D.by_ = D.node) (ha : allB T D.by_ D.f (np D.f D.z) = true) (hk : ¬ D.kind = 3) : Ret 34 #[T.v, D.v] (.returned (.int .i64 0)) := by
  intro w
  have hby := by_node hr hz ha
  have C1 := Lib.hid (right_any D.f D.z)
  rw [hr] at C1
  clear hr
  have C2 := Lib.hid (ownsall_any T s D.by_ D.f D.z)
  rw [ha] at C2
  clear ha
  obtain ⟨h1, h2, hW⟩ := two_boxes w T D
  go_enter Try.func34, Try.ntmps34
  go_upto_region 1 with (fail)
  generalize (w.alloc (.cells ⟨T.list⟩ 29)).alloc (.cells D.cells 39) = W at *
  have cf := h2.ff
  have cz := h2.zz
  have H1 := Lib.hid h1
  have H2 := Lib.hid h2
  clear h1 h2
  go_wp2_with fail
  refine (C1.out _).mono ?_
  rintro e w1 ⟨rfl, l1⟩
  replace H1 := Lib.hid (H1.out.keep l1)
  replace H2 := Lib.hid (H2.out.keep l1)
  have HW := Lib.hid (below_next hW l1)
  clear cf cz hW l1
  have cz := H2.out.zz
  have cb := H2.out.bb
  have cn := H2.out.nn
  have cf := H2.out.ff
  go_wp2_with (first
    | (refine load_tbw (T := T) rfl rfl H1.out s ?_ ?_; · simp [Region.wanted, yielded, hb]))
  refine (C2.out _).mono ?_
  rintro e w2 ⟨rfl, l2⟩
  replace H1 := Lib.hid (H1.out.keep l2)
  replace H2 := Lib.hid (H2.out.keep l2)
  replace HW := Lib.hid (below_next HW.out l2)
  clear cz cb cn cf l2
  have ck := H2.out.kk
  replace ck := cell_regrown ck
  have hk3 : (D.kind == (3 : Int)) = false := by simpa using hk
  go_upto_region 5 with (fail)
  refine wp_region_quiet_below (by kernel_rfl) (by kernel_rfl) ?_
  repeat (go_big_quiet_step (fail))
  refine wpQuiet_nil ?_
  intro _ hw'
  obtain ⟨⟨dq, osq⟩, hw''⟩ := hw'
  subst hw''
  have lk := below_regrown w2 dq osq
  generalize grow (redrawn w2 dq) osq = w3 at *
  replace HW := Lib.hid (below_next HW.out lk)
  go_wp2_with fail
  go_ret
  exact ⟨rfl, HW.out⟩

set_option maxHeartbeats 1000000 in
theorem arc_seen (T : Tb) (s : T.Sz) (D : Dc) (hr : rightB D.f D.z = true) (hz : ¬ D.z = 0) (hb : ¬ D.by_ = D.node) (ha : allB T D.by_ D.f (np D.f D.z) = true) (hk : D.kind = 3) (hs : ¬ T.r D.by_.toNat = D.seen) : Ret 34 #[T.v, D.v] (.returned (.int .i64 142)) := by
  intro w
  have hby := by_node hr hz ha
  have C1 := Lib.hid (right_any D.f D.z)
  rw [hr] at C1
  clear hr
  have C2 := Lib.hid (ownsall_any T s D.by_ D.f D.z)
  rw [ha] at C2
  clear ha
  have HK := Lib.hid hk; clear hk
  have HS := Lib.hid hs; clear hs
  obtain ⟨h1, h2, hW⟩ := two_boxes w T D
  go_enter Try.func34, Try.ntmps34
  go_upto_region 1 with (fail)
  generalize (w.alloc (.cells ⟨T.list⟩ 29)).alloc (.cells D.cells 39) = W at *
  have cf := h2.ff
  have cz := h2.zz
  have H1 := Lib.hid h1
  have H2 := Lib.hid h2
  clear h1 h2
  go_wp2_with fail
  refine (C1.out _).mono ?_
  rintro e w1 ⟨rfl, l1⟩
  replace H1 := Lib.hid (H1.out.keep l1)
  replace H2 := Lib.hid (H2.out.keep l1)
  have HW := Lib.hid (below_next hW l1)
  clear cf cz hW l1
  have cz := H2.out.zz
  have cb := H2.out.bb
  have cn := H2.out.nn
  have cf := H2.out.ff
  go_wp2_with (first
    | (refine load_tbw (T := T) rfl rfl H1.out s ?_ ?_; · simp [Region.wanted, yielded, hb]))
  refine (C2.out _).mono ?_
  rintro e w2 ⟨rfl, l2⟩
  replace H1 := Lib.hid (H1.out.keep l2)
  replace H2 := Lib.hid (H2.out.keep l2)
  replace HW := Lib.hid (below_next HW.out l2)
  clear cz cb cn cf l2
  have ck := H2.out.kk
  rw [HK.out] at ck
  replace ck := cell_regrown ck
  clear HK
  have cb := cell_regrown H2.out.bb
  have cs := cell_regrown H2.out.ss
  obtain ⟨q, hq, hq12⟩ : ∃ q : Nat, D.by_ = (q : Int) ∧ q < 12 := ⟨D.by_.toNat, by omega, by omega⟩
  have cr := cell_regrown (H1.out.ren s hq12)
  rw [hq] at cb
  have hsn : (T.r q != D.seen) = true := by have hs := HS.out; rw [hq] at hs; simpa using hs
  clear HS
  go_upto_region 5 with (fail)
  refine wp_region_quiet_below (by kernel_rfl) (by kernel_rfl) ?_
  repeat (go_big_quiet_step (fail))
  refine wpQuiet_nil ?_
  intro _ hw'
  obtain ⟨⟨dq, osq⟩, hw''⟩ := hw'
  subst hw''
  have lk := below_regrown w2 dq osq
  generalize grow (redrawn w2 dq) osq = w3 at *
  replace HW := Lib.hid (below_next HW.out lk)
  go_wp2_with fail
  go_ret
  exact ⟨rfl, HW.out⟩

set_option maxHeartbeats 1000000 in
theorem arc_take (T : Tb) (s : T.Sz) (D : Dc) (hr : rightB D.f D.z = true) (hz : ¬ D.z = 0) (hb : ¬ D.by_ = D.node) (ha : allB T D.by_ D.f (np D.f D.z) = true) (hk : D.kind = 3) (hs : T.r D.by_.toNat = D.seen) : Ret 34 #[T.v, D.v] (.returned (.int .i64 0)) := by
  intro w
  have hby := by_node hr hz ha
  have C1 := Lib.hid (right_any D.f D.z)
  rw [hr] at C1
  clear hr
  have C2 := Lib.hid (ownsall_any T s D.by_ D.f D.z)
  rw [ha] at C2
  clear ha
  have HK := Lib.hid hk; clear hk
  have HS := Lib.hid hs; clear hs
  obtain ⟨h1, h2, hW⟩ := two_boxes w T D
  go_enter Try.func34, Try.ntmps34
  go_upto_region 1 with (fail)
  generalize (w.alloc (.cells ⟨T.list⟩ 29)).alloc (.cells D.cells 39) = W at *
  have cf := h2.ff
  have cz := h2.zz
  have H1 := Lib.hid h1
  have H2 := Lib.hid h2
  clear h1 h2
  go_wp2_with fail
  refine (C1.out _).mono ?_
  rintro e w1 ⟨rfl, l1⟩
  replace H1 := Lib.hid (H1.out.keep l1)
  replace H2 := Lib.hid (H2.out.keep l1)
  have HW := Lib.hid (below_next hW l1)
  clear cf cz hW l1
  have cz := H2.out.zz
  have cb := H2.out.bb
  have cn := H2.out.nn
  have cf := H2.out.ff
  go_wp2_with (first
    | (refine load_tbw (T := T) rfl rfl H1.out s ?_ ?_; · simp [Region.wanted, yielded, hb]))
  refine (C2.out _).mono ?_
  rintro e w2 ⟨rfl, l2⟩
  replace H1 := Lib.hid (H1.out.keep l2)
  replace H2 := Lib.hid (H2.out.keep l2)
  replace HW := Lib.hid (below_next HW.out l2)
  clear cz cb cn cf l2
  have ck := H2.out.kk
  rw [HK.out] at ck
  replace ck := cell_regrown ck
  clear HK
  have cb := cell_regrown H2.out.bb
  have cs := cell_regrown H2.out.ss
  obtain ⟨q, hq, hq12⟩ : ∃ q : Nat, D.by_ = (q : Int) ∧ q < 12 := ⟨D.by_.toNat, by omega, by omega⟩
  have cr := cell_regrown (H1.out.ren s hq12)
  rw [hq] at cb
  have hsn : (T.r q != D.seen) = false := by have hs := HS.out; rw [hq] at hs; simpa using hs
  clear HS
  go_upto_region 5 with (fail)
  refine wp_region_quiet_below (by kernel_rfl) (by kernel_rfl) ?_
  repeat (go_big_quiet_step (fail))
  refine wpQuiet_nil ?_
  intro _ hw'
  obtain ⟨⟨dq, osq⟩, hw''⟩ := hw'
  subst hw''
  have lk := below_regrown w2 dq osq
  generalize grow (redrawn w2 dq) osq = w3 at *
  replace HW := Lib.hid (below_next HW.out lk)
  go_wp2_with fail
  go_ret
  exact ⟨rfl, HW.out⟩

theorem arc_any (T : Tb) (s : T.Sz) (D : Dc) : Ret 34 #[T.v, D.v] (.returned (.int .i64 (arcNo T D))) := by
  unfold arcNo
  cases hr : rightB D.f D.z
  · rw [if_pos (.inl rfl)]; exact arc_no T s D hr
  · by_cases hz : D.z = 0
    · rw [if_pos (.inr hz)]; exact arc_zero T s D hr hz
    · rw [if_neg (by rintro (h | h); cases h; exact hz h)]
      by_cases hb : D.by_ = D.node
      · rw [if_pos (.inl hb)]; exact arc_self T s D hr hz hb
      · cases ha : allB T D.by_ D.f (np D.f D.z)
        · rw [if_pos (.inr rfl)]; exact arc_owner T s D hr hz hb ha
        · rw [if_neg (by rintro (h | h); exact hb h; cases h)]
          by_cases hk : D.kind = 3
          · by_cases hs : T.r D.by_.toNat = D.seen
            · rw [if_neg (fun h => h.2 hs)]; exact arc_take T s D hr hz hb ha hk hs
            · rw [if_pos ⟨hk, hs⟩]; exact arc_seen T s D hr hz hb ha hk hs
          · rw [if_neg (fun h => hk h.1)]; exact arc_move T s D hr hz hb ha hk
end Go.Proofs.Ytikeiocgnjdhbaa
