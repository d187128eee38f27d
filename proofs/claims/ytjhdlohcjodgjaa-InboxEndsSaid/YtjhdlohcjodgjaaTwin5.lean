/- A step of a script: Close. -/
import Derived.Test.YtjhdlohcjodgjaaTwin3
namespace Go.Proofs.Ytjhdlohcjodgjaa
open Go.RowKit
set_option linter.unusedVariables false

section
variable {w : World} {B tb hn gm rb cap now k : Nat} {ao : Option Addr} {T : List Cal} {C : Cfg}
theorem closeV_agg (T : List Cal) (id : Nat) : ∃ a b c d e : Int, closeV T id = .agg #[.int .u64 a, .int .i64 b, .int .i64 c, .int .i64 d, .int .i64 e] := by
  unfold closeV
  split
  · split
    · exact ⟨_, _, _, _, _, rfl⟩
    · exact ⟨_, _, _, _, _, rfl⟩
  · exact ⟨_, _, _, _, _, rfl⟩
theorem closeT_tries (h : ∀ x ∈ T, x.tries ≤ C.tries) (id : Nat) : ∀ x ∈ closeT T id, x.tries ≤ C.tries := by
  intro x hx
  unfold closeT at hx
  split at hx
  · split at hx
    · rcases List.mem_or_eq_of_mem_set hx with h1 | h1
      · exact h x h1
      · subst h1; simp [Cal.ended]
    · exact h x hx
  · exact h x hx
def ErrOr (ev : Value) (x : Nat) (w : World) : Prop := (ev = .nilIface ∧ x = 0) ∨ ∃ pb, ev = errV pb ∧ ErrAt w pb (x : Int)
theorem lawfault_or {ev : Value} {x : Nat} (w : World) (h : ErrOr ev x w) : Calls Try.prog 27 #[ev] w fun e w' => e = .returned (.tuple #[.int .i64 (x : Int), .bool true]) ∧ Below w.heap.size w w' := by
  rcases h with ⟨rfl, rfl⟩ | ⟨pb, rfl, h⟩
  · exact (lawfault_nil w).mono fun e w' ⟨h1, h2⟩ => ⟨h1, h2 ▸ Below.refl _ _⟩
  · exact lawfault_any pb x w h
theorem ErrOr.below {ev : Value} {x : Nat} {w w' : World} (h : ErrOr ev x w) (b : Below w.heap.size w w') : ErrOr ev x w' := by
  rcases h with h | ⟨pb, h1, h2⟩
  · exact .inl h
  · exact .inr ⟨pb, h1, h2.below b⟩
/-- the number that a script's int is -/
def uId (n : Int) : Nat := (IntKind.u64.wrap n).toNat
theorem uId_wrap (n : Int) : ((uId n : Nat) : Int) = IntKind.u64.wrap n ∧ uId n < 18446744073709551616 := by
  have h1 : IntKind.u64.wrap n = n % 18446744073709551616 := rfl
  unfold uId
  rw [h1]
  omega
abbrev kin (v0 v1 v2 v3 v4 : Int) : Array Value := #[.int .u64 v0, .int .i64 v1, .int .i64 v2, .int .i64 v3, .int .i64 v4]
theorem aclose_v {hn gm : Nat} {v0 v1 v2 v3 v4 : Int} (n : Int) (w : World) (h : CalsW w B hn gm (live T) C T.length) (hI : IdsO 0 T) (hv : closeV T (uId n) = .agg (kin v0 v1 v2 v3 v4)) :
    Calls Try.prog 25 #[.pointer (some ⟨hn, 0, none⟩), .int .u64 (IntKind.u64.wrap n)] w fun e w' =>
    ∃ ev, e = .returned (.tuple #[.agg (kin v0 v1 v2 v3 v4), ev]) ∧ ErrOr ev (closeE T (uId n)) w' ∧ CalsW w' B hn gm (live (closeT T (uId n))) C (closeT T (uId n)).length ∧ Keep [hn, gm] w w' := by
  obtain ⟨e1, e2⟩ := uId_wrap n
  have := aclose_any (uId n) e2 w h hI
  rw [e1, hv] at this
  exact this
theorem rclose_v {v0 v1 v2 v3 v4 : Int} (n : Int) (w : World) (h : RefW w B rb ao cap T C) (hT : T.length ≤ 1000) (hv : closeV T (uId n) = .agg (kin v0 v1 v2 v3 v4)) :
    Calls Try.prog 33 #[.pointer (some ⟨rb, 0, none⟩), .int .u64 (IntKind.u64.wrap n)] w fun e w' =>
    e = .returned (.tuple #[.agg (kin v0 v1 v2 v3 v4), .int .i64 (closeE T (uId n) : Int)]) ∧ RefW w' B rb ao cap (closeT T (uId n)) C ∧ Keep (rb :: blk ao) w w' := by
  obtain ⟨e1, e2⟩ := uId_wrap n
  have := rclose_any (uId n) e2 w h hT
  rw [e1, hv] at this
  exact this
/-- a block of five is laid anew, cell by cell -/
abbrev put5 (w : World) (b : Nat) (v0 v1 v2 v3 v4 : Int) : World :=
  ((((w.setCell ⟨b, 0, none⟩ (.int .u64 v0)).setCell ⟨b, 1, none⟩ (.int .i64 v1)).setCell ⟨b, 2, none⟩ (.int .i64 v2)).setCell ⟨b, 3, none⟩ (.int .i64 v3)).setCell ⟨b, 4, none⟩ (.int .i64 v4)
theorem keep_put5 (w : World) (b : Nat) (v0 v1 v2 v3 v4 : Int) : Keep [b] w (put5 w b v0 v1 v2 v3 v4) :=
  ((((Keep.setCell w ⟨b, 0, none⟩ _).trans (Keep.setCell _ ⟨b, 1, none⟩ _)).trans (Keep.setCell _ ⟨b, 2, none⟩ _)).trans (Keep.setCell _ ⟨b, 3, none⟩ _)).trans (Keep.setCell _ ⟨b, 4, none⟩ _)
theorem row_put5 {w : World} {b : Nat} (h : w.heap[b]? = some (.cells zcells 70 (0, 0))) (v0 v1 v2 v3 v4 : Int) : (put5 w b v0 v1 v2 v3 v4).heap[b]? = some (.cells (kin v0 v1 v2 v3 v4) 70 (0, 0)) :=
  heap_setCell_same _ b 4 _ _ _ (heap_setCell_same _ b 3 _ _ _ (heap_setCell_same _ b 2 _ _ _ (heap_setCell_same _ b 1 _ _ _ (heap_setCell_same w b 0 _ _ _ h))))
/-- the program's Close is over, and its call lies in a block of the step's own -/
structure ClA (W W5 : World) (B hn gm b : Nat) (T : List Cal) (C : Cfg) (id : Nat) (ev : Value) (v0 v1 v2 v3 v4 : Int) : Prop where
  cals : CalsW W5 B hn gm (live (closeT T id)) C (closeT T id).length
  keep : Keep [hn, gm] W W5
  err : ErrOr ev (closeE T id) W5
  row : W5.heap[b]? = some (.cells (kin v0 v1 v2 v3 v4) 70 (0, 0))
  new : W.heap.size ≤ b
variable {W w3 : World} {id : Nat} {ev : Value}
theorem ClA.first {v0 v1 v2 v3 v4 : Int} (h3 : CalsW w3 B hn gm (live (closeT T id)) C (closeT T id).length) (k3 : Keep [hn, gm] W.drew w3) (q3 : ErrOr ev (closeE T id) w3) :
    ClA W (w3.alloc (.cells (kin v0 v1 v2 v3 v4) 70)) B hn gm w3.heap.size T C id ev v0 v1 v2 v3 v4 := by
  have b := below_alloc (Below.refl w3.heap.size w3) (.cells (kin v0 v1 v2 v3 v4) 70)
  have k := (Keep.of_below (Begun.drew W) [hn, gm]).trans k3
  exact ⟨h3.below b, k.trans (Keep.of_below b _), q3.below b, heap_alloc_new w3 _, k.size⟩
theorem ClA.second {v0 v1 v2 v3 v4 : Int} (hA : CalsW W B hn gm (live T) C T.length) (h3 : CalsW w3 B hn gm (live (closeT T id)) C (closeT T id).length) (k3 : Keep [hn, gm] (W.alloc zobj).drew w3) (q3 : ErrOr ev (closeE T id) w3) :
    ClA W (put5 w3 W.heap.size v0 v1 v2 v3 v4) B hn gm W.heap.size T C id ev v0 v1 v2 v3 v4 ∧ w3.heap[W.heap.size]? = some (.cells zcells 70 (0, 0)) := by
  have hlts := hA.lts
  have k1 : Keep [hn, gm] W w3 := (Keep.of_below ((below_alloc (Below.refl _ W) zobj).drew) [hn, gm]).trans k3
  have hz : w3.heap[W.heap.size]? = some (.cells zcells 70 (0, 0)) := (k3.block W.heap.size (by simp [World.drew]) (by simp; omega)).trans (heap_alloc_new W _)
  have kp := keep_put5 w3 W.heap.size v0 v1 v2 v3 v4
  refine ⟨⟨h3.keep kp (by simp; omega) (by simp; omega), (k1.mono (T := [hn, gm, W.heap.size]) (fun g hg => .inl (by simp at hg ⊢; omega))).trans (kp.mono (fun g hg => .inl (by simp at hg ⊢; omega))) |>.mono (fun g hg => ?_), ?_, row_put5 hz v0 v1 v2 v3 v4, Nat.le_refl _⟩, hz⟩
  · simp at hg ⊢; omega
  · rcases q3 with q3 | ⟨pb, q1, q2⟩
    · exact .inl q3
    · refine .inr ⟨pb, q1, q2.keep kp (fun hm => ?_)⟩
      simp at hm; subst hm
      have e1 := q2.num
      rw [cell_of_row w3 _ 0 _ _ (0, 0) hz] at e1
      simp at e1
/-- the document's Close is over -/
structure ClB (W W5 : World) (B rb cap b : Nat) (ao : Option Addr) (T : List Cal) (C : Cfg) (id : Nat) (v0 v1 v2 v3 v4 : Int) : Prop where
  ref : RefW W5 B rb ao cap (closeT T id) C
  keep : Keep (rb :: blk ao) W W5
  row : W5.heap[b]? = some (.cells (kin v0 v1 v2 v3 v4) 70 (0, 0))
theorem ClB.first {v0 v1 v2 v3 v4 : Int} (h3 : RefW w3 B rb ao cap (closeT T id) C) (k3 : Keep (rb :: blk ao) W.drew w3) :
    ClB W (w3.alloc (.cells (kin v0 v1 v2 v3 v4) 70)) B rb cap w3.heap.size ao T C id v0 v1 v2 v3 v4 := by
  have b := below_alloc (Below.refl w3.heap.size w3) (.cells (kin v0 v1 v2 v3 v4) 70)
  have k := (Keep.of_below (Begun.drew W) (rb :: blk ao)).trans k3
  exact ⟨h3.below b, k.trans (Keep.of_below b _), heap_alloc_new w3 _⟩
theorem ClB.second {v0 v1 v2 v3 v4 : Int} (hR : RefW W B rb ao cap T C) (h3 : RefW w3 B rb ao cap (closeT T id) C) (k3 : Keep (rb :: blk ao) (W.alloc zobj).drew w3) :
    ClB W (put5 w3 W.heap.size v0 v1 v2 v3 v4) B rb cap W.heap.size ao T C id v0 v1 v2 v3 v4 ∧ w3.heap[W.heap.size]? = some (.cells zcells 70 (0, 0)) := by
  have hl := hR.hlt
  have hlo : ∀ g ∈ blk ao, g < W.heap.size := fun g hg => (owns_blk hR.own g hg).2
  have hn : W.heap.size ∉ rb :: blk ao := by
    simp only [List.mem_cons, not_or]
    exact ⟨by omega, fun hm => by have := hlo _ hm; omega⟩
  have k1 : Keep (rb :: blk ao) W w3 := (Keep.of_below ((below_alloc (Below.refl _ W) zobj).drew) _).trans k3
  have hz : w3.heap[W.heap.size]? = some (.cells zcells 70 (0, 0)) := (k3.block W.heap.size (by simp [World.drew]) hn).trans (heap_alloc_new W _)
  have kp := keep_put5 w3 W.heap.size v0 v1 v2 v3 v4
  refine ⟨⟨h3.keep kp (by simp; omega) (fun g hg hm => by simp at hm; have := hlo g hg; omega), ((k1.mono (T := W.heap.size :: rb :: blk ao) (fun g hg => .inl (List.mem_cons_of_mem _ hg))).trans (kp.mono (fun g hg => .inl (by simp at hg; simp [hg])))).mono (fun g hg => ?_), row_put5 hz v0 v1 v2 v3 v4⟩, hz⟩
  rcases List.mem_cons.1 hg with rfl | hg
  · exact .inr (Nat.le_refl _)
  · exact .inl hg
theorem Begun.closed {v0 v1 v2 v3 v4 : Int} {w5 w6 w8 : World} {bb bc bx : Nat} {kind n a : Int} {raw : Bool} (h : Begun w W B tb hn gm rb cap ao T C now bx kind n a raw) (hc : ClA W w5 B hn gm bb T C id ev v0 v1 v2 v3 v4) (b6 : Below w5.heap.size w5 w6) (hb : ClB w6 w8 B rb cap bc ao T C id v0 v1 v2 v3 v4) :
    (TwinW w8 B tb hn gm rb cap ao (closeT T id) C now ∧ Below B w w8) ∧ w8.heap[bb]? = some (.cells (kin v0 v1 v2 v3 v4) 70 (0, 0)) := by
  obtain ⟨b1, b2, b3, b4⟩ := h.tw.t2
  have hlo : ∀ g ∈ blk ao, g < W.heap.size := fun g hg => (owns_blk h.tw.R.own g hg).2
  have hrl := h.tw.R.hlt
  have hnew := hc.new
  have kk : Keep (hn :: gm :: rb :: blk ao) W w8 := by
    refine (hc.keep.mono fun g hg => .inl ?_).trans ((Keep.of_below b6 _).trans (hb.keep.mono fun g hg => .inl ?_))
    · simp at hg ⊢; rcases hg with rfl | rfl <;> simp
    · simp only [List.mem_cons] at hg ⊢; rcases hg with rfl | hg <;> simp_all
  refine ⟨⟨h.tw.after kk ((hc.cals.below b6).keep hb.keep ?_ ?_) hb.ref (fun g hg => .inl hg) (closeT_tries h.tw.tries id), h.bel.trans (h.tw.keepB kk)⟩, ?_⟩
  · simp only [List.mem_cons, not_or]; exact ⟨fun e => b1 e.symm, b3⟩
  · simp only [List.mem_cons, not_or]; exact ⟨fun e => b2 e.symm, b4⟩
  · have hlt5 := (Array.getElem?_eq_some_iff.1 hc.row).1
    refine (hb.keep.block bb (Nat.lt_of_lt_of_le hlt5 b6.size) ?_).trans ((b6.block bb hlt5).trans hc.row)
    simp only [List.mem_cons, not_or]
    exact ⟨by omega, fun hm => by have := hlo _ hm; omega⟩
theorem Begun.ref6 {v0 v1 v2 v3 v4 : Int} {w5 w6 : World} {bb bx : Nat} {kind n a : Int} {raw : Bool} (h : Begun w W B tb hn gm rb cap ao T C now bx kind n a raw) (hc : ClA W w5 B hn gm bb T C id ev v0 v1 v2 v3 v4) (b6 : Below w5.heap.size w5 w6) : RefW w6 B rb ao cap T C := by
  obtain ⟨b1, b2, b3, b4⟩ := h.tw.t2
  refine (h.tw.R.keep hc.keep (by simp [b1, b2]) (fun g hg hm => ?_)).below b6
  simp at hm
  rcases hm with rfl | rfl
  · exact b3 hg
  · exact b4 hg
set_option maxRecDepth 100000 in
set_option maxHeartbeats 8000000 in
theorem step_close (n a : Int) (raw : Bool) (h : TwinW w B tb hn gm rb cap ao T C now) (hk : T.length ≤ k) (hk2 : k < 1000) :
    Calls Try.prog 16 #[.pointer (some ⟨tb, 0, none⟩), stv 2 n a raw] w (Stepped B tb hn k w) := by
  obtain ⟨v0, v1, v2, v3, v4, hv⟩ := closeV_agg T (uId n)
  have HV := Lib.hid hv
  clear hv
  have HT := Lib.hid h
  have hT : T.length ≤ 1000 := by omega
  have htb := h.tlt
  have HI := Lib.hid h.time
  have d2 := h.at_ 2
  have e0 := (Begun.of h 2 n a raw).tw.at_ 0; have e1 := (Begun.of h 2 n a raw).tw.at_ 1; have e2 := (Begun.of h 2 n a raw).tw.at_ 2; have f2 := (Begun.of h 2 n a raw).tw.fr 2
  simp only [rowT, List.getElem?_toArray, List.getElem?_cons_succ, List.getElem?_cons_zero] at d2 e0 e1 e2
  obtain ⟨⟨⟨x0, x1, x2, x3⟩, x4⟩⟩ : Nonempty (BoxS w.heap.size 2 n a raw (w.alloc (sto 2 n a raw))) := ⟨(Begun.of h 2 n a raw).box⟩
  have hw := ways raw a now
  unfold Ways at hw
  have HG := Lib.hid (Begun.of h 2 n a raw)
  clear h
  go_enter Try.func16, Try.ntmps16
  obtain ⟨z, hz⟩ : ∃ z : Int, z = (now : Int) := ⟨_, rfl⟩
  rw [← hz] at e2 d2 hw
  have HZ := Lib.hid hz
  have hz0 : 0 ≤ z := by omega
  clear hz
  rcases hw with rfl | ⟨rfl, h2⟩ | ⟨rfl, h2, h3⟩ | ⟨rfl, h2, h3, h4⟩ | ⟨rfl, h2, h3, h4⟩
  all_goals go_wp2_with fail
  all_goals first
    | (replace HG := Lib.hid (Begun.set HT.out 2 n a false (now + a.toNat) (z + a) (by have := HZ.out; have := HI.out; omega) (by have := HZ.out; have := HI.out; omega))
       generalize (w.setCell ⟨tb, 2, none⟩ (.int .i64 (z + a))).alloc (sto 2 n a false) = W at *
       generalize w.heap.size = bx at *
       generalize z + a = q at *
       generalize now + a.toNat = now1 at *)
    | (have hx := (x3 : (w.alloc (sto 2 n a true)).cell? ⟨w.heap.size, 3, none⟩ = some (.bool true))
       clear hx
       generalize w.alloc (sto 2 n a true) = W at *
       generalize w.heap.size = bx at *
       generalize a = q at *
       generalize now = now1 at HG)
    | (generalize w.alloc (sto 2 n a false) = W at *
       generalize w.heap.size = bx at *
       generalize a = q at *
       generalize now = now1 at HG)
  all_goals clear x0 x1 x2 x3 x4 e0 e1 e2 f2 d2
  all_goals have c0 := HG.out.tw.at_ 0
  all_goals have c1 := HG.out.tw.at_ 1
  all_goals simp only [rowT, List.getElem?_toArray, List.getElem?_cons_succ, List.getElem?_cons_zero] at c0 c1
  all_goals obtain ⟨⟨_, y1, _, _⟩, y4⟩ := HG.out.box
  all_goals have htl := HG.out.tw.tlt
  all_goals have HNA := Lib.hid (show tb ∉ [hn, gm] ∧ bx ∉ [hn, gm] from HG.out.apA)
  all_goals have HNP := Lib.hid (show tb ∉ [W.heap.size] ∧ bx ∉ [W.heap.size] from ⟨by simp; omega, by simp; omega⟩)
  all_goals have hS : W.cell? ⟨tb, 0, none⟩ = some (.pointer (some ⟨hn, 0, none⟩)) ∧ W.cell? ⟨tb, 1, none⟩ = some (.pointer (some ⟨rb, 0, none⟩)) ∧ W.cell? ⟨bx, 1, none⟩ = some (.int .i64 n) ∧ tb < W.heap.size ∧ bx < W.heap.size := ⟨c0, c1, y1, htl, y4⟩
  all_goals have HSW := Lib.hid hS
  all_goals go_region_held3 (fun w' => w'.cell? ⟨tb, 0, none⟩ = some (.pointer (some ⟨hn, 0, none⟩)) ∧ w'.cell? ⟨tb, 1, none⟩ = some (.pointer (some ⟨rb, 0, none⟩)) ∧ w'.cell? ⟨bx, 1, none⟩ = some (.int .i64 n) ∧ tb < w'.heap.size ∧ bx < w'.heap.size)
    (first | with_reducible assumption | with_reducible exact HS3.out | with_reducible exact heldKeep HS3.out (keep_put5 w3 bb v0 v1 v2 v3 v4) HNP.out.1 HNP.out.2 | with_reducible exact heldKeep HS3.out (Keep.of_below (below_alloc (Below.refl w3.heap.size w3) _) []) (by simp) (by simp) | with_reducible exact heldKeep HSW.out (Keep.of_below (below_alloc (Below.refl _ W) _).drew []) (by simp) (by simp) | with_reducible exact heldKeep HSW.out (Keep.of_below (Below.refl _ W).drew []) (by simp) (by simp))
    (first
      | (go_at_call 25; with_reducible refine (aclose_v n W.drew (HG.out.tw.A.below (Below.refl _ _).drew) HG.out.tw.R.idsO HV.out).mono ?_; rintro e w3 ⟨ev, rfl, q3, h3, k3⟩; have HCA := Lib.hid (ClA.first (v0 := v0) (v1 := v1) (v2 := v2) (v3 := v3) (v4 := v4) h3 k3 q3); have HS3 := Lib.hid (heldKeep (heldKeep HSW.out (Keep.of_below (Begun.drew W) []) (by simp) (by simp)) k3 HNA.out.1 HNA.out.2); clear h3 q3)
      | (go_at_call 25; with_reducible refine (aclose_v n (W.alloc zobj).drew (HG.out.tw.A.below (below_alloc (Below.refl _ _) _).drew) HG.out.tw.R.idsO HV.out).mono ?_; rintro e w3 ⟨ev, rfl, q3, h3, k3⟩; have HCA2 := Lib.hid (ClA.second (v0 := v0) (v1 := v1) (v2 := v2) (v3 := v3) (v4 := v4) HG.out.tw.A h3 k3 q3); have z0 := cell_of_row w3 _ 0 _ _ (0, 0) HCA2.out.2; have z1 := cell_of_row w3 _ 1 _ _ (0, 0) HCA2.out.2; have z2 := cell_of_row w3 _ 2 _ _ (0, 0) HCA2.out.2; have z3 := cell_of_row w3 _ 3 _ _ (0, 0) HCA2.out.2; have z4 := cell_of_row w3 _ 4 _ _ (0, 0) HCA2.out.2; simp only [zcells, List.getElem?_toArray, List.getElem?_cons_succ, List.getElem?_cons_zero] at z0 z1 z2 z3 z4; have zf := fun i => frozen_of_row w3 W.heap.size i _ _ HCA2.out.2; have zf0 := zf 0; have zf1 := zf 1; have zf2 := zf 2; have zf3 := zf 3; have zf4 := zf 4; have HS3 := Lib.hid (heldKeep (heldKeep HSW.out (Keep.of_below ((below_alloc (Below.refl _ W) zobj).drew) []) (by simp) (by simp)) k3 HNA.out.1 HNA.out.2); clear h3 q3 zf; generalize W.heap.size = bb at *))
  all_goals first
    | (have HC := Lib.hid (show ClA W (w3.alloc (.cells #[.int .u64 v0, .int .i64 v1, .int .i64 v2, .int .i64 v3, .int .i64 v4] 70)) B hn gm w3.heap.size T C (uId n) ev v0 v1 v2 v3 v4 from HCA.out)
       clear HCA
       have hS5 : (w3.alloc (.cells #[.int .u64 v0, .int .i64 v1, .int .i64 v2, .int .i64 v3, .int .i64 v4] 70)).cell? ⟨tb, 0, none⟩ = some (.pointer (some ⟨hn, 0, none⟩)) ∧ (w3.alloc (.cells #[.int .u64 v0, .int .i64 v1, .int .i64 v2, .int .i64 v3, .int .i64 v4] 70)).cell? ⟨tb, 1, none⟩ = some (.pointer (some ⟨rb, 0, none⟩)) ∧ (w3.alloc (.cells #[.int .u64 v0, .int .i64 v1, .int .i64 v2, .int .i64 v3, .int .i64 v4] 70)).cell? ⟨bx, 1, none⟩ = some (.int .i64 n) ∧ tb < (w3.alloc (.cells #[.int .u64 v0, .int .i64 v1, .int .i64 v2, .int .i64 v3, .int .i64 v4] 70)).heap.size ∧ bx < (w3.alloc (.cells #[.int .u64 v0, .int .i64 v1, .int .i64 v2, .int .i64 v3, .int .i64 v4] 70)).heap.size := by assumption
       clear k3 HS3 HNP HSW c0 c1 y1 y4 htl hS
       generalize w3.alloc (.cells #[.int .u64 v0, .int .i64 v1, .int .i64 v2, .int .i64 v3, .int .i64 v4] 70) = w5 at *
       generalize w3.heap.size = bb at *)
    | (have HC := Lib.hid (show ClA W (((((w3.setCell ⟨bb, 0, none⟩ (.int .u64 v0)).setCell ⟨bb, 1, none⟩ (.int .i64 v1)).setCell ⟨bb, 2, none⟩ (.int .i64 v2)).setCell ⟨bb, 3, none⟩ (.int .i64 v3)).setCell ⟨bb, 4, none⟩ (.int .i64 v4)) B hn gm bb T C (uId n) ev v0 v1 v2 v3 v4 from HCA2.out.1)
       clear HCA2 z0 z1 z2 z3 z4 zf0 zf1 zf2 zf3 zf4
       have hS5 : (((((w3.setCell ⟨bb, 0, none⟩ (.int .u64 v0)).setCell ⟨bb, 1, none⟩ (.int .i64 v1)).setCell ⟨bb, 2, none⟩ (.int .i64 v2)).setCell ⟨bb, 3, none⟩ (.int .i64 v3)).setCell ⟨bb, 4, none⟩ (.int .i64 v4)).cell? ⟨tb, 0, none⟩ = some (.pointer (some ⟨hn, 0, none⟩)) ∧ (((((w3.setCell ⟨bb, 0, none⟩ (.int .u64 v0)).setCell ⟨bb, 1, none⟩ (.int .i64 v1)).setCell ⟨bb, 2, none⟩ (.int .i64 v2)).setCell ⟨bb, 3, none⟩ (.int .i64 v3)).setCell ⟨bb, 4, none⟩ (.int .i64 v4)).cell? ⟨tb, 1, none⟩ = some (.pointer (some ⟨rb, 0, none⟩)) ∧ (((((w3.setCell ⟨bb, 0, none⟩ (.int .u64 v0)).setCell ⟨bb, 1, none⟩ (.int .i64 v1)).setCell ⟨bb, 2, none⟩ (.int .i64 v2)).setCell ⟨bb, 3, none⟩ (.int .i64 v3)).setCell ⟨bb, 4, none⟩ (.int .i64 v4)).cell? ⟨bx, 1, none⟩ = some (.int .i64 n) ∧ tb < (((((w3.setCell ⟨bb, 0, none⟩ (.int .u64 v0)).setCell ⟨bb, 1, none⟩ (.int .i64 v1)).setCell ⟨bb, 2, none⟩ (.int .i64 v2)).setCell ⟨bb, 3, none⟩ (.int .i64 v3)).setCell ⟨bb, 4, none⟩ (.int .i64 v4)).heap.size ∧ bx < (((((w3.setCell ⟨bb, 0, none⟩ (.int .u64 v0)).setCell ⟨bb, 1, none⟩ (.int .i64 v1)).setCell ⟨bb, 2, none⟩ (.int .i64 v2)).setCell ⟨bb, 3, none⟩ (.int .i64 v3)).setCell ⟨bb, 4, none⟩ (.int .i64 v4)).heap.size := by assumption
       clear k3 HS3 HNP HSW c0 c1 y1 y4 htl hS
       generalize (((((w3.setCell ⟨bb, 0, none⟩ (.int .u64 v0)).setCell ⟨bb, 1, none⟩ (.int .i64 v1)).setCell ⟨bb, 2, none⟩ (.int .i64 v2)).setCell ⟨bb, 3, none⟩ (.int .i64 v3)).setCell ⟨bb, 4, none⟩ (.int .i64 v4)) = w5 at *)
  all_goals go_wp2_with fail
  all_goals (refine (lawfault_or w5 HC.out.err).mono ?_; rintro e w6 ⟨rfl, b6⟩)
  all_goals have hS6 := heldKeep hS5 (Keep.of_below b6 []) (by simp) (by simp)
  all_goals have HS6 := Lib.hid hS6
  all_goals have HB6 := Lib.hid b6
  all_goals have HR6 := Lib.hid (HG.out.ref6 HC.out b6)
  all_goals have HNR := Lib.hid (show tb ∉ rb :: blk ao ∧ bx ∉ rb :: blk ao from HG.out.apR)
  all_goals have HNQ := Lib.hid (show tb ∉ [w6.heap.size] ∧ bx ∉ [w6.heap.size] from ⟨by simp; omega, by simp; omega⟩)
  all_goals clear b6 hS5 HNA
  all_goals go_wp2_with fail
  all_goals go_region_held3 (fun w' => w'.cell? ⟨tb, 0, none⟩ = some (.pointer (some ⟨hn, 0, none⟩)) ∧ w'.cell? ⟨tb, 1, none⟩ = some (.pointer (some ⟨rb, 0, none⟩)) ∧ w'.cell? ⟨bx, 1, none⟩ = some (.int .i64 n) ∧ tb < w'.heap.size ∧ bx < w'.heap.size)
    (first | with_reducible assumption | with_reducible exact HS7.out | with_reducible exact heldKeep HS7.out (keep_put5 w7 bc v0 v1 v2 v3 v4) HNQ.out.1 HNQ.out.2 | with_reducible exact heldKeep HS7.out (Keep.of_below (below_alloc (Below.refl w7.heap.size w7) _) []) (by simp) (by simp) | with_reducible exact heldKeep HS6.out (Keep.of_below (below_alloc (Below.refl _ w6) _).drew []) (by simp) (by simp) | with_reducible exact heldKeep HS6.out (Keep.of_below (Below.refl _ w6).drew []) (by simp) (by simp))
    (first
      | (go_at_call 33; with_reducible refine (rclose_v n w6.drew (HR6.out.below (Below.refl _ _).drew) hT HV.out).mono ?_; rintro e w7 ⟨rfl, h7, k7⟩; have HCB := Lib.hid (ClB.first (v0 := v0) (v1 := v1) (v2 := v2) (v3 := v3) (v4 := v4) h7 k7); have HS7 := Lib.hid (heldKeep (heldKeep HS6.out (Keep.of_below (Begun.drew w6) []) (by simp) (by simp)) k7 HNR.out.1 HNR.out.2); clear h7)
      | (go_at_call 33; with_reducible refine (rclose_v n (w6.alloc zobj).drew (HR6.out.below (below_alloc (Below.refl _ _) _).drew) hT HV.out).mono ?_; rintro e w7 ⟨rfl, h7, k7⟩; have HCB2 := Lib.hid (ClB.second (v0 := v0) (v1 := v1) (v2 := v2) (v3 := v3) (v4 := v4) HR6.out h7 k7); have z0 := cell_of_row w7 _ 0 _ _ (0, 0) HCB2.out.2; have z1 := cell_of_row w7 _ 1 _ _ (0, 0) HCB2.out.2; have z2 := cell_of_row w7 _ 2 _ _ (0, 0) HCB2.out.2; have z3 := cell_of_row w7 _ 3 _ _ (0, 0) HCB2.out.2; have z4 := cell_of_row w7 _ 4 _ _ (0, 0) HCB2.out.2; simp only [zcells, List.getElem?_toArray, List.getElem?_cons_succ, List.getElem?_cons_zero] at z0 z1 z2 z3 z4; have zf := fun i => frozen_of_row w7 w6.heap.size i _ _ HCB2.out.2; have zf0 := zf 0; have zf1 := zf 1; have zf2 := zf 2; have zf3 := zf 3; have zf4 := zf 4; have HS7 := Lib.hid (heldKeep (heldKeep HS6.out (Keep.of_below ((below_alloc (Below.refl _ w6) zobj).drew) []) (by simp) (by simp)) k7 HNR.out.1 HNR.out.2); clear h7 zf; generalize w6.heap.size = bc at *))
  all_goals first
    | (have HD := Lib.hid (show ClB w6 (w7.alloc (.cells #[.int .u64 v0, .int .i64 v1, .int .i64 v2, .int .i64 v3, .int .i64 v4] 70)) B rb cap w7.heap.size ao T C (uId n) v0 v1 v2 v3 v4 from HCB.out)
       clear HCB
       clear k7 HS7 HNQ HS6 hS6 HNR
       generalize w7.alloc (.cells #[.int .u64 v0, .int .i64 v1, .int .i64 v2, .int .i64 v3, .int .i64 v4] 70) = w8 at *
       generalize w7.heap.size = bc at *)
    | (have HD := Lib.hid (show ClB w6 (((((w7.setCell ⟨bc, 0, none⟩ (.int .u64 v0)).setCell ⟨bc, 1, none⟩ (.int .i64 v1)).setCell ⟨bc, 2, none⟩ (.int .i64 v2)).setCell ⟨bc, 3, none⟩ (.int .i64 v3)).setCell ⟨bc, 4, none⟩ (.int .i64 v4)) B rb cap bc ao T C (uId n) v0 v1 v2 v3 v4 from HCB2.out.1)
       clear HCB2 z0 z1 z2 z3 z4 zf0 zf1 zf2 zf3 zf4
       clear k7 HS7 HNQ HS6 hS6 HNR
       generalize (((((w7.setCell ⟨bc, 0, none⟩ (.int .u64 v0)).setCell ⟨bc, 1, none⟩ (.int .i64 v1)).setCell ⟨bc, 2, none⟩ (.int .i64 v2)).setCell ⟨bc, 3, none⟩ (.int .i64 v3)).setCell ⟨bc, 4, none⟩ (.int .i64 v4)) = w8 at *)
  all_goals have HF := Lib.hid (HG.out.closed HC.out HB6.out HD.out)
  all_goals have p0 := cell_of_row w8 _ 0 _ _ (0, 0) HF.out.2
  all_goals have p1 := cell_of_row w8 _ 1 _ _ (0, 0) HF.out.2
  all_goals have p2 := cell_of_row w8 _ 2 _ _ (0, 0) HF.out.2
  all_goals have p3 := cell_of_row w8 _ 3 _ _ (0, 0) HF.out.2
  all_goals have p4 := cell_of_row w8 _ 4 _ _ (0, 0) HF.out.2
  all_goals have q0 := cell_of_row w8 _ 0 _ _ (0, 0) HD.out.row
  all_goals have q1 := cell_of_row w8 _ 1 _ _ (0, 0) HD.out.row
  all_goals have q2 := cell_of_row w8 _ 2 _ _ (0, 0) HD.out.row
  all_goals have q3 := cell_of_row w8 _ 3 _ _ (0, 0) HD.out.row
  all_goals have q4 := cell_of_row w8 _ 4 _ _ (0, 0) HD.out.row
  all_goals simp only [kin, List.getElem?_toArray, List.getElem?_cons_succ, List.getElem?_cons_zero] at p0 p1 p2 p3 p4 q0 q1 q2 q3 q4
  all_goals go_wp2_with fail
  all_goals go_ret
  all_goals exact ⟨rfl, ⟨gm, rb, cap, ao, _, C, now1, HF.out.1.1, by have := closeT_len T (uId n); omega⟩, HF.out.1.2⟩
end
end Go.Proofs.Ytjhdlohcjodgjaa
