/- settle. -/
import Derived.Test.YtkhfbnlmjnbhmaaSift
namespace Go.Proofs.Ytkhfbnlmjnbhmaa
open Go.RowKit Go.Sort
set_option linter.unusedVariables false

/-- numbers differ -/
abbrev Ids (l : List Tm) : Prop := (l.map (·.1)).Nodup
theorem Ids.ne {l : List Tm} (h : Ids l) {j k : Nat} (hj : j < l.length) (hk : k < l.length) (hne : j ≠ k) : (tm l j).1 ≠ (tm l k).1 := by
  intro e
  have h1 : (l.map (·.1))[j]? = (l.map (·.1))[k]? := by rw [List.getElem?_map, List.getElem?_map, tm_get hj, tm_get hk]; simp [e]
  exact hne ((List.getElem?_inj (by simpa using hj) h).1 h1)

/-- a full heap, out of l0 with t in the place of number i0 -/
structure Full (t : Tm) (l0 : List Tm) (i0 : Nat) (f0 : Nat → Option Nat) (l : List Tm) (f : Nat → Option Nat) : Prop where
  heap : Hp l
  perm : l.Perm (l0.set i0 t)
  fwd : ∀ j, j < l.length → f (tm l j).1 = some j
  dom : ∀ id, (f id).isSome = (decide (id = t.1) || (f0 id).isSome)
theorem St.full {t : Tm} {l0 : List Tm} {i0 : Nat} {f0 : Nat → Option Nat} {l : List Tm} {i : Nat} {f : Nat → Option Nat} (h : St t l0 i0 f0 l i f) (hp : Hp (l.set i t)) (hn : Ids (l0.set i0 t)) : Full t l0 i0 f0 (l.set i t) (upd f t.1 (some i)) := by
  have hn' : Ids (l.set i t) := (h.perm.map (·.1)).nodup_iff.2 hn
  have hi := h.hi
  refine ⟨hp, h.perm, fun j hj => ?_, fun id => ?_⟩
  · by_cases e : j = i
    · subst e
      rw [tm_set _ _ _ _ hi, if_pos rfl, upd_same]
    · have h1 := hn'.ne hj (by rw [List.length_set]; exact hi) e
      rw [tm_set _ _ _ _ hi, tm_set _ _ _ _ hi, if_neg e, if_pos rfl] at h1
      rw [tm_set _ _ _ _ hi, if_neg e, upd_other _ _ h1]
      rw [List.length_set] at hj
      exact h.fwd j hj e
  · by_cases e : id = t.1
    · subst e; rw [upd_same]; simp
    · rw [upd_other _ _ e, h.dom]; simp [e]

abbrev BoxT (bx : Nat) (t : Tm) (w : World) : Prop := w.cell? ⟨bx, 0, none⟩ = some (.int .u64 (t.1 : Int)) ∧ w.cell? ⟨bx, 1, none⟩ = some (.int .i64 (t.2.1 : Int)) ∧ w.cell? ⟨bx, 2, none⟩ = some (.int .u64 (t.2.2 : Int)) ∧ bx < w.heap.size
theorem BoxT.keep {bx : Nat} {t : Tm} {w w' : World} {S : List Nat} (h : BoxT bx t w) (k : Keep S w w') (hn : bx ∉ S) : BoxT bx t w' := by
  obtain ⟨h0, h1, h2, h3⟩ := h
  exact ⟨(k.cell h3 hn).trans h0, (k.cell h3 hn).trans h1, (k.cell h3 hn).trans h2, Nat.lt_of_lt_of_le h3 k.size⟩
theorem BoxT.below {bx : Nat} {t : Tm} {w w' : World} (h : BoxT bx t w) (k : Below w.heap.size w w') : BoxT bx t w' := h.keep (Keep.of_below k []) (by simp)
theorem BoxT.new (w : World) (t : Tm) : BoxT w.heap.size t (w.alloc (.cells #[.int .u64 (t.1 : Int), .int .i64 (t.2.1 : Int), .int .u64 (t.2.2 : Int)] 66)) := by
  have h := heap_alloc_new w (.cells #[.int .u64 (t.1 : Int), .int .i64 (t.2.1 : Int), .int .u64 (t.2.2 : Int)] 66)
  exact ⟨cell_of_row _ w.heap.size 0 _ _ (0, 0) h, cell_of_row _ w.heap.size 1 _ _ (0, 0) h, cell_of_row _ w.heap.size 2 _ _ (0, 0) h, by simp⟩

theorem boxKeep {bx : Nat} {t : Tm} {S : List Nat} {w w' : World} (h : BoxT bx t w) (hn : bx ∉ S) (k : Keep S w w') : BoxT bx t w' := h.keep k hn
theorem boxBelow {bx : Nat} {t : Tm} {w w' : World} (h : BoxT bx t w) (k : Below w.heap.size w w') : BoxT bx t w' := h.below k
theorem St.again {t : Tm} {l0 : List Tm} {i0 : Nat} {f0 : Nat → Option Nat} {l : List Tm} {i : Nat} {f : Nat → Option Nat} (h : St t l0 i0 f0 l i f) : St t l i f l i f :=
  ⟨rfl, h.hi, h.hh, List.Perm.refl _, h.fwd, fun _ => rfl⟩
theorem St.trans {t : Tm} {l0 : List Tm} {i0 : Nat} {f0 : Nat → Option Nat} {l : List Tm} {i : Nat} {f : Nat → Option Nat} {l2 : List Tm} {i2 : Nat} {f2 : Nat → Option Nat} (h : St t l0 i0 f0 l i f) (k : St t l i f l2 i2 f2) : St t l0 i0 f0 l2 i2 f2 :=
  ⟨k.len.trans h.len, k.hi, k.hh, k.perm.trans h.perm, k.fwd, fun id => (k.dom id).trans (h.dom id)⟩

set_option maxHeartbeats 4000000 in
theorem settle_any {B hb gm n : Nat} {ao : Option Addr} {cap : Nat} {l : List Tm} {f : Nat → Option Nat} (w : World) (t : Tm) (i : Nat) (ht : okT t) (hn : n ≤ 256) (hw : HpW w B hb gm n ao cap l f) (h0 : St t l i f l i f) (hid : Ids (l.set i t)) :
    Calls Try.prog 34 #[.pointer (some ⟨hb, 2, none⟩), agT t, .int .i64 (i : Int)] w fun e w' => e = .returned (.tuple #[]) ∧ ∃ l' f', HpW w' B hb gm (if (f t.1).isSome then n else n + 1) ao cap l' f' ∧ Full t l i f l' f' ∧ Keep (gm :: blk ao) w w' := by
  have H0 := Lib.hid h0
  have HT := Lib.hid ht
  have HID := Lib.hid hid
  have hmf : ∀ (fn : Fn) (first cap : Array Value) (w : World), (Instr.makeFunc fn first cap).run Try.prog w = .ok (.func fn first cap) w := fun _ _ _ _ => rfl
  have hw1 := hw.below (below_alloc (Below.refl _ _) (.cells #[.int .u64 (t.1 : Int), .int .i64 (t.2.1 : Int), .int .u64 (t.2.2 : Int)] 66))
  have k1 : Keep (gm :: blk ao) w (w.alloc (.cells #[.int .u64 (t.1 : Int), .int .i64 (t.2.1 : Int), .int .u64 (t.2.2 : Int)] 66)) := Keep.of_below (below_alloc (Below.refl _ _) _) _
  have hb1 := BoxT.new w t
  have hng : w.heap.size ∉ gm :: blk ao := by
    have h1 := hw.map.lt
    have h2 := owns_blk hw.own
    simp only [List.mem_cons, not_or]
    refine ⟨by omega, fun h => ?_⟩
    have := (h2 _ h).2
    omega
  clear h0 ht hid hw
  have HW := Lib.hid hw1; have HK := Lib.hid k1; have HB := Lib.hid hb1
  clear hw1 k1 hb1
  go_enter Try.func34, Try.ntmps34
  go_wp2_with fail
  generalize w.alloc (.cells #[.int .u64 (t.1 : Int), .int .i64 (t.2.1 : Int), .int .u64 (t.2.2 : Int)] 66) = W at *
  generalize w.heap.size = bx at *
  obtain ⟨q0, q1, q2, q3⟩ := HB.out
  have hS : W.cell? ⟨bx, 0, none⟩ = some (.int .u64 (t.1 : Int)) ∧ W.cell? ⟨bx, 1, none⟩ = some (.int .i64 (t.2.1 : Int)) ∧ W.cell? ⟨bx, 2, none⟩ = some (.int .u64 (t.2.2 : Int)) ∧ bx < W.heap.size := ⟨q0, q1, q2, q3⟩
  go_region_held3 (fun w' => w'.cell? ⟨bx, 0, none⟩ = some (.int .u64 (t.1 : Int)) ∧ w'.cell? ⟨bx, 1, none⟩ = some (.int .i64 (t.2.1 : Int)) ∧ w'.cell? ⟨bx, 2, none⟩ = some (.int .u64 (t.2.2 : Int)) ∧ bx < w'.heap.size) (first | assumption | exact boxKeep (by assumption) hng (by assumption) | exact boxBelow (by assumption) (Below.refl _ _).drew) (first
        | (go_at_call 38; refine (rise_any _ t i HT.out hn (HW.out.below (Below.refl _ _).drew) H0.out).mono ?_; rintro e w3' ⟨l3, i3, f3, rfl, hw3, hs3, hu3, hk3⟩; have HW3 := Lib.hid hw3; have HS3 := Lib.hid hs3; have HU3 := Lib.hid hu3; clear hw3 hs3 hu3)
        | (go_at_call 37; refine (sink_any _ t i3 HT.out hn HW3.out HS3.out.again HU3.out).mono ?_; rintro e w4' ⟨l4, i4, f4, rfl, hw4, hs4, hp4, hk4⟩; have HW4 := Lib.hid hw4; have HS4 := Lib.hid hs4; have HP4 := Lib.hid hp4; clear hw4 hs4 hp4)
        | (go_at_call 36; refine (put_any _ t i4 HW4.out HS4.out.hi HT.out hn).mono ?_; rintro e w5' ⟨rfl, hw5, hk5⟩; have HW5 := Lib.hid hw5; clear hw5))
  have hs := HS3.out.trans HS4.out
  have hd := hs.dom t.1
  have hw5 := HW5.out
  rw [hd] at hw5
  have kk := (HK.out.trans (Keep.of_below (Below.refl _ _).drew _)).trans ((hk3.trans hk4).trans hk5)
  go_end0
  exact ⟨rfl, _, _, hw5, hs.full HP4.out HID.out, kk⟩
end Go.Proofs.Ytkhfbnlmjnbhmaa
