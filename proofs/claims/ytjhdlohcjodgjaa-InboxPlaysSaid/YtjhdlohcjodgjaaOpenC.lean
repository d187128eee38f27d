/- Open, List, Next. -/
import Derived.Test.YtjhdlohcjodgjaaTried
namespace Go.Proofs.Ytjhdlohcjodgjaa
open Go.RowKit
set_option linter.unusedVariables false

section
variable {B hn gm made : Nat} {S : List Cal} {C : Cfg}
set_option maxHeartbeats 400000 in
theorem open_nil (to now : Int) (w : World) : Calls Try.prog 24 #[.pointer none, .int .i64 to, .int .i64 now] w fun e w' => e = .returned (.tuple #[.int .u64 0, .int .i64 1]) ∧ w = w' := by
  go_enter Try.func24, Try.ntmps24
  go_wp2_with fail
  go_ret2
  exact ⟨rfl, rfl⟩
set_option maxHeartbeats 400000 in
theorem open_time (to now : Int) (ht : timeB now = false) (w : World) : Calls Try.prog 24 #[.pointer (some ⟨hn, 0, none⟩), .int .i64 to, .int .i64 now] w fun e w' => e = .returned (.tuple #[.int .u64 0, .int .i64 1]) ∧ w = w' := by
  have C1 := Lib.hid (istime_any now)
  rw [ht] at C1
  clear ht
  go_enter Try.func24, Try.ntmps24
  go_wp2_with (go_at_call 39; refine (C1.out _).mono ?_; rintro e w1 ⟨rfl, rfl⟩)
  go_ret2
  exact ⟨rfl, rfl⟩
set_option maxRecDepth 100000 in
set_option maxHeartbeats 800000 in
theorem open_full (to : Int) (now : Nat) (ht : now ≤ 1099511627776) (w : World) (h : CalsW w B hn gm S C made) (hf : C.room ≤ S.length) :
    Calls Try.prog 24 #[.pointer (some ⟨hn, 0, none⟩), .int .i64 to, .int .i64 (now : Int)] w fun e w' => e = .returned (.tuple #[.int .u64 0, .int .i64 81]) ∧ Below w.heap.size w w' := by
  have C1 := Lib.hid (istime_any now)
  rw [show timeB (now : Int) = true by unfold timeB; simp; omega] at C1
  have c0 := h.at_ 0; have c5 := h.at_ 5
  simp only [rowC, List.getElem?_toArray, List.getElem?_cons_succ, List.getElem?_cons_zero] at c0 c5
  have hl := fun ty => h.map.len (w := w) ty
  have hl2 := fun ty => h.map.len (w := w.drew) ty
  clear h
  go_enter Try.func24, Try.ntmps24
  go_wp2_with (go_at_call 39; refine (C1.out _).mono ?_; rintro e w1 ⟨rfl, rfl⟩)
  go_region
  go_wp2_with fail
  go_ret2
  exact ⟨rfl, (Below.refl _ _).drew⟩
theorem held45 {gm : Nat} {x : Value} {w w' : World} (h : w.cell? ⟨hn, 4, none⟩ = some x ∧ w.cell? ⟨hn, 5, none⟩ = some (.map (some gm)) ∧ hn < w.heap.size) (b : Below w.heap.size w w') :
    w'.cell? ⟨hn, 4, none⟩ = some x ∧ w'.cell? ⟨hn, 5, none⟩ = some (.map (some gm)) ∧ hn < w'.heap.size :=
  ⟨(b.cell h.2.2).trans h.1, (b.cell h.2.2).trans h.2.1, Nat.lt_of_lt_of_le h.2.2 b.size⟩
theorem held45k {gm : Nat} {x : Value} {w w' : World} (h : w.cell? ⟨hn, 4, none⟩ = some x ∧ w.cell? ⟨hn, 5, none⟩ = some (.map (some gm)) ∧ hn < w.heap.size) (hne : hn ≠ gm) (k : Keep [gm] w w') :
    w'.cell? ⟨hn, 4, none⟩ = some x ∧ w'.cell? ⟨hn, 5, none⟩ = some (.map (some gm)) ∧ hn < w'.heap.size :=
  ⟨(k.cell h.2.2 (by simpa using hne)).trans h.1, (k.cell h.2.2 (by simpa using hne)).trans h.2.1, Nat.lt_of_lt_of_le h.2.2 k.size⟩
/-- the call that Open makes -/
def opened (C : Cfg) (made : Nat) (to : Int) (now : Nat) : Cal := ⟨made, to, now, 1, now + C.base⟩
theorem opened_tried (C : Cfg) (hC : C.ok) (made : Nat) (to : Int) (now : Nat) : triedC C ⟨made, to, now, 0, 0⟩ now = opened C made to now := by
  unfold triedC opened
  rw [waitN_zero (by unfold Cfg.ok at hC; omega)]
theorem opened_fits (C : Cfg) (hC : C.ok) (made : Nat) (to : Int) (now : Nat) (hn : now ≤ 1099511627776) : (opened C made to now).fits := by
  unfold Cfg.ok at hC
  unfold opened Cal.fits
  simp only
  omega
set_option maxRecDepth 100000 in
set_option maxHeartbeats 2000000 in
theorem open_yes (to : Int) (now M : Nat) (ht : now ≤ 1099511627776) (w : World) (h : CalsW w B hn gm S C made) (hf : S.length < C.room) (hM : M = made + 1) (hM2 : M < 4611686018427387904) :
    Calls Try.prog 24 #[.pointer (some ⟨hn, 0, none⟩), .int .i64 to, .int .i64 (now : Int)] w fun e w' => e = .returned (.tuple #[.int .u64 (M : Int), .int .i64 0]) ∧ CalsW w' B hn gm (S ++ [opened C M to now]) C M ∧ Keep [hn, gm] w w' := by
  have C1 := Lib.hid (istime_any now)
  rw [show timeB (now : Int) = true by unfold timeB; simp; omega] at C1
  have c0 := h.at_ 0; have c5 := h.at_ 5; have c4 := h.at_ 4; have f4 := h.fr 4
  simp only [rowC, List.getElem?_toArray, List.getElem?_cons_succ, List.getElem?_cons_zero] at c0 c5 c4
  have hl := fun ty => h.map.len (w := w) ty
  have hl2 := fun ty => h.map.len (w := w.drew) ty
  have hltn := h.hlt
  have hd : Below (w.setCell ⟨hn, 4, none⟩ (.int .u64 (M : Int))).heap.size (w.setCell ⟨hn, 4, none⟩ (.int .u64 (M : Int))) (w.setCell ⟨hn, 4, none⟩ (.int .u64 (M : Int))).drew := (Below.refl _ _).drew
  have hs := (h.setMade M (by omega) hM2).below hd
  have k1 := (Keep.setCell w ⟨hn, 4, none⟩ (.int .u64 (M : Int))).trans (Keep.of_below hd [hn])
  have HNE := Lib.hid h.ne; have HOK := Lib.hid h.ok
  have HI := Lib.hid (fun (p : Cal) (hp : p ∈ S) => show p.id < M by have := (h.ids p hp).2; omega)
  have HMc := Lib.hid (show (made : Int) + 1 = (M : Int) by omega)
  have hm1 : made + 1 < 18446744073709551616 := by omega
  have H1 := Lib.hid hs; have K1 := Lib.hid k1; have HM1 := Lib.hid (show 1 ≤ M by omega)
  have HF := Lib.hid (opened_fits C HOK.out M to now ht)
  have HXI := Lib.hid (show (opened C M to now).id = M from rfl)
  obtain ⟨X, hX⟩ : ∃ X, opened C M to now = X := ⟨_, rfl⟩
  rw [hX] at HF HXI
  rw [hX]
  have HX := Lib.hid hX
  clear h hs k1 hM hd hX
  go_enter Try.func24, Try.ntmps24
  go_wp2_with (go_at_call 39; refine (C1.out _).mono ?_; rintro e w1 ⟨rfl, rfl⟩)
  go_region
  go_wp2_with fail
  rw [HMc.out]
  generalize hw1 : (w.setCell ⟨hn, 4, none⟩ (.int .u64 (M : Int))).drew = w1 at *
  clear hw1
  have e4 := H1.out.at_ 4; have e5 := H1.out.at_ 5
  simp only [rowC, List.getElem?_toArray, List.getElem?_cons_succ, List.getElem?_cons_zero] at e4 e5
  have hlt1 := H1.out.hlt
  have hS : w1.cell? ⟨hn, 4, none⟩ = some (.int .u64 (M : Int)) ∧ w1.cell? ⟨hn, 5, none⟩ = some (.map (some gm)) ∧ hn < w1.heap.size := ⟨e4, e5, hlt1⟩
  have TR := Lib.hid (fun (w2 : World) (b : Below w1.heap.size w1 w2) => tried_any w2 (H1.out.below b) ⟨M, to, now, 0, 0⟩ (Nat.zero_le _) now ht)
  rw [opened_tried C HOK.out] at TR
  rw [HX.out] at TR
  clear e4 e5 f4 hl hl2 c0 c4 c5
  go_region_held3 (fun w' => w'.cell? ⟨hn, 4, none⟩ = some (.int .u64 (M : Int)) ∧ w'.cell? ⟨hn, 5, none⟩ = some (.map (some gm)) ∧ hn < w'.heap.size)
    (first | assumption | exact held45 (by assumption) (by assumption) | exact held45k (by assumption) HNE.out (by assumption))
    (first
      | (go_at_call 40; refine (TR.out _ (Below.refl _ _).drew).mono ?_; rintro e w2' ⟨he, b2⟩; subst he; have b2 : Below w1.heap.size w1 w2' := below_next (Below.refl _ _).drew b2; obtain ⟨w3', hr3, hm3, k3⟩ := (H1.out.below b2).add HF.out HXI.out HM1.out HI.out hf; rw [HXI.out] at hr3; have HM3 := Lib.hid hm3; clear hm3))
  obtain ⟨c4, c5, hlt1⟩ := held45k (held45 hS b2) HNE.out k3
  have HB2 := Lib.hid b2; have HK3 := Lib.hid k3
  clear b2 k3
  go_wp2_with fail
  go_ret2
  exact ⟨rfl, HM3.out, (K1.out.mono (by simp)).trans ((Keep.of_below HB2.out _).trans (HK3.out.mono (by simp)))⟩

set_option maxHeartbeats 800000 in
theorem all_any (x : Cal) (W : World) : Calls Try.prog 37 #[agv x] W fun e W' => e = .returned (.bool true) ∧ Below W.heap.size W W' := by
  go_enter Try.func37, Try.ntmps37
  go_wp2_with fail
  go_ret
  exact ⟨rfl, below_alloc (Below.refl _ _) _⟩
theorem cmpI_neg {x y : Int} : cmpI x y < 0 ↔ x < y := by
  unfold cmpI; split
  · simp; omega
  · split <;> simp <;> omega
theorem cfNum_neg {x y : Cal} : cfNum x y < 0 ↔ x.id < y.id := by unfold cfNum; rw [cmpI_neg]; omega
theorem cfDue_neg {x y : Cal} : cfDue x y < 0 ↔ x.due < y.due ∨ (x.due = y.due ∧ x.id < y.id) := by
  unfold cfDue
  by_cases h : cmpI (x.due : Int) (y.due : Int) = 0
  · rw [if_neg (by simp [h]), cmpI_neg]
    have : x.due = y.due := by
      unfold cmpI at h
      split at h
      · simp at h
      · split at h
        · simp at h
        · omega
    omega
  · rw [if_pos h, cmpI_neg]
    have : x.due ≠ y.due := by
      intro e; apply h; unfold cmpI; rw [e]; simp
    omega
theorem swoNum : Sort.SWO (ltOf cfNum) where
  irrefl x := by unfold ltOf; simp [cfNum_neg]
  trans x y z h1 h2 := by unfold ltOf at *; simp [cfNum_neg] at *; omega
  ntrans x y z h1 h2 := by unfold ltOf at *; simp only [decide_eq_false_iff_not, cfNum_neg] at *; omega
theorem swoDue : Sort.SWO (ltOf cfDue) where
  irrefl x := by unfold ltOf; simp [cfDue_neg]
  trans x y z h1 h2 := by unfold ltOf at *; simp [cfDue_neg] at *; omega
  ntrans x y z h1 h2 := by unfold ltOf at *; simp only [decide_eq_false_iff_not, cfDue_neg] at *; omega
theorem bynum_gr (x y : Cal) (w : World) : Calls Try.prog 38 #[agv x, agv y] w fun e w' => e = .returned (.int .i64 (cfNum x y)) ∧ Gr w w' :=
  (bynum_any x y w).mono fun e w' ⟨h1, h2⟩ => ⟨h1, Gr.two h2⟩
theorem enterNum : ∀ args w, (callFunc 38 args).run Try.prog w = .ok (.enter 38 args) w := enters_of Try.func38 (by kernel_rfl) rfl
theorem enterDue : ∀ args w, (callFunc 36 args).run Try.prog w = .ok (.enter 36 args) w := enters_of Try.func36 (by kernel_rfl) rfl
theorem enterAll : ∀ args w, (callFunc 37 args).run Try.prog w = .ok (.enter 37 args) w := enters_of Try.func37 (by kernel_rfl) rfl
/-- a list in order is the one list in order -/
theorem sorted_one {cf : Cal → Cal → Int} {l m : List Cal} (hp : l.Perm m) (hl : SortedBy cf l) (hm : SortedBy cf m) (ht : ∀ a ∈ l, ∀ b ∈ l, ¬ cf a b < 0 → ¬ cf b a < 0 → a = b) : l = m := by
  have key : ∀ (l m : List Cal), l.Perm m → SortedBy cf l → SortedBy cf m → (∀ a ∈ l, ∀ b ∈ l, ¬ cf a b < 0 → ¬ cf b a < 0 → a = b) → l = m := by
    intro l m hp hl hm ht
    refine List.Perm.eq_of_pairwise (le := fun a b => ¬ cf b a < 0) ?_ hl hm hp
    intro a b ha hb h1 h2
    exact ht a ha b (hp.mem_iff.2 hb) h2 h1
  exact key l m hp hl hm ht
theorem inc_sorted {S : List Cal} (h : Inc S) : SortedBy cfNum S := h.imp fun h => by rw [cfNum_neg]; omega
theorem nil_any (f g : Value) (w : World) : Calls Try.prog 35 #[.pointer none, f, g] w fun e w' => e = .returned (.slice none 0 0) ∧ w = w' := by
  go_enter Try.func35, Try.ntmps35
  go_wp2_with fail
  go_ret
  exact ⟨rfl, rfl⟩
set_option maxHeartbeats 800000 in
theorem list_any (w : World) (h : CalsW w B hn gm S C made) : Calls Try.prog 20 #[.pointer (some ⟨hn, 0, none⟩)] w fun e w' =>
    ∃ v, e = .returned v ∧ Below w.heap.size w w' ∧ w'.ownsRow (w.heap.size + 1) 70 5 v S.length (lc S) := by
  have SO := Lib.hid (sorted_any 37 #[] (fun _ => true) 38 cfNum swoNum enterNum enterAll bynum_gr w h (fun x W _ => all_any x W))
  have HI := Lib.hid h.inc
  clear h
  go_enter Try.func20, Try.ntmps20
  go_wp2_with fail
  refine SO.out.mono ?_
  rintro e w1 ⟨v, l, rfl, hb, hp, hs, ho⟩
  have e1 : l = S := by
    have hp' : l.Perm S := by rw [List.filter_eq_self.2 (fun _ _ => rfl)] at hp; exact hp
    refine sorted_one hp' hs (inc_sorted HI.out) fun a ha b hb h1 h2 => ?_
    rw [cfNum_neg] at h1 h2
    exact HI.out.one (hp'.mem_iff.1 ha) (hp'.mem_iff.1 hb) (by omega)
  subst e1
  have HB := Lib.hid hb; have HO := Lib.hid ho
  clear hb hp hs ho
  go_wp2_with fail
  go_ret
  exact ⟨v, rfl, HB.out, HO.out⟩
/-- a call that is due soonest -/
def Soon (S : List Cal) (d : Nat) : Prop := (∃ x ∈ S, x.due = d) ∧ ∀ y ∈ S, d ≤ y.due
def NextIs (S : List Cal) (e : Ending) : Prop := (S = [] ∧ e = .returned (.tuple #[.int .i64 0, .bool false])) ∨ ∃ d : Nat, Soon S d ∧ e = .returned (.tuple #[.int .i64 (d : Int), .bool true])
theorem owns_row5 {w : World} {B : Nat} {v : Value} {l : List Cal} (h : w.ownsRow B 70 5 v l.length (lc l)) (j : Nat) (hj : j < l.length) {x : Cal} (hx : l[j]? = some x) :
    ∃ g cap, v = .slice (some ⟨g, 0, none⟩) l.length cap ∧ g < w.heap.size ∧ B ≤ g ∧ ∀ i, i < 5 → w.cell? ⟨g, j * 5 + i, none⟩ = x.list[i]? := by
  rcases h.2 with ⟨_, h3⟩ | ⟨g, cap, cur, rfl, hb, hg, h3, h4, h5, h6⟩
  · omega
  · refine ⟨g, cap, rfl, (Array.getElem?_eq_some_iff.1 hg).1, hb, fun i hi => ?_⟩
    rw [cell_of_row w g _ cur _ (0, 0) hg]
    have h7 := lc_at l j i hi
    rw [hx, ← h6, List.getElem?_take, if_pos (by omega), Array.getElem?_toList] at h7
    exact h7
set_option maxHeartbeats 800000 in
theorem next_any (w : World) (h : CalsW w B hn gm S C made) : Calls Try.prog 17 #[.pointer (some ⟨hn, 0, none⟩)] w fun e w' => NextIs S e ∧ Below w.heap.size w w' := by
  have SO := Lib.hid (sorted_any 37 #[] (fun _ => true) 36 cfDue swoDue enterDue enterAll bydue_any w h (fun x W _ => all_any x W))
  have hfew : S.length ≤ 256 := by have := h.few; have := h.ok.2.1; omega
  clear h
  go_enter Try.func17, Try.ntmps17
  go_wp2_with fail
  refine SO.out.mono ?_
  rintro e w1 ⟨v, l, rfl, hb, hp, hs, ho⟩
  have hp' : l.Perm S := by rw [List.filter_eq_self.2 (fun _ _ => rfl)] at hp; exact hp
  have HP := Lib.hid hp'; have HB := Lib.hid hb; have HS := Lib.hid hs
  obtain ⟨ao, cap, rfl, hle, hmx⟩ := owns_shape ho
  cases l with
  | nil =>
    clear hp hp' hb hs ho SO
    go_wp2_with fail
    go_ret2
    exact ⟨.inl ⟨HP.out.symm.eq_nil, rfl⟩, HB.out⟩
  | cons x r =>
    obtain ⟨g, cap2, hv, hg, _, hc⟩ := owns_row5 ho 0 (by simp) (x := x) rfl
    have c4 := hc 4 (by omega)
    simp only [Nat.zero_mul, Nat.zero_add, List.getElem?_cons_succ, List.getElem?_cons_zero] at c4
    cases hv
    have hlen := hp'.length_eq
    obtain ⟨N, hN⟩ : ∃ N, (x :: r).length = N := ⟨_, rfl⟩
    have hN0 : 0 < N := by rw [← hN]; simp
    have hN2 : N ≤ 256 := by omega
    rw [hN]
    rw [hN] at hle
    clear hp hp' hb hs ho hc SO hlen hN
    go_wp2_with fail
    go_ret2
    refine ⟨.inr ⟨x.due, ⟨⟨x, HP.out.mem_iff.1 (List.mem_cons_self ..), rfl⟩, fun y hy => ?_⟩, rfl⟩, HB.out⟩
    rcases List.mem_cons.1 (HP.out.mem_iff.2 hy) with rfl | h1
    · exact Nat.le_refl _
    · have h2 := (List.pairwise_cons.1 HS.out).1 y h1
      rw [cfDue_neg] at h2
      omega
end
end Go.Proofs.Ytjhdlohcjodgjaa
