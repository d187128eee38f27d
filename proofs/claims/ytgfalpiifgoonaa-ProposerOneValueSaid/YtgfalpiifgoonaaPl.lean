/- place. -/
import Derived.Test.YtgfalpiifgoonaaFi
import Derived.Deep.CutRange
namespace Go.Proofs.Ytgfalpiifgoonaa
open Go.RowKit Go.Sort
set_option linter.unusedVariables false
set_option maxRecDepth 100000

/-- what place tells -/
abbrev pE (o : Option Rw) (n most : Nat) : Int := if o.isSome then 0 else if n < most then 0 else 101
section
variable {w w' : World} {B hn gm most n : Nat} {f : Fn}
set_option maxRecDepth 100000 in
set_option maxHeartbeats 1600000 in
theorem place_go (p : Value) (i : In) (r : Rw) (x : Int) (hx : x ≠ 102) (w : World)
    (hc : ∀ w', Below w.heap.size w w' → Calls Try.prog 34 #[p, i.ag] w' fun e w2 => e = .returned (.tuple #[r.ag, .int .i64 x]) ∧ Below w'.heap.size w' w2) :
    Calls Try.prog 33 #[p, i.ag] w fun e w' => e = .returned (.tuple #[r.ag, .int .i64 x]) ∧ Below w.heap.size w w' := by
  obtain ⟨W, hW⟩ : ∃ W, W = (w.alloc i.obj).alloc r0.obj := ⟨_, rfl⟩
  have bW : Below w.heap.size w W := by rw [hW]; exact below_alloc (below_alloc (Below.refl _ _) _) _
  have hz : W.heap.size = w.heap.size + 2 := by rw [hW]; simp
  have ki : Row4 W w.heap.size i := by
    have := (Row4.new w i).below (below_alloc (Below.refl _ _) r0.obj)
    rw [← hW] at this; exact this
  have kz : Row6 W (w.heap.size + 1) r0 := by
    have := Row6.new (w.alloc i.obj) r0
    rw [← hW, show (w.alloc i.obj).heap.size = w.heap.size + 1 by simp] at this; exact this
  obtain ⟨d0, d1, d2, d3⟩ := ki.all
  have HC := Lib.hid (hc W bW)
  have HB := Lib.hid bW
  have KZ := Lib.hid kz
  have HZ := Lib.hid hz
  clear ki bW kz hc
  obtain ⟨tx, ib, ir, ix⟩ := i
  obtain ⟨⟨pr, pn⟩, ⟨is, ⟨ar, an⟩, av⟩⟩ := r
  simp only [In.ag, In.obj, Rw.ag, Rw.obj] at hW HC ⊢
  go_enter Try.func33, Try.ntmps33
  go_upto_region 1 with (fail)
  rw [← hW]
  clear hW hz
  generalize hbi : w.heap.size = bi at *
  go_wp2_with fail
  refine HC.out.mono ?_; rintro e w1 ⟨rfl, b1⟩
  have k1 := (KZ.out.below b1).below (below_alloc (Below.refl _ _) (Rw.obj ⟨⟨pr, pn⟩, ⟨is, ⟨ar, an⟩, av⟩⟩))
  have n1 := Row6.new w1 ⟨⟨pr, pn⟩, ⟨is, ⟨ar, an⟩, av⟩⟩
  have HB1 := Lib.hid (below_alloc' (HB.out.trans (b1.mono (by have := HZ.out; omega))) (Nat.le_trans (by have := HZ.out; omega) b1.size) (Rw.obj ⟨⟨pr, pn⟩, ⟨is, ⟨ar, an⟩, av⟩⟩))
  have HS1 := Lib.hid (show bi ≤ (w1.alloc (Rw.obj ⟨⟨pr, pn⟩, ⟨is, ⟨ar, an⟩, av⟩⟩)).heap.size by have := b1.size; have := HZ.out; simp; omega)
  obtain ⟨f0, f1, f2, f3, f4, f5⟩ := k1.fr
  obtain ⟨e0, e1, e2, e3, e4, e5⟩ := k1.all
  obtain ⟨g0, g1, g2, g3, g4, g5⟩ := n1.all
  simp only [Rw.obj] at HB1 HS1 f0 f1 f2 f3 f4 f5 e0 e1 e2 e3 e4 e5 g0 g1 g2 g3 g4 g5
  clear k1 n1 b1 d0 d1 d2 d3 HC HZ KZ HB
  go_upto_region 2 with (fail)
  generalize hbw : w1.heap.size = bw at *
  generalize w1.alloc (.cells #[.int .u32 pr, .int .u8 pn, .bool is, .int .u32 ar, .int .u8 an, .string av] 114) = W3 at *
  go_wp2_with fail
  refine bodyPost_ret (v := .tuple #[.agg #[.int .u32 pr, .int .u8 pn, .bool is, .int .u32 ar, .int .u8 an, .string av], .int .i64 x]) (res_c1t1 Try.results33 rfl ?_ rfl) rfl ⟨rfl, ?_⟩
  · go_simp
  · rw [hbi]
    exact HB1.out.trans ((lay6_keep W3 (bi + 1) ⟨⟨pr, pn⟩, ⟨is, ⟨ar, an⟩, av⟩⟩).below HS1.out (by simp))
set_option maxRecDepth 100000 in
set_option maxHeartbeats 1600000 in
theorem place_none (i : In) (hi : i.Ok) (w : World) (h : TabW w B hn gm most n f) (hf : f i = none) :
    Calls Try.prog 33 #[.pointer (some ⟨hn, 0, none⟩), i.ag] w fun e w' => e = .returned (.tuple #[r0.ag, .int .i64 (if n < most then 0 else 101)]) ∧ Below w.heap.size w w' := by
  obtain ⟨W, hW⟩ : ∃ W, W = (w.alloc i.obj).alloc r0.obj := ⟨_, rfl⟩
  have bW : Below w.heap.size w W := by rw [hW]; exact below_alloc (below_alloc (Below.refl _ _) _) _
  have hz : W.heap.size = w.heap.size + 2 := by rw [hW]; simp
  have ki : Row4 W w.heap.size i := by
    have := (Row4.new w i).below (below_alloc (Below.refl _ _) r0.obj)
    rw [← hW] at this; exact this
  have kz : Row6 W (w.heap.size + 1) r0 := by
    have := Row6.new (w.alloc i.obj) r0
    rw [← hW, show (w.alloc i.obj).heap.size = w.heap.size + 1 by simp] at this; exact this
  obtain ⟨d0, d1, d2, d3⟩ := ki.all
  have hc := find_any i hi W (h.below bW)
  rw [hf] at hc
  change Calls _ _ _ _ fun e w2 => e = .returned (.tuple #[.agg #[.int .u32 0, .int .u8 0, .bool false, .int .u32 0, .int .u8 0, .string ⟨#[]⟩], .int .i64 102]) ∧ _ at hc
  have HC := Lib.hid hc
  have HT := Lib.hid (h.below bW)
  have HB := Lib.hid bW
  have KZ := Lib.hid kz
  have HZ := Lib.hid hz
  have HM := Lib.hid h.m2
  clear ki bW kz hc h hi hf
  obtain ⟨tx, ib, ir, ix⟩ := i
  simp only [In.ag, In.obj, Rw.ag, Rw.obj] at hW HC ⊢
  go_enter Try.func33, Try.ntmps33
  go_upto_region 1 with (fail)
  rw [← hW]
  clear hW hz
  generalize hbi : w.heap.size = bi at *
  go_wp2_with fail
  refine HC.out.mono ?_; rintro e w1 ⟨rfl, b1⟩
  have t3 := (HT.out.below b1).alloc (Rw.obj r0)
  have k1 := (KZ.out.below b1).below (below_alloc (Below.refl _ _) (Rw.obj r0))
  have n1 := Row6.new w1 r0
  have b3 := below_alloc' (HB.out.trans (b1.mono (by have := HZ.out; omega))) (Nat.le_trans (by have := HZ.out; omega) b1.size) (Rw.obj r0)
  have HS1 := Lib.hid (show bi ≤ (w1.alloc (Rw.obj r0)).heap.size by have := b1.size; have := HZ.out; simp; omega)
  simp only [Rw.obj] at t3 k1 n1 b3 HS1
  clear b1 d0 d1 d2 d3 HC HT KZ HB
  go_upto_region 4 with (fail)
  generalize hbw : w1.heap.size = bw at *
  generalize w1.alloc (.cells #[.int .u32 0, .int .u8 0, .bool false, .int .u32 0, .int .u8 0, .string { data := #[] }] 114) = W3 at *
  have HT3 := Lib.hid t3; have HK := Lib.hid k1; have HN := Lib.hid n1; have HB3 := Lib.hid b3
  have d0 := cell_regrown t3.at0; have d1 := cell_regrown t3.at1
  have hln := fun d os => (t3.below (below_regrown W3 d os)).map.len 3
  clear t3 k1 n1 b3
  by_cases hr : n < most
  · have hd : decide ((most : Int) ≤ (n : Int)) = false := by simp; omega
    refine wp_region_quiet_below (by kernel_rfl) (by kernel_rfl) ?_
    repeat (go_big_quiet_step (fail))
    refine wpQuiet_nil ?_
    intro _ hw'
    obtain ⟨⟨dq, osq⟩, hw''⟩ := hw'
    subst hw''
    have lk := below_regrown W3 dq osq
    have HB4 := Lib.hid (HB3.out.trans (lk.mono (by have := HS1.out; omega)))
    have HS4 := Lib.hid (Nat.le_trans HS1.out lk.size)
    have k4 := HK.out.below lk; have n4 := HN.out.below lk
    clear d0 d1 hln lk HB3 HS1 HK HN HT3
    generalize grow (redrawn W3 dq) osq = W4 at *
    obtain ⟨f0, f1, f2, f3, f4, f5⟩ := k4.fr
    obtain ⟨e0, e1, e2, e3, e4, e5⟩ := k4.all
    obtain ⟨g0, g1, g2, g3, g4, g5⟩ := n4.all
    clear k4 n4
    go_wp2_with fail
    refine bodyPost_ret (v := .tuple #[.agg #[.int .u32 0, .int .u8 0, .bool false, .int .u32 0, .int .u8 0, .string ⟨#[]⟩], .int .i64 0]) (res_c1t1 Try.results33 rfl ?_ rfl) rfl ⟨rfl, ?_⟩
    · go_simp
    · exact HB4.out.trans ((lay6_keep _ (bi + 1) r0).below HS4.out (by simp))
  · have hd : decide ((most : Int) ≤ (n : Int)) = true := by simp; omega
    refine wp_region_quiet_below (by kernel_rfl) (by kernel_rfl) ?_
    repeat (go_big_quiet_step (fail))
    refine wpQuiet_nil ?_
    intro _ hw'
    obtain ⟨⟨dq, osq⟩, hw''⟩ := hw'
    subst hw''
    have lk := below_regrown W3 dq osq
    have HB4 := Lib.hid (HB3.out.trans (lk.mono (by have := HS1.out; omega)))
    have HS4 := Lib.hid (Nat.le_trans HS1.out lk.size)
    have k4 := HK.out.below lk; have n4 := HN.out.below lk
    clear d0 d1 hln lk HB3 HS1 HK HN HT3
    generalize grow (redrawn W3 dq) osq = W4 at *
    obtain ⟨f0, f1, f2, f3, f4, f5⟩ := k4.fr
    obtain ⟨e0, e1, e2, e3, e4, e5⟩ := k4.all
    obtain ⟨g0, g1, g2, g3, g4, g5⟩ := n4.all
    clear k4 n4
    go_wp2_with fail
    refine bodyPost_ret (v := .tuple #[.agg #[.int .u32 0, .int .u8 0, .bool false, .int .u32 0, .int .u8 0, .string ⟨#[]⟩], .int .i64 101]) (res_c1t1 Try.results33 rfl ?_ rfl) rfl ⟨rfl, ?_⟩
    · go_simp
    · exact HB4.out.trans ((lay6_keep _ (bi + 1) r0).below HS4.out (by simp))
/-- the row that place finds, if there is one or room -/
def stt (o : Option Rw) (n most : Nat) : Option Rw := match o with | some r => some r | none => if n < most then some r0 else none
theorem stt_room {o : Option Rw} {n most : Nat} {r : Rw} (h : stt o n most = some r) : o.isSome ∨ n < most := by
  cases o with
  | some q => exact .inl rfl
  | none =>
    unfold stt at h
    simp only at h
    split at h
    · rename_i hr; exact .inr hr
    · cases h
theorem TabW.put (h : TabW w B hn gm most n f) (i : In) (hi : i.Ok) (hr : (f i).isSome ∨ n < most) (v : Rw) :
    ∃ w', (Instr.mapUpdate 101 (.map (some gm)) i.ag v.ag).run Try.prog w = .ok () w' ∧ TabW w' B hn gm most (if (f i).isSome then n else n + 1) (upd f i (some v)) ∧ Keep [gm] w w' := by
  have hm := h.fewB
  obtain ⟨w', h1, h2, h3⟩ := h.map.put i v hi (by omega)
  refine ⟨w', h1, h.turn h3 h2 ?_, h3⟩
  have := h.few
  rcases hr with e | e
  · rw [if_pos e]; exact this
  · split <;> omega
theorem place_ok (i : In) (hi : i.Ok) (w : World) (h : TabW w B hn gm most n f) {r : Rw} (hs : stt (f i) n most = some r) :
    Calls Try.prog 33 #[.pointer (some ⟨hn, 0, none⟩), i.ag] w fun e w' => e = .returned (.tuple #[r.ag, .int .i64 0]) ∧ Below w.heap.size w w' := by
  unfold stt at hs
  cases hf : f i with
  | some q =>
    rw [hf] at hs
    cases hs
    refine place_go _ i _ 0 (by decide) w fun w' b => ?_
    have := find_any i hi w' (h.below b)
    rw [hf] at this
    exact this
  | none =>
    rw [hf] at hs
    simp only at hs
    split at hs
    · rename_i hr
      cases hs
      have := place_none i hi w h hf
      rw [if_pos hr] at this
      exact this
    · cases hs
theorem place_no (i : In) (hi : i.Ok) (w : World) (h : TabW w B hn gm most n f) (hs : stt (f i) n most = none) :
    Calls Try.prog 33 #[.pointer (some ⟨hn, 0, none⟩), i.ag] w fun e w' => e = .returned (.tuple #[r0.ag, .int .i64 101]) ∧ Below w.heap.size w w' := by
  unfold stt at hs
  cases hf : f i with
  | some q => rw [hf] at hs; cases hs
  | none =>
    rw [hf] at hs
    simp only at hs
    split at hs
    · cases hs
    · rename_i hr
      have := place_none i hi w h hf
      rw [if_neg hr] at this
      exact this
theorem place_nil (i : In) (w : World) : Calls Try.prog 33 #[.pointer none, i.ag] w fun e w' => e = .returned (.tuple #[r0.ag, .int .i64 1]) ∧ Below w.heap.size w w' :=
  place_go _ i r0 1 (by decide) w fun w' _ => find_nil i w'
end
end Go.Proofs.Ytgfalpiifgoonaa
