/- Forget. -/
import Derived.Test.YtgknmicblnldiaaAc
namespace Go.Proofs.Ytgknmicblnldiaa
open Go.RowKit Go.Sort
set_option linter.unusedVariables false

section
variable {w w' : World} {B hn gm most n : Nat} {f : Fn}
set_option maxRecDepth 100000 in
set_option maxHeartbeats 1600000 in
theorem forget_err (p : Value) (i : In) (r : Rw) (x : Int) (hx : x ≠ 0) (w : World)
    (hc : ∀ w', Below w.heap.size w w' → Calls Try.prog 24 #[p, i.ag] w' fun e w2 => e = .returned (.tuple #[r.ag, .int .i64 x]) ∧ Below w'.heap.size w' w2) :
    Calls Try.prog 17 #[p, i.ag] w fun e w' => e = .returned (.int .i64 x) ∧ Below w.heap.size w w' := by
  obtain ⟨W, hW⟩ : ∃ W, W = w.alloc i.obj := ⟨_, rfl⟩
  have bW : Below w.heap.size w W := by rw [hW]; exact below_alloc (Below.refl _ _) _
  have hz : W.heap.size = w.heap.size + 1 := by rw [hW]; simp
  have ki : Row4 W w.heap.size i := by
    have := Row4.new w i
    rw [← hW] at this; exact this
  obtain ⟨d0, d1, d2, d3⟩ := ki.all
  have HB := Lib.hid bW
  have KI := Lib.hid ki
  have HZ := Lib.hid hz
  have HC := Lib.hid (hc W bW)
  clear ki bW hc
  obtain ⟨tx, ib, ir, ix⟩ := i
  obtain ⟨⟨pr, pn⟩, ⟨is, ⟨ar, an⟩, av⟩⟩ := r
  simp only [In.ag, In.obj, Rw.ag] at hW HC ⊢
  go_enter Try.func17, Try.ntmps17
  go_upto_region 1 with (fail)
  rw [← hW]
  clear hW hz
  generalize hbi : w.heap.size = bi at *
  go_wp2_with fail
  refine HC.out.mono ?_; rintro e w1 ⟨rfl, b1⟩
  have HB1 := Lib.hid (below_alloc' (HB.out.trans (b1.mono (by have := HZ.out; omega))) (Nat.le_trans (by have := HZ.out; omega) b1.size) (Rw.obj ⟨⟨pr, pn⟩, ⟨is, ⟨ar, an⟩, av⟩⟩))
  simp only [Rw.obj] at HB1
  clear b1 d0 d1 d2 d3 HC HZ HB KI
  go_wp2_with fail
  go_ret
  exact ⟨rfl, by rw [hbi]; exact HB1.out⟩
theorem forget_none (i : In) (hi : i.Ok) (w : World) (h : TabW w B hn gm most n f) (hf : f i = none) :
    Calls Try.prog 17 #[.pointer (some ⟨hn, 0, none⟩), i.ag] w fun e w' => e = .returned (.int .i64 102) ∧ Below w.heap.size w w' :=
  forget_err _ i r0 102 (by decide) w fun w' b => by have := find_any i hi w' (h.below b); rw [hf] at this; exact this
theorem forget_nil (i : In) (w : World) : Calls Try.prog 17 #[.pointer none, i.ag] w fun e w' => e = .returned (.int .i64 1) ∧ Below w.heap.size w w' :=
  forget_err _ i r0 1 (by decide) w fun w' _ => find_nil i w'
/-- delete(m, i) -/
theorem TabW.delMap (h : TabW w B hn gm most n f) (i : In) (hi : i.Ok) {r : Rw} (hf : f i = some r) (ty : TypeId) :
    ∃ w', (Builtin.delete_ #[56, 36] ty #[.map (some gm), i.ag]).run Try.prog w = .ok (.tuple #[]) w' ∧ TabW w' B hn gm most (n - 1) (upd f i none) ∧ Keep [gm] w w' := by
  obtain ⟨w', h1, h2, h3⟩ := h.map.del i hi ty
  rw [hf] at h2
  exact ⟨w', h1, h.turn h3 h2 (by have := h.few; omega), h3⟩
theorem wpList_del {w w' : World} {ops : Array Oper} {rest : List Oper} {o : Oper} {a : Act} {Q : Exit → Act → World → Prop} (hgd : o.guard = none) (m k : Operand)
    (ho : o.op = .call { callee := .builtin .delete, args := #[m, k], argTypes := #[56, 36] }) {mv kv : Value} (hm : a.eval m = mv) (hk : a.eval k = kv)
    (hr : (Builtin.delete_ #[56, 36] o.type #[mv, kv]).run Try.prog w = .ok (.tuple #[]) w') (h : wpList Try.prog ops Q rest (a.put o.dst (.tuple #[])) w') : wpList Try.prog ops Q (o :: rest) a w := by
  refine wpList_plain hgd fun K hK => ?_
  unfold Oper.wp execOp
  simp only [ho, resolve, invoke, builtin, Sem.run_bind, Sem.run_pure, Result.andThen_ok, List.map_toArray, List.map_cons, List.map_nil, hm, hk, hr]
  exact hK _ _ h
set_option maxRecDepth 100000 in
set_option maxHeartbeats 1600000 in
theorem forget_yes (i : In) (hi : i.Ok) (w : World) (h : TabW w B hn gm most n f) {r : Rw} (hf : f i = some r) :
    Calls Try.prog 17 #[.pointer (some ⟨hn, 0, none⟩), i.ag] w fun e w' => e = .returned (.int .i64 0) ∧ TabW w' B hn gm most (n - 1) (upd f i none) ∧ Keep [gm] w w' := by
  obtain ⟨W, hW⟩ : ∃ W, W = w.alloc i.obj := ⟨_, rfl⟩
  have bW : Below w.heap.size w W := by rw [hW]; exact below_alloc (Below.refl _ _) _
  have hz : W.heap.size = w.heap.size + 1 := by rw [hW]; simp
  have ki : Row4 W w.heap.size i := by
    have := Row4.new w i
    rw [← hW] at this; exact this
  obtain ⟨d0, d1, d2, d3⟩ := ki.all
  have HB := Lib.hid bW
  have KI := Lib.hid ki
  have HZ := Lib.hid hz
  have hc := find_any i hi W (h.below bW)
  rw [hf] at hc
  change Calls _ _ _ _ fun e w2 => e = .returned (.tuple #[r.ag, .int .i64 0]) ∧ _ at hc
  have HC := Lib.hid hc
  have HT := Lib.hid (h.below bW)
  have HDEL := Lib.hid (fun w' (t : TabW w' B hn gm most n f) => t.delMap i hi hf 0)
  clear ki bW hc h hi hf
  generalize huu : upd f i none = uu at *
  obtain ⟨tx, ib, ir, ix⟩ := i
  obtain ⟨⟨pr, pn⟩, ⟨is, ⟨ar, an⟩, av⟩⟩ := r
  simp only [In.ag, In.obj, Rw.ag] at hW HC ⊢
  go_enter Try.func17, Try.ntmps17
  go_upto_region 1 with (fail)
  rw [← hW]
  clear hW hz
  generalize hbi : w.heap.size = bi at *
  go_wp2_with fail
  refine HC.out.mono ?_; rintro e w1 ⟨rfl, b1⟩
  have b2 := below_alloc b1 (Rw.obj ⟨⟨pr, pn⟩, ⟨is, ⟨ar, an⟩, av⟩⟩)
  have t4 := HT.out.below b2
  have i4 := KI.out.below b2
  have B4 := Lib.hid (HB.out.trans (b2.mono (by have := HZ.out; omega)))
  have S4 := Lib.hid (show bi ≤ _ from Nat.le_trans (by have := HZ.out; omega) b2.size)
  simp only [Rw.obj] at b2 t4 i4 B4 S4
  clear b1 b2 d0 d1 d2 d3 HC HZ HB KI HT
  go_wp2_with fail
  generalize hbw : w1.heap.size = bw at *
  generalize w1.alloc (.cells #[.int .u32 pr, .int .u8 pn, .bool is, .int .u32 ar, .int .u8 an, .string av] 63) = W3 at *
  have HT4 := Lib.hid t4
  obtain ⟨e0, e1, e2, e3⟩ := i4.all
  simp only at e0 e1 e2 e3
  have x0 := cell_regrown t4.at1; have x1 := cell_regrown e0; have x2 := cell_regrown e1; have x3 := cell_regrown e2; have x4 := cell_regrown e3
  clear t4 i4 e0 e1 e2 e3
  refine region_tail 5 (by kernel_rfl) (by kernel_rfl) ?_
  simp only [List.take_succ_cons, List.take_zero, List.drop_succ_cons, List.drop_zero]
  repeat (go_big_quiet_step (fail))
  refine wpQuiet_nil ?_
  intro _ hw'
  obtain ⟨⟨dq, osq⟩, hw''⟩ := hw'
  subst hw''
  have lk := below_regrown W3 dq osq
  obtain ⟨w5, hr, t5, p5⟩ := HDEL.out _ (HT4.out.below lk)
  simp only [In.ag] at hr
  have B5 := Lib.hid ((Keep.of_below (by rw [hbi]; exact B4.out.trans (lk.mono S4.out) : Below w.heap.size w _) [gm]).trans p5)
  clear x0 x1 x2 x3 x4 HDEL HT4
  generalize grow (redrawn W3 dq) osq = w6 at *
  have HT5 := Lib.hid t5; have HR := Lib.hid hr
  clear t5 p5 lk B4 hr
  go_wp2_with (at_delete; refine wpList_del rfl (.tmp 18) (.tmp 19) rfl rfl rfl HR.out ?_)
  go_ret
  exact ⟨rfl, HT5.out, B5.out⟩
end
end Go.Proofs.Ytgknmicblnldiaa
