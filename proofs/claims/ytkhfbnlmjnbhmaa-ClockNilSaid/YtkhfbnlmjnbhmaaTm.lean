/- Timers: rows of structs; the map from numbers to indices. -/
import Derived.Test.YtkhfbnlmjnbhmaaBi
import Derived.Maps.OwnSet
namespace Go.Proofs.Ytkhfbnlmjnbhmaa
open Go.RowKit
set_option linter.unusedVariables false

/-- number, due, serial -/
abbrev Tm := Nat × Nat × Nat
/-- is a told ahead of b? -/
def bef (a b : Tm) : Bool := decide (a.2.1 < b.2.1) || (decide (a.2.1 = b.2.1) && decide (a.2.2 < b.2.2))
theorem bef_iff (a b : Tm) : bef a b = true ↔ a.2.1 < b.2.1 ∨ (a.2.1 = b.2.1 ∧ a.2.2 < b.2.2) := by simp [bef]
theorem bef_not (a b : Tm) : bef a b = false ↔ b.2.1 < a.2.1 ∨ (a.2.1 = b.2.1 ∧ b.2.2 ≤ a.2.2) := by
  rw [← Bool.not_eq_true, bef_iff]; omega
/-- timer j -/
def tm (l : List Tm) (j : Nat) : Tm := l.getD j (0, 0, 0)
theorem tm_get {l : List Tm} {j : Nat} (h : j < l.length) : l[j]? = some (tm l j) := by simp [tm, h]
theorem tm_mem {l : List Tm} {j : Nat} (h : j < l.length) : tm l j ∈ l := List.mem_of_getElem? (tm_get h)
theorem tm_set (l : List Tm) (i k : Nat) (x : Tm) (h : i < l.length) : tm (l.set i x) k = if k = i then x else tm l k := by
  by_cases e : k = i
  · subst e; simp [tm, h]
  · rw [if_neg e]; unfold tm; simp [List.getD, List.getElem?_set_ne (Ne.symm e)]
theorem tm_take {l : List Tm} {i k : Nat} (h : k < i) : tm (l.take i) k = tm l k := by simp [tm, h]
theorem tm_app_left {l m : List Tm} {k : Nat} (h : k < l.length) : tm (l ++ m) k = tm l k := by simp [tm, List.getElem?_append_left h]
theorem ext_tm {l m : List Tm} (hl : l.length = m.length) (h : ∀ k, k < l.length → tm l k = tm m k) : l = m := by
  apply List.ext_getElem?
  intro k
  by_cases hk : k < l.length
  · rw [tm_get hk, tm_get (by omega), h k hk]
  · rw [List.getElem?_eq_none (by omega), List.getElem?_eq_none (by omega)]
/-- fits -/
def okT (t : Tm) : Prop := t.1 < 18446744073709551616 ∧ t.2.1 ≤ 1099511627776 ∧ t.2.2 < 18446744073709551616

/-- the cells of a list -/
def fl {α : Type} (c : α → List Value) (l : List α) : List Value := l.flatMap c
section
variable {α : Type} {c : α → List Value} {z : Nat}
theorem fl_len (hz : ∀ t, (c t).length = z) : ∀ l : List α, (fl c l).length = l.length * z
  | [] => by simp [fl]
  | x :: r => by
    have := fl_len hz r
    simp only [fl, List.flatMap_cons, List.length_append, List.length_cons, hz] at this ⊢
    rw [this, Nat.add_mul]; omega
theorem fl_app (l m : List α) : fl c (l ++ m) = fl c l ++ fl c m := by simp [fl]
theorem fl_one (x : α) : fl c [x] = c x := by simp [fl]
theorem fl_at (hz : ∀ t, (c t).length = z) : ∀ (l : List α) (j i : Nat), i < z → (fl c l)[j * z + i]? = l[j]?.bind fun t => (c t)[i]?
  | [], j, i, h => by simp [fl]
  | x :: r, 0, i, h => by
    simp only [fl, List.flatMap_cons, Nat.zero_mul, Nat.zero_add]
    rw [List.getElem?_append_left (by rw [hz]; exact h)]
    simp
  | x :: r, j + 1, i, h => by
    have := fl_at hz r j i h
    simp only [fl, List.flatMap_cons] at this ⊢
    rw [List.getElem?_append_right (by rw [hz, Nat.add_mul]; omega), hz]
    rw [show (j + 1) * z + i - z = j * z + i by rw [Nat.add_mul]; omega, this]
    simp
theorem fl_take (hz : ∀ t, (c t).length = z) : ∀ (l : List α) (n : Nat), (fl c l).take (n * z) = fl c (l.take n)
  | [], n => by simp [fl]
  | x :: r, 0 => by simp [fl]
  | x :: r, n + 1 => by
    have := fl_take hz r n
    simp only [fl, List.flatMap_cons, List.take_succ_cons] at this ⊢
    rw [List.take_append, hz, show (n + 1) * z - z = n * z by rw [Nat.add_mul]; omega, this, List.take_of_length_le (by rw [hz, Nat.add_mul]; omega)]
/-- element j is laid anew -/
theorem fl_set (hz : ∀ t, (c t).length = z) (l : List α) (j : Nat) (x : α) (xs : List Value) (hl : xs.length = (fl c l).length) (hj : j < l.length) (h1 : ∀ i, i < z → xs[j * z + i]? = (c x)[i]?) (h2 : ∀ q, (q < j * z ∨ j * z + z ≤ q) → xs[q]? = (fl c l)[q]?) :
    xs = fl c (l.set j x) := by
  have hlen := fl_len hz l
  apply List.ext_getElem?
  intro q
  by_cases hz0 : z = 0
  · have : (fl c (l.set j x)).length = 0 := by rw [fl_len hz]; simp [hz0]
    rw [List.getElem?_eq_none (by rw [hl, hlen, hz0]; omega), List.getElem?_eq_none (by omega)]
  · have hq : q = q / z * z + q % z := by have := Nat.div_add_mod q z; rw [Nat.mul_comm] at this; omega
    have hm : q % z < z := Nat.mod_lt _ (by omega)
    generalize q / z = k at hq
    generalize q % z = i at hq hm
    subst hq
    rw [fl_at hz _ _ _ hm]
    by_cases e : k = j
    · subst e
      rw [h1 i hm]; simp [hj]
    · rw [h2 (k * z + i) (by
        rcases Nat.lt_or_gt_of_ne e with h | h
        · have : (k + 1) * z ≤ j * z := Nat.mul_le_mul_right z h
          rw [Nat.add_mul] at this; omega
        · have : (j + 1) * z ≤ k * z := Nat.mul_le_mul_right z h
          rw [Nat.add_mul] at this; omega), fl_at hz _ _ _ hm, List.getElem?_set_ne (Ne.symm e)]
end
def c3 (t : Tm) : List Value := [.int .u64 (t.1 : Int), .int .i64 (t.2.1 : Int), .int .u64 (t.2.2 : Int)]
def c2 (t : Tm) : List Value := [.int .u64 (t.1 : Int), .int .i64 (t.2.1 : Int)]
def c1 (n : Nat) : List Value := [.int .u64 (n : Int)]
theorem c3_len (t : Tm) : (c3 t).length = 3 := rfl
theorem c2_len (t : Tm) : (c2 t).length = 2 := rfl
theorem c1_len (n : Nat) : (c1 n).length = 1 := rfl

/-! ### rows -/
section
variable {w w' : World} {B : Nat} {e : TypeId} {z : Nat} {v : Value} {n : Nat} {xs : List Value}
theorem owns_keep {S : List Nat} (h : w.ownsRow B e z v n xs) (k : Keep S w w') (hn : ∀ g, v.ownBlock = some g → g ∉ S) : w'.ownsRow B e z v n xs := by
  refine ⟨h.1, ?_⟩
  rcases h.2 with h2 | ⟨g, cap, cur, rfl, hb, hg, h3⟩
  · exact .inl h2
  · exact .inr ⟨g, cap, cur, rfl, hb, (k.block g (Array.getElem?_eq_some_iff.1 hg).1 (hn g rfl)).trans hg, h3⟩
theorem owns_base {B' : Nat} (h : w.ownsRow B e z v n xs) (hb : B' ≤ B) : w.ownsRow B' e z v n xs := by
  refine ⟨h.1, ?_⟩
  rcases h.2 with h2 | ⟨g, cap, cur, rfl, hb2, hg, h3⟩
  · exact .inl h2
  · exact .inr ⟨g, cap, cur, rfl, by omega, hg, h3⟩
theorem owns_shape (h : w.ownsRow B e z v n xs) : ∃ ao cap, v = .slice ao n cap ∧ n ≤ cap ∧ cap ≤ maxLen := by
  rcases h.2 with ⟨rfl, rfl⟩ | ⟨g, cap, cur, rfl, _, _, h1, h2, _⟩
  · exact ⟨none, 0, rfl, Nat.le_refl _, Nat.zero_le _⟩
  · exact ⟨_, cap, rfl, h1, h2⟩
theorem owns_blk {ao : Option Addr} {m cap : Nat} (h : w.ownsRow B e z (.slice ao m cap) n xs) : ∀ g ∈ blk ao, B ≤ g ∧ g < w.heap.size := by
  intro g hg
  rcases h.2 with ⟨h2, _⟩ | ⟨g', cap', cur, h2, hb, hg', _⟩
  · cases h2; simp [blk] at hg
  · cases h2
    simp [blk] at hg; subst hg
    exact ⟨hb, (Array.getElem?_eq_some_iff.1 hg').1⟩
theorem owns_none {ao : Option Addr} {m cap : Nat} (h : w.ownsRow B e z (.slice ao m cap) n xs) (h0 : 0 < n) : ∃ g, ao = some ⟨g, 0, none⟩ ∧ m = n ∧ n ≤ cap ∧ B ≤ g ∧ g < w.heap.size := by
  rcases h.2 with ⟨h2, h3⟩ | ⟨g', cap', cur, h2, hb, hg', h3, _⟩
  · omega
  · cases h2
    exact ⟨g', rfl, rfl, h3, hb, (Array.getElem?_eq_some_iff.1 hg').1⟩
/-- a shorter slice of the same row -/
theorem owns_take {ao : Option Addr} {cap : Nat} (h : w.ownsRow B e z (.slice ao n cap) n xs) (k : Nat) (hk : k ≤ n) : w.ownsRow B e z (.slice ao k cap) k (xs.take (k * z)) := by
  have h1 := h.1
  have hkz : k * z ≤ n * z := Nat.mul_le_mul_right z hk
  refine ⟨by rw [List.length_take]; omega, ?_⟩
  rcases h.2 with ⟨h2, h3⟩ | ⟨g', cap', cur, h2, hb, hg', h3, h4, h5, h6⟩
  · cases h2
    obtain rfl : k = 0 := by omega
    exact .inl ⟨rfl, rfl⟩
  · cases h2
    refine .inr ⟨g', cap, cur, rfl, hb, hg', by omega, h4, h5, ?_⟩
    rw [← h6, List.take_take, Nat.min_eq_left hkz]
end
theorem blk_own (ao : Option Addr) (n cap : Nat) {S : List Nat} (h : ∀ g ∈ blk ao, g ∉ S) : ∀ g, (Value.slice ao n cap).ownBlock = some g → g ∉ S := by
  intro g hg
  cases ao with
  | none => cases hg
  | some a => simp [Value.ownBlock] at hg; exact hg ▸ h _ (by simp [blk])
theorem keep_grown {w w' : World} {ao : Option Addr} {n cap : Nat} (h : w.grownBy w' (Value.slice ao n cap).ownBlock) : Keep (blk ao) w w' :=
  ⟨h.os, h.tape, h.output, h.size, fun k hk hn => h.block k hk fun e => by
    cases ao with
    | none => cases e
    | some a => simp [Value.ownBlock] at e; exact hn (by simp [blk, e])⟩

/-! ### the map -/
theorem mlaw : Maps.Keyed Try.prog 32 := Maps.int_keyed Try.underlying32
theorem zeroE (w : World) : (zeroValue 3).run Try.prog w = .ok (.int .i64 0) w := by kernel_rfl
theorem wf_u64 (n : Nat) (h : n < 18446744073709551616) : (Lit.int .u64 (n : Int)).wf = true := by
  simp [Lit.wf, IntKind.min, IntKind.max, IntKind.signed, IntKind.bits]; omega
theorem wf_i64 (n : Nat) (h : n < 9223372036854775808) : (Lit.int .i64 (n : Int)).wf = true := by
  simp [Lit.wf, IntKind.min, IntKind.max, IntKind.signed, IntKind.bits]; omega
abbrev ky (id : Nat) : Lit := .int .u64 (id : Int)
theorem ky_ne {a b : Nat} (h : a ≠ b) : ky a ≠ ky b := by intro e; injection e with _ e; exact h (by omega)
theorem keyIs (id : Nat) (h : id < 18446744073709551616) : keyOf Try.prog 32 (.int .u64 (id : Int)) = some (ky id) := Maps.keyOf_int_mk Try.underlying32 (wf_u64 id h)
/-- block gm is a map of n numbers: number id is at f id -/
def MapF (w : World) (gm n : Nat) (f : Nat → Option Nat) : Prop :=
  ∃ D : DataW Unit, w.ownsMap Try.prog 32 (plainElem Try.prog 3) gm n D ∧ Maps.size D = n ∧
    ∀ id, id < 18446744073709551616 → Maps.has D (ky id) = (f id).isSome ∧ ∀ i, f id = some i → D.atKey (ky id) (.lit (.int .i64 0)) = .lit (.int .i64 (i : Int))
def upd (f : Nat → Option Nat) (id : Nat) (x : Option Nat) : Nat → Option Nat := fun k => if k = id then x else f k
theorem upd_same (f : Nat → Option Nat) (id : Nat) (x : Option Nat) : upd f id x id = x := by simp [upd]
theorem upd_other (f : Nat → Option Nat) {id k : Nat} (x : Option Nat) (h : k ≠ id) : upd f id x k = f k := by simp [upd, h]
section
variable {w w' : World} {gm n : Nat} {f : Nat → Option Nat}
theorem MapF.lt (h : MapF w gm n f) : gm < w.heap.size := by obtain ⟨D, h1, _⟩ := h; exact h1.lt
theorem MapF.keep {S : List Nat} (h : MapF w gm n f) (k : Keep S w w') (hn : gm ∉ S) : MapF w' gm n f := by
  have hl := h.lt
  obtain ⟨D, ⟨es, clock, hb, h1⟩, h2⟩ := h
  exact ⟨D, ⟨es, clock, (k.block gm hl hn).trans hb, h1⟩, h2⟩
theorem MapF.made (w : World) : MapF (w.alloc (.map #[] 0)) w.heap.size 0 (fun _ => none) :=
  ⟨.map [], World.ownsMap_made _ _ _ _, rfl, fun id _ => ⟨rfl, fun i h => by cases h⟩⟩
theorem keep_turned (h : w.mapTurned w' gm) : Keep [gm] w w' := by
  have g := h.grown
  exact ⟨g.os, g.tape, g.output, g.size, fun k hk hn => g.block k hk (by simp at hn ⊢; exact hn)⟩
/-- v, ok := m[id] -/
theorem MapF.look (h : MapF w gm n f) (id : Nat) (hid : id < 18446744073709551616) :
    ∃ c : Nat, (Instr.lookup 58 (.map (some gm)) (.int .u64 (id : Int)) true).run Try.prog w = .ok (.tuple #[.int .i64 (if (f id).isSome then (c : Int) else 0), .bool (f id).isSome]) w ∧ (∀ i, f id = some i → c = i) := by
  obtain ⟨D, h1, h2, h3⟩ := h
  obtain ⟨h4, h5⟩ := h3 id hid
  obtain ⟨v, ps, hr, hv⟩ := h1.look_ok mlaw Try.underlying58 (zeroE w) (plainElem_int (H := Unit) Try.underlying3 (a := 0) (by decide)) (keyIs id hid)
  cases hf : f id with
  | none =>
    rw [hf] at h4
    rw [Maps.atKey_of_not_has h4] at hv
    obtain ⟨c, rfl, hc, _⟩ := plainElem_int_inv Try.underlying3 hv
    have : c = 0 := by have := congrArg Prod.fst hc; simp at this; exact this.symm
    subst this
    exact ⟨0, by rw [hr, h4]; rfl, fun i hi => by cases hi⟩
  | some i =>
    rw [hf] at h4
    rw [h5 i hf] at hv
    obtain ⟨c, rfl, hc, _⟩ := plainElem_int_inv Try.underlying3 hv
    have : c = (i : Int) := by have := congrArg Prod.fst hc; simp at this; exact this.symm
    subst this
    exact ⟨i, by rw [hr, h4]; rfl, fun j hj => by cases hj; rfl⟩
/-- m[id], which is there -/
theorem MapF.look1 (h : MapF w gm n f) (id : Nat) (hid : id < 18446744073709551616) {i : Nat} (hf : f id = some i) :
    (Instr.lookup 58 (.map (some gm)) (.int .u64 (id : Int)) false).run Try.prog w = .ok (.int .i64 (i : Int)) w := by
  obtain ⟨D, h1, h2, h3⟩ := h
  obtain ⟨c, hr, hc, _⟩ := h1.lookup_int mlaw Try.underlying58 Try.underlying3 (zeroE w) (keyIs id hid)
  rw [(h3 id hid).2 i hf] at hc
  obtain rfl : (i : Int) = c := by injection hc with hc; injection hc
  exact hr
/-- m[id] = i -/
theorem MapF.put (h : MapF w gm n f) (id i : Nat) (hid : id < 18446744073709551616) (hi : i < 9223372036854775808) (hn : n < 1000000) :
    ∃ w', (Instr.mapUpdate 58 (.map (some gm)) (.int .u64 (id : Int)) (.int .i64 (i : Int))).run Try.prog w = .ok () w' ∧ MapF w' gm (if (f id).isSome then n else n + 1) (upd f id (some i)) ∧ Keep [gm] w w' := by
  obtain ⟨D, h1, h2, h3⟩ := h
  obtain ⟨w', hr, h4, h5⟩ := h1.store mlaw Try.underlying58 (by unfold maxLen; omega) (keyIs id hid) (plainElem_int Try.underlying3 (wf_i64 i hi))
  refine ⟨w', hr, ⟨D.put (ky id) (.lit (.int .i64 (i : Int))), ?_, ?_, fun k hk => ?_⟩, keep_turned h5⟩
  · have hs := Maps.size_put (h1.tidy mlaw) (k := ky id) (.lit (.int .i64 (i : Int)))
    rw [(h3 id hid).1, h2] at hs
    obtain ⟨es, clock, hb, F, hsz, hD⟩ := h4
    refine ⟨es, clock, hb, F, ?_, hD⟩
    rw [← hs, hD]
    simp [Maps.size, length_sorted]
  · rw [Maps.size_put (h1.tidy mlaw), (h3 id hid).1, h2]
  · by_cases e : k = id
    · subst e
      have hk2 : WideAt.IsKeyLit (ky k) := by simp [WideAt.IsKeyLit]
      rw [Maps.has_put_same h1.isMap hk2, upd_same]
      refine ⟨rfl, fun j hj => ?_⟩
      cases hj
      exact Maps.atKey_put_same h1.isMap hk2 _ _
    · rw [Maps.has_put_other (ky_ne e), upd_other _ _ e]
      refine ⟨(h3 k hk).1, fun j hj => ?_⟩
      rw [Maps.atKey_put_other (ky_ne e)]
      exact (h3 k hk).2 j hj
/-- delete(m, id) -/
theorem MapF.del (h : MapF w gm n f) (id : Nat) (hid : id < 18446744073709551616) (ty : TypeId) :
    ∃ w', (Builtin.delete_ #[58, 32] ty #[.map (some gm), .int .u64 (id : Int)]).run Try.prog w = .ok (.tuple #[]) w' ∧ MapF w' gm (if (f id).isSome then n - 1 else n) (upd f id none) ∧ Keep [gm] w w' := by
  obtain ⟨D, h1, h2, h3⟩ := h
  obtain ⟨w', hr, h4, h5⟩ := h1.drop mlaw Try.underlying58 (keyIs id hid) ty
  have hs := Maps.size_del (h1.tidy mlaw) (k := ky id)
  rw [(h3 id hid).1, h2] at hs
  have hs2 : Maps.size (D.del (ky id)) = if (f id).isSome then n - 1 else n := by
    split at hs
    · rename_i h; rw [if_pos h]; omega
    · rename_i h; rw [if_neg h]; omega
  refine ⟨w', hr, ⟨D.del (ky id), ?_, hs2, fun k hk => ?_⟩, keep_turned h5⟩
  · obtain ⟨es, clock, hb, F, hsz, hD⟩ := h4
    refine ⟨es, clock, hb, F, ?_, hD⟩
    rw [← hs2, hD]
    simp [Maps.size, length_sorted]
  · by_cases e : k = id
    · subst e
      rw [Maps.has_del_same, upd_same]
      exact ⟨rfl, fun j hj => by cases hj⟩
    · rw [Maps.has_del_other (ky_ne e), upd_other _ _ e]
      refine ⟨(h3 k hk).1, fun j hj => ?_⟩
      rw [Maps.atKey_del_other (ky_ne e)]
      exact (h3 k hk).2 j hj
end
end Go.Proofs.Ytkhfbnlmjnbhmaa
