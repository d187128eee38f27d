/- slices.Delete at packets: the first one goes. -/
import Derived.Test.YtjhdlohcjodgjaaPut
import Derived.Lib.SliceRun
namespace Go.Proofs.Ytjhdlohcjodgjaa
open Go.RowKit
set_option linter.unusedVariables false

def layL (xs : List Value) : Nat → List Value → List Value
  | _, [] => xs
  | q, v :: r => layL (xs.set q v) (q + 1) r
theorem layL_len (vs : List Value) : ∀ (xs : List Value) (q : Nat), (layL xs q vs).length = xs.length := by
  induction vs with
  | nil => intro xs q; rfl
  | cons v r ih => intro xs q; rw [layL, ih, List.length_set]
theorem layL_at (vs : List Value) : ∀ (xs : List Value) (q j : Nat), q + vs.length ≤ xs.length → (layL xs q vs)[j]? = if q ≤ j ∧ j < q + vs.length then vs[j - q]? else xs[j]? := by
  induction vs with
  | nil => intro xs q j _; rw [layL, if_neg (by simp)]
  | cons v r ih =>
    intro xs q j h
    simp only [List.length_cons] at h ⊢
    rw [layL, ih (xs.set q v) (q + 1) j (by rw [List.length_set]; omega)]
    by_cases e : j = q
    · subst e
      rw [if_neg (by omega), if_pos (by omega), List.getElem?_set_self (by omega), Nat.sub_self]
      rfl
    · by_cases h2 : q + 1 ≤ j ∧ j < q + 1 + r.length
      · rw [if_pos h2, if_pos (by omega), show j - q = j - (q + 1) + 1 by omega]
        rfl
      · rw [if_neg h2, if_neg (by omega), List.getElem?_set_ne (by omega)]
section
variable {w : World} {B n cap z g : Nat} {e : TypeId} {xs : List Value}
theorem owns_putz (ho : w.ownsRow B e z (.slice (some ⟨g, 0, none⟩) n cap) n xs) (q : Nat) (hq : q < n * z) (v : Value) : (w.setCell ⟨g, q, none⟩ v).ownsRow B e z (.slice (some ⟨g, 0, none⟩) n cap) n (xs.set q v) := by
  refine ⟨by rw [List.length_set]; exact ho.1, ?_⟩
  rcases ho.2 with ⟨h2, h3⟩ | ⟨g', cap', cur, h2, hb, hg, h3, h4, h5, h6⟩
  · cases h2
  · cases h2
    have hz : n * z ≤ cap * z := Nat.mul_le_mul_right z h3
    refine .inr ⟨g, cap, cur.setIfInBounds q v, rfl, hb, heap_setCell_same w g q cur _ _ hg, h3, h4, by simpa using h5, ?_⟩
    rw [← h6]
    apply List.ext_getElem?
    intro k
    rw [List.getElem?_take]
    by_cases hk : k < n * z
    · rw [if_pos hk, Array.getElem?_toList]
      by_cases ek : k = q
      · subst ek
        rw [Array.getElem?_setIfInBounds_self_of_lt (by omega), List.getElem?_set_self (by rw [List.length_take, Array.length_toList]; omega)]
      · rw [Array.getElem?_setIfInBounds_ne (by omega), List.getElem?_set_ne (by omega), List.getElem?_take, if_pos hk, Array.getElem?_toList]
    · rw [if_neg hk, List.getElem?_eq_none (by rw [List.length_set, List.length_take]; omega)]
theorem owns_puts (vs : List Value) : ∀ (w : World) (xs : List Value) (q : Nat), w.ownsRow B e z (.slice (some ⟨g, 0, none⟩) n cap) n xs → q + vs.length ≤ n * z → (w.setCells g q vs).ownsRow B e z (.slice (some ⟨g, 0, none⟩) n cap) n (layL xs q vs) := by
  induction vs with
  | nil => intro w xs q h _; exact h
  | cons v r ih =>
    intro w xs q h hq
    simp only [List.length_cons] at hq
    exact ih _ _ _ (owns_putz h q (by omega) v) (by omega)
theorem keep_puts (vs : List Value) : ∀ (w : World) (q : Nat), Keep [g] w (w.setCells g q vs) := by
  induction vs with
  | nil => intro w q; exact Keep.refl _ _
  | cons v r ih => intro w q; exact (Keep.setCell w ⟨g, q, none⟩ v).trans (ih _ _)
end
theorem clear_one (w : World) (b o c : Nat) (hc : ∀ j, j < 4 → (w.cell? ⟨b, o + j, none⟩).isSome = true) (hf : ∀ j, j < 4 → w.frozen? ⟨b, o + j, none⟩ = false) (ty : TypeId) :
    (Builtin.clear_ #[28] ty #[.slice (some ⟨b, o, none⟩) 1 c]).run Try.prog w = .ok (.tuple #[]) (w.setCells b o [.int .u64 0, .int .i64 0, .int .i64 0, .slice none 0 0]) := by
  have hz : ∀ w, (zeroValue 32).run Try.prog w = .ok (.agg #[.int .u64 0, .int .i64 0, .int .i64 0, .slice none 0 0]) w := fun w => by kernel_rfl
  have hst := run_storeCells_cells (P := Try.prog) b o [.int .u64 0, .int .i64 0, .int .i64 0, .slice none 0 0] 0 w (by simpa using hc) (by simpa using hf) (by simp [Value.oneCell'])
  simp only [Nat.add_zero] at hst
  have hr : List.map (fun i => ([.int .u64 0, .int .i64 0, .int .i64 0, .slice none 0 0] : List Value)[i % 4]?.getD default) (List.range 4) = [.int .u64 0, .int .i64 0, .int .i64 0, .slice none 0 0] := rfl
  simp [Builtin.clear_, run_underlying Try.underlying28, hz, Builtin.zeroCells, Value.cells, hr, hst]
section
variable {w : World} {B cap g N : Nat} {xs : List Value}
set_option maxRecDepth 100000 in
set_option maxHeartbeats 4000000 in
theorem idel_any (w : World) (h : w.ownsRow B 32 4 (.slice (some ⟨g, 0, none⟩) (N + 1) cap) (N + 1) xs) (hc : N + 1 ≤ 256) (h1 : ∀ u ∈ xs, u.oneCell' = true) :
    Calls Try.prog 30 #[.slice (some ⟨g, 0, none⟩) (N + 1) cap, .int .i64 0, .int .i64 1] w fun e w' =>
      e = .returned (.slice (some ⟨g, 0, none⟩) N cap) ∧ w'.ownsRow B 32 4 (.slice (some ⟨g, 0, none⟩) N cap) N (xs.drop 4) ∧ Keep [g] w w' := by
  obtain ⟨i0, hi, hz0, hz1, hz2⟩ := info_parts pkt_info
  have HI := Lib.hid hi; have HZ1 := Lib.hid hz1
  clear hi hz0 hz1 hz2
  have hlen := h.1
  obtain ⟨_, _, _, _, hcap, hmx⟩ : ∃ (a b c : Nat), a = a ∧ N + 1 ≤ cap ∧ cap ≤ maxLen := by
    obtain ⟨ao, c, e, h2, h3⟩ := owns_shape h
    cases e
    exact ⟨0, 0, 0, rfl, h2, h3⟩
  have hN1 : (1 : Int) ≤ (N : Int) + 1 := by omega
  obtain ⟨news, hnews⟩ : ∃ news, news = xs.drop 4 := ⟨_, rfl⟩
  have hnl : news.length = N * 4 := by rw [hnews, List.length_drop, hlen]; omega
  have hat : ∀ t u, news[t]? = some u → w.cell? ⟨g, 4 + t, none⟩ = some u := fun t u hu => by
    rw [hnews, List.getElem?_drop] at hu
    have := h.cells (g := g) rfl (4 + t) u hu
    rw [Addr.add_lit, Nat.zero_add] at this
    exact this
  obtain ⟨A, hA, hsrc⟩ : ∃ A : Addr, (if cap = 1 then some (⟨g, 0, none⟩ : Addr) else some ⟨g, 4, none⟩) = some A ∧ Hid (∀ t u, news[t]? = some u → w.drew.cell? (A.add t) = some u) := by
    by_cases h9 : cap = 1
    · refine ⟨⟨g, 0, none⟩, by simp [h9], fun t u hu => ?_⟩
      have h0 : news.length = 0 := by rw [hnl]; omega
      rw [List.length_eq_zero_iff.1 h0] at hu
      simp at hu
    · refine ⟨⟨g, 4, none⟩, by simp [h9], fun t u hu => ?_⟩
      rw [Addr.add_lit]
      exact hat t u hu
  have s1 : Hid (news.length = N * 4) := hnl
  have s2 : Hid (∀ u ∈ news, u.oneCell' = true) := fun u hu => h1 u (List.mem_of_mem_drop (hnews ▸ hu))
  have s3 : Hid (∀ t, t < news.length → (w.drew.cell? ⟨g, 0 + 0 * 4 + t, none⟩).isSome = true ∧ w.drew.frozen? ⟨g, 0 + 0 * 4 + t, none⟩ = false) := fun t ht => by
    rw [hnl] at ht
    have hlt : t < xs.length := by rw [hlen]; omega
    have := h.cells (g := g) rfl t _ (List.getElem?_eq_getElem hlt)
    rw [Addr.add_lit, Nat.zero_add] at this
    rw [show 0 + 0 * 4 + t = t by omega]
    exact ⟨by show (w.cell? _).isSome = true; rw [this]; rfl, h.frozenAt t⟩
  obtain ⟨W1, hW1⟩ : ∃ W1, W1 = w.drew.setCells g (0 + 0 * 4) news := ⟨_, rfl⟩
  have hd : w.drew.ownsRow B 32 4 (.slice (some ⟨g, 0, none⟩) (N + 1) cap) (N + 1) xs := owns_keep h (Keep.of_below (Below.refl _ _).drew []) (by simp)
  have h2 := owns_puts news w.drew xs (0 + 0 * 4) hd (by omega)
  rw [← hW1] at h2
  have k1 : Keep [g] w W1 := by rw [hW1]; exact (Keep.of_below (Below.refl _ _).drew [g]).trans (keep_puts news _ _)
  have hcl := clear_one W1 g (N * 4) (cap - N) (fun j hj => by
    have hlt : N * 4 + j < (layL xs (0 + 0 * 4) news).length := by rw [layL_len, hlen]; omega
    have := h2.cells (g := g) rfl _ _ (List.getElem?_eq_getElem hlt)
    rw [Addr.add_lit, Nat.zero_add] at this
    rw [this]; rfl) (fun j _ => h2.frozenAt _)
  have hW : Hid (W1 = w.drew.setCells g (0 + 0 * 4) news) := hW1
  have h3 := owns_puts [.int .u64 0, .int .i64 0, .int .i64 0, .slice none 0 0] W1 _ (N * 4) h2 (by simp; omega)
  have h4 := owns_take h3 N (by omega)
  have e4 : (layL (layL xs (0 + 0 * 4) news) (N * 4) [.int .u64 0, .int .i64 0, .int .i64 0, .slice none 0 0]).take (N * 4) = xs.drop 4 := by
    apply List.ext_getElem?
    intro j
    rw [List.getElem?_take]
    by_cases hj : j < N * 4
    · rw [if_pos hj, layL_at _ _ _ _ (by rw [layL_len, hlen]; simp; omega), if_neg (by omega), layL_at _ _ _ _ (by rw [hlen]; omega), if_pos (by omega), ← hnews]
      congr 1
    · rw [if_neg hj, List.getElem?_eq_none (by rw [← hnews]; omega)]
  rw [e4] at h4
  have HR := Lib.hid (show (W1.setCells g (N * 4) [.int .u64 0, .int .i64 0, .int .i64 0, .slice none 0 0]).ownsRow B 32 4 (.slice (some ⟨g, 0, none⟩) N cap) N (xs.drop 4) ∧ Keep [g] w (W1.setCells g (N * 4) [.int .u64 0, .int .i64 0, .int .i64 0, .slice none 0 0]) from ⟨h4, k1.trans (keep_puts _ _ _)⟩)
  clear hW1 h2 h3 h4 e4 hd h hat hnl hnews hlen h1 k1
  go_enter Try.func30, Try.ntmps30
  go_wp2_with fail
  go_region_law (refine step_append_room rfl (.tmp 22) (.tmp 25) 28 rfl 32 i0 4 Try.underlying28 HI.out HZ1.out g 0 0 cap (by simp [Act.eval, Act.put]) A N (cap - 1) news (by simp [Act.eval, Act.put]) s1.out hsrc.out s2.out (by omega) s3.out ?_; rw [← hW.out])
  go_wp2_with fail
  go_ret
  exact ⟨rfl, HR.out⟩
end
end Go.Proofs.Ytjhdlohcjodgjaa
