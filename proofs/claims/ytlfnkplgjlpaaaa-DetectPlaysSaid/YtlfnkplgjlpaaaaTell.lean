/- Who is suspected, as an array of bools; what each call does to it. -/
import Derived.Test.YtlfnkplgjlpaaaaAwake
import Derived.Test.YtlfnkplgjlpaaaaArg
namespace Go.Proofs.Ytlfnkplgjlpaaaa
open Go.RowKit Go.Sort
set_option linter.unusedVariables false

theorem i64_hi {k : Int} (wk : (Lit.int .i64 k).wf = true) : -9223372036854775808 ≤ k ∧ k ≤ 9223372036854775807 := by
  simp [Lit.wf, IntKind.min, IntKind.max, IntKind.signed, IntKind.bits] at wk
  omega
/-! ### twelve bools in a block -/
def Arr (w : World) (g : Nat) (f : Nat → Bool) : Prop := w.heap[g]? = some (.cells ((List.range 12).map fun p => Value.bool (f p)).toArray 45 (0, 0))
def updB (f : Nat → Bool) (p : Nat) (b : Bool) : Nat → Bool := fun q => if q = p then b else f q
section
variable {w w' : World} {g : Nat} {f : Nat → Bool}
theorem Arr.lt (h : Arr w g f) : g < w.heap.size := (Array.getElem?_eq_some_iff.1 h).1
theorem Arr.at_ (h : Arr w g f) {p : Nat} (hp : p < 12) : w.cell? ⟨g, p, none⟩ = some (.bool (f p)) := by
  rw [cell_of_row w g p _ _ (0, 0) h]
  simp [hp]
theorem Arr.fr (h : Arr w g f) (p : Nat) : w.frozen? ⟨g, p, none⟩ = false := frozen_of_row w g p _ _ h
theorem Arr.set (h : Arr w g f) (p : Nat) (b : Bool) : Arr (w.setCell ⟨g, p, none⟩ (.bool b)) g (updB f p b) := by
  unfold Arr
  rw [heap_setCell_same w g p _ _ _ h]
  congr 2
  apply Array.ext'
  simp only [Array.toList_setIfInBounds]
  apply List.ext_getElem?
  intro q
  by_cases hq : q < 12
  · by_cases e : p = q
    · subst e
      rw [List.getElem?_set_self (by simpa using hq)]
      simp [updB, hq]
    · rw [List.getElem?_set_ne e]
      have e2 : ¬ q = p := fun h => e h.symm
      simp [updB, hq, e2]
  · rw [List.getElem?_eq_none (by simp; omega), List.getElem?_eq_none (by simp; omega)]
theorem Arr.keep {U : List Nat} (h : Arr w g f) (k : Keep U w w') (hn : g ∉ U) : Arr w' g f := (k.block g h.lt hn).trans h
theorem Arr.below (h : Arr w g f) (b : Below w.heap.size w w') : Arr w' g f := (b.block g h.lt).trans h
end
theorem Arr.new (w : World) : Arr (w.alloc (.cells #[.bool false, .bool false, .bool false, .bool false, .bool false, .bool false, .bool false, .bool false, .bool false, .bool false, .bool false, .bool false] 45)) w.heap.size (fun _ => false) := heap_alloc_new w _

/-- f knows who is suspected -/
def Tell (S : List Nd) (f : Nat → Bool) : Prop := ∀ p : Nat, p < 12 → f p = match look S (p : Int) with | some n => n.bad | none => false
/-- nobody beyond 11 -/
def Low (S : List Nd) : Prop := ∀ x ∈ S, 0 ≤ x.id ∧ x.id ≤ 11
section
variable {S : List Nd} {f : Nat → Bool} {p now : Nat}
theorem Tell.watch (h : Tell S f) (hS : Inc S) {g : Nat} (hl : look S (p : Int) = none) : Tell (ins (newN g p now) S) f := fun q hq => by
  rw [look_ins hS (look_none hl)]
  by_cases e : (q : Int) = (p : Int)
  · rw [if_pos (show (q : Int) = (newN g p now).id from e), h q hq, e, hl]
  · rw [if_neg (show ¬ (q : Int) = (newN g p now).id from e)]; exact h q hq
theorem Low.watch (h : Low S) {g : Nat} (hp : p < 12) : Low (ins (newN g p now) S) := fun x hx => by
  rcases ins_mem.1 hx with rfl | hx
  · show 0 ≤ (p : Int) ∧ (p : Int) ≤ 11; omega
  · exact h x hx
theorem Tell.leave (h : Tell S f) : Tell (wo S (p : Int)) (updB f p false) := fun q hq => by
  rw [look_wo]
  unfold updB
  by_cases e : q = p
  · subst e; rw [if_pos rfl, if_pos rfl]
  · rw [if_neg e, if_neg (by omega)]; exact h q hq
theorem wo_none (hl : look S (p : Int) = none) : wo S (p : Int) = S := List.filter_eq_self.2 fun x hx => by
  have := look_none hl x hx
  simpa using this
theorem Low.leave (h : Low S) : Low (wo S (p : Int)) := fun x hx => h x (wo_mem.1 hx).1
theorem Tell.put (h : Tell S f) (hS : Inc S) {n n2 : Nd} (hid : n2.id = (p : Int)) (hl : look S (p : Int) = some n) (hb : n2.bad = n.bad) : Tell (putN n2 S) f := fun q hq => by
  rw [look_putN hS (by rw [hid]; exact hl)]
  by_cases e : (q : Int) = n2.id
  · rw [if_pos e, h q hq, e, hid, hl]; exact hb.symm
  · rw [if_neg e]; exact h q hq
theorem Low.put (h : Low S) {n2 : Nd} (hid : n2.id = (p : Int)) (hp : p < 12) : Low (putN n2 S) := fun x hx => by
  rcases putN_mem hx with rfl | ⟨hx, _⟩
  · rw [hid]; omega
  · exact h x hx
/-- the changes, one behind the other -/
def foldB (f : Nat → Bool) (C : List (Int × Bool)) : Nat → Bool := C.foldl (fun f c => updB f c.1.toNat c.2) f
theorem foldB_app (f : Nat → Bool) (C : List (Int × Bool)) (c : Int × Bool) : foldB f (C ++ [c]) = updB (foldB f C) c.1.toNat c.2 := by simp [foldB]
theorem foldB_not : ∀ (C : List (Int × Bool)) (f : Nat → Bool) (q : Nat), (∀ c ∈ C, c.1.toNat ≠ q) → foldB f C q = f q
  | [], f, q, _ => rfl
  | c :: C, f, q, h => by
    show foldB (updB f c.1.toNat c.2) C q = f q
    rw [foldB_not C _ q fun x hx => h x (by simp [hx])]
    unfold updB
    rw [if_neg (fun e => h c (by simp) e.symm)]
theorem foldB_mem : ∀ (C : List (Int × Bool)) (f : Nat → Bool) {c : Int × Bool}, (C.Pairwise fun a b => a.1.toNat ≠ b.1.toNat) → c ∈ C → foldB f C c.1.toNat = c.2
  | x :: C, f, c, hp, hc => by
    obtain ⟨h1, h2⟩ := List.pairwise_cons.1 hp
    show foldB (updB f x.1.toNat x.2) C c.1.toNat = c.2
    rcases List.mem_cons.1 hc with rfl | hc
    · rw [foldB_not C _ _ fun y hy => (h1 y hy).symm]
      simp [updB]
    · exact foldB_mem C _ h2 hc
theorem chs_mem {c : Int × Bool} : c ∈ chs S now ↔ ∃ n ∈ S, chg n now = true ∧ c = (n.id, n.susp now) := by
  unfold chs
  rw [List.mem_map]
  constructor
  · rintro ⟨n, hn, rfl⟩
    obtain ⟨h1, h2⟩ := List.mem_filter.1 hn
    exact ⟨n, h1, h2, rfl⟩
  · rintro ⟨n, h1, h2, rfl⟩
    exact ⟨n, List.mem_filter.2 ⟨h1, h2⟩, rfl⟩
theorem chs_apart (hS : Inc S) (hl : Low S) : (chs S now).Pairwise fun a b => a.1.toNat ≠ b.1.toNat := by
  unfold chs
  rw [List.pairwise_map]
  refine (List.Pairwise.imp_of_mem ?_ (hS.sublist List.filter_sublist))
  intro a b ha hb hab
  have h1 := hl a (List.mem_filter.1 ha).1
  have h2 := hl b (List.mem_filter.1 hb).1
  show a.id.toNat ≠ b.id.toNat
  omega
theorem susp_judged (n : Nd) (t u : Nat) : (n.judged t).susp u = n.susp u := rfl
theorem look_judged (t : Nat) (k : Int) : look (S.map fun n => n.judged t) k = (look S k).map fun n => n.judged t := by
  unfold look
  rw [List.find?_map]
  rfl
theorem inc_judged (hS : Inc S) (t : Nat) : Inc (S.map fun n => n.judged t) := inc_ids (by rw [List.map_map]; rfl) hS
theorem Low.judged (h : Low S) (t : Nat) : Low (S.map fun n => n.judged t) := fun x hx => by
  obtain ⟨y, hy, rfl⟩ := List.mem_map.1 hx
  exact h y hy
/-- behind all changes -/
theorem Tell.all (h : Tell S f) (hS : Inc S) (hl : Low S) (now : Nat) : Tell (S.map fun n => n.judged now) (foldB f (chs S now)) := fun q hq => by
  rw [look_judged]
  cases hk : look S (q : Int) with
  | none =>
    have h0 := h q hq
    rw [hk] at h0
    rw [foldB_not, h0]; rfl
    intro c hc e
    obtain ⟨n, hn, _, rfl⟩ := chs_mem.1 hc
    have := hl n hn
    have e2 : n.id.toNat = q := e
    exact look_none hk n hn (by omega)
  | some n =>
    obtain ⟨h1, h2⟩ := look_some hk
    have h0 := h q hq
    rw [hk] at h0
    show foldB f (chs S now) q = n.susp now
    cases hc : chg n now
    · rw [foldB_not, h0]
      · unfold chg at hc
        simpa using (by simpa using hc : n.susp now = n.bad).symm
      · intro c hcm e
        obtain ⟨m, hm, hcm2, rfl⟩ := chs_mem.1 hcm
        have := hl m hm
        have e2 : m.id.toNat = q := e
        have := hS.one hm h1 (by omega)
        rw [this, hc] at hcm2
        cases hcm2
    · have := foldB_mem (chs S now) f (chs_apart hS hl) (chs_mem.2 ⟨n, h1, hc, rfl⟩)
      have e : n.id.toNat = q := by omega
      rw [e] at this
      exact this
/-- the next change is one -/
theorem Tell.next (h : Tell S f) (hS : Inc S) (hl : Low S) {j : Nat} {c : Int × Bool} (hc : (chs S now)[j]? = some c) : ∃ p : Nat, c.1 = (p : Int) ∧ p < 12 ∧ (foldB f ((chs S now).take j) p == c.2) = false := by
  obtain ⟨n, hn, hcg, rfl⟩ := chs_mem.1 (List.mem_of_getElem? hc)
  have hln := hl n hn
  refine ⟨n.id.toNat, by show n.id = _; omega, by omega, ?_⟩
  rw [foldB_not]
  · rw [h _ (by omega), show ((n.id.toNat : Nat) : Int) = n.id by omega, hS.look hn]
    unfold chg at hcg
    show (n.bad == n.susp now) = false
    revert hcg
    cases n.bad <;> cases n.susp now <;> simp
  · intro x hx
    have hap := chs_apart (now := now) hS hl
    have hs : chs S now = (chs S now).take j ++ (n.id, n.susp now) :: (chs S now).drop (j + 1) := by
      obtain ⟨hj, he⟩ := List.getElem?_eq_some_iff.1 hc
      rw [← he]
      rw [← List.drop_eq_getElem_cons hj, List.take_append_drop]
    rw [hs] at hap
    obtain ⟨_, _, h3⟩ := List.pairwise_append.1 hap
    exact h3 x hx (n.id, n.susp now) (by simp)
theorem chs_none (now : Nat) : chs (S.map fun n => n.judged now) now = [] := by
  unfold chs
  rw [List.map_eq_nil_iff, List.filter_eq_nil_iff]
  intro x hx
  obtain ⟨y, hy, rfl⟩ := List.mem_map.1 hx
  show ¬ (y.susp now != y.susp now) = true
  simp
theorem judged_twice (now : Nat) : (S.map fun n => n.judged now).map (fun n => n.judged now) = S.map fun n => n.judged now := by
  rw [List.map_map]; rfl

/-! ### counting -/
def cnt (s : List Int) (k : Nat) : Nat := (s.filter fun x => decide (x < (k : Int))).length
theorem cnt_zero {s : List Int} (h : ∀ x ∈ s, 0 ≤ x) : cnt s 0 = 0 := by
  unfold cnt
  rw [List.length_eq_zero_iff, List.filter_eq_nil_iff]
  intro x hx
  have := h x hx
  simp; omega
theorem cnt_end {s : List Int} (h : ∀ x ∈ s, x ≤ 11) : cnt s 12 = s.length := by
  unfold cnt
  rw [List.filter_eq_self.2]
  intro x hx
  have := h x hx
  simp; omega
theorem cnt_le (s : List Int) (k : Nat) : cnt s k ≤ s.length := List.length_filter_le _ _
theorem cnt_yes : ∀ {s : List Int} {k : Nat}, s.Pairwise (· < ·) → (k : Int) ∈ s → s[cnt s k]? = some (k : Int) ∧ cnt s (k + 1) = cnt s k + 1
  | x :: r, k, hp, hm => by
    obtain ⟨h1, h2⟩ := List.pairwise_cons.1 hp
    by_cases e : x < (k : Int)
    · have hk : (k : Int) ∈ r := by
        rcases List.mem_cons.1 hm with h | h
        · omega
        · exact h
      have ih := cnt_yes h2 hk
      have c1 : cnt (x :: r) k = cnt r k + 1 := by unfold cnt; rw [List.filter_cons_of_pos (by simpa using e)]; rfl
      have c2 : cnt (x :: r) (k + 1) = cnt r (k + 1) + 1 := by unfold cnt; rw [List.filter_cons_of_pos (by simp; omega)]; rfl
      rw [c1, c2]
      exact ⟨by simpa using ih.1, by omega⟩
    · have hx : x = (k : Int) := by
        rcases List.mem_cons.1 hm with h | h
        · exact h.symm
        · have := h1 _ h; omega
      have c1 : cnt (x :: r) k = 0 := by
        unfold cnt
        rw [List.length_eq_zero_iff, List.filter_eq_nil_iff]
        intro y hy
        rcases List.mem_cons.1 hy with rfl | hy
        · simpa using e
        · have := h1 y hy; simp; omega
      have c2 : cnt (x :: r) (k + 1) = 1 := by
        unfold cnt
        rw [List.filter_cons_of_pos (by simp; omega), List.length_cons]
        have : r.filter (fun y => decide (y < ((k + 1 : Nat) : Int))) = [] := by
          rw [List.filter_eq_nil_iff]
          intro y hy
          have := h1 y hy
          simp; omega
        rw [this]; rfl
      rw [c1, c2]
      exact ⟨by simp [hx], rfl⟩
theorem cnt_no {s : List Int} {k : Nat} (hm : (k : Int) ∉ s) : cnt s (k + 1) = cnt s k := by
  unfold cnt
  congr 1
  refine List.filter_congr fun x hx => ?_
  have : x ≠ (k : Int) := fun e => hm (e ▸ hx)
  simp; omega
theorem bads_sorted (hS : Inc S) (now : Nat) : (bads S now).Pairwise (· < ·) := by
  unfold bads
  rw [List.pairwise_map]
  exact hS.sublist List.filter_sublist
theorem bads_low (hl : Low S) (now : Nat) : ∀ x ∈ bads S now, 0 ≤ x ∧ x ≤ 11 := by
  intro x hx
  obtain ⟨n, hn, rfl⟩ := List.mem_map.1 hx
  exact hl n (List.mem_filter.1 hn).1
theorem bads_in (hS : Inc S) (now : Nat) (hf : Tell (S.map fun n => n.judged now) f) (hq : p < 12) : f p = true ↔ (p : Int) ∈ bads (S.map fun n => n.judged now) now := by
  rw [hf p hq, look_judged]
  unfold bads
  rw [List.mem_map]
  constructor
  · intro h
    cases hk : look S (p : Int) with
    | none => rw [hk] at h; cases h
    | some n =>
      rw [hk] at h
      obtain ⟨h1, h2⟩ := look_some hk
      exact ⟨n.judged now, List.mem_filter.2 ⟨List.mem_map.2 ⟨n, h1, rfl⟩, h⟩, h2⟩
  · rintro ⟨m, hm, hid⟩
    obtain ⟨h1, h2⟩ := List.mem_filter.1 hm
    obtain ⟨n, hn, rfl⟩ := List.mem_map.1 h1
    have : look S (p : Int) = some n := by rw [← hid]; exact hS.look hn
    rw [this]
    exact h2
end
end Go.Proofs.Ytlfnkplgjlpaaaa
