/- Plain facts: fingers and steps by their indices. -/
import Derived.Test.YtokmchkoojeadaaFs
namespace Go.Proofs.Ytokmchkoojeadaa
open Go.RowKit Go.Sort
set_option linter.unusedVariables false
set_option linter.unusedSimpArgs false
/-- between two others, by index -/
def btwN (i x j : Nat) : Bool := if i < j then decide (i < x) && decide (x < j) else decide (i < x) || decide (x < j)
theorem ls_idx {L : List Pe} (hL : L.Pairwise Pe.ahead) {i j : Nat} {a b : Pe} (ha : L[i]? = some a) (hb : L[j]? = some b) : ls a.h a.l b.h b.l = decide (i < j) := by
  rcases Nat.lt_trichotomy i j with h | h | h
  · rw [decide_eq_true h]; exact rises_at hL h ha hb
  · subst h; rw [ha] at hb; cases hb; rw [decide_eq_false (Nat.lt_irrefl _)]; exact ls_irrefl
  · rw [decide_eq_false (by omega)]
    have h1 := rises_at hL h hb ha
    rw [← Bool.not_eq_true]
    rw [ls_iff] at *
    omega
theorem btw_idx {L : List Pe} (hL : L.Pairwise Pe.ahead) {i x j : Nat} {a f b : Pe} (ha : L[i]? = some a) (hf : L[x]? = some f) (hb : L[j]? = some b) : btw a.h a.l f.h f.l b.h b.l = btwN i x j := by
  unfold btw btwN
  rw [ls_idx hL ha hb, ls_idx hL ha hf, ls_idx hL hf hb]
  by_cases h : i < j <;> simp [h]
/-- the fingers' indices -/
def fgN (n : Nat) : Nat → Nat → List Nat
  | 0, j => if n = 1 then [] else [(j + 1) % n]
  | k + 1, j => if (fgN n k j).length < k + 1 then fgN n k j else match (fgN n k j)[k]? with
    | some f => (fgN n k j).take (k + 1) ++ (match (fgN n k f)[k]? with | some x => if btwN f x j then [x] else [] | none => [])
    | none => fgN n k j
theorem aln_num {s c : Pe} (h : aln s c = true) : c.n = s.n := by
  unfold aln at h
  rw [Bool.and_eq_true, beq_iff_eq] at h
  exact h.1
/-- in a ring of two or more none is alone -/
theorem aln_ring {L : List Pe} (hnum : ∀ (j : Nat) (x : Pe), L[j]? = some x → x.n = (j : Int)) {i : Nat} {s c : Pe} (h2 : 2 ≤ L.length) (hs : L[i]? = some s) (hc : L[(i + 1) % L.length]? = some c) : aln s c = false := by
  rw [← Bool.not_eq_true]
  intro h
  have e := aln_num h
  rw [hnum _ _ hs, hnum _ _ hc] at e
  have hi := (List.getElem?_eq_some_iff.1 hs).1
  rcases Nat.lt_or_ge (i + 1) L.length with h | h
  · rw [Nat.mod_eq_of_lt h] at e; omega
  · have : i + 1 = L.length := by omega
    rw [this, Nat.mod_self] at e; omega
theorem aln_one {L : List Pe} {i : Nat} {s c : Pe} (h1 : L.length = 1) (hs : L[i]? = some s) (hc : L[(i + 1) % L.length]? = some c) : aln s c = true := by
  have hi := (List.getElem?_eq_some_iff.1 hs).1
  rw [h1, Nat.mod_one] at hc
  obtain rfl : i = 0 := by omega
  rw [hs] at hc; cases hc
  unfold aln
  simp
theorem fgs_idx {L : List Pe} (hL : L.Pairwise Pe.ahead) (hnum : ∀ (j : Nat) (x : Pe), L[j]? = some x → x.n = (j : Int)) : ∀ k j, j < L.length → (∀ x ∈ fgN L.length k j, x < L.length) ∧ fgs L k j = (fgN L.length k j).map (fun i => L[i]?.getD p0)
  | 0, j, hj => by
    obtain ⟨s, hs⟩ : ∃ s, L[j]? = some s := ⟨_, List.getElem?_eq_getElem hj⟩
    have hm : (j + 1) % L.length < L.length := Nat.mod_lt _ (by omega)
    obtain ⟨c, hc⟩ : ∃ c, L[(j + 1) % L.length]? = some c := ⟨_, List.getElem?_eq_getElem hm⟩
    rw [fgs_zero hs hc]
    unfold fing0 fgN
    by_cases h1 : L.length = 1
    · rw [aln_one h1 hs hc, if_pos h1]; simp
    · rw [aln_ring hnum (by omega) hs hc, if_neg h1]
      simp only [Bool.false_eq_true, if_false]
      refine ⟨fun x hx => ?_, ?_⟩
      · simp only [List.mem_singleton] at hx; subst hx; exact hm
      · simp [hc]
  | k + 1, j, hj => by
    obtain ⟨i1, i2⟩ := fgs_idx hL hnum k j hj
    obtain ⟨s, hs⟩ : ∃ s, L[j]? = some s := ⟨_, List.getElem?_eq_getElem hj⟩
    unfold fgs fgN
    rw [show (fgs L k j).length = (fgN L.length k j).length by rw [i2, List.length_map]]
    by_cases hlt : (fgN L.length k j).length < k + 1
    · rw [if_pos hlt, if_pos hlt]; exact ⟨i1, i2⟩
    · rw [if_neg hlt, if_neg hlt]
      obtain ⟨f, hf⟩ : ∃ f, (fgN L.length k j)[k]? = some f := ⟨_, List.getElem?_eq_getElem (by omega)⟩
      have hfl := i1 f (List.mem_of_getElem? hf)
      obtain ⟨fp, hfp⟩ : ∃ s, L[f]? = some s := ⟨_, List.getElem?_eq_getElem hfl⟩
      have hF : (fgs L k j)[k]? = some fp := by rw [i2, List.getElem?_map, hf]; simp [hfp]
      rw [hF, hs, hf]
      obtain ⟨m1, m2⟩ := fgs_idx hL hnum k f hfl
      simp only [hnum _ _ hfp, Int.toNat_natCast]
      unfold learnt
      rw [show k + 1 - 1 = k from rfl, hF, i2, m2, List.getElem?_map, ← List.map_take]
      cases hx : (fgN L.length k f)[k]? with
      | none => simp only [Option.map_none, List.append_nil]; exact ⟨fun x hx => i1 x (List.mem_of_mem_take hx), trivial⟩
      | some x =>
        have hxl := m1 x (List.mem_of_getElem? hx)
        obtain ⟨xp, hxp⟩ : ∃ s, L[x]? = some s := ⟨_, List.getElem?_eq_getElem hxl⟩
        simp only [Option.map_some, hxp, Option.getD_some]
        rw [btw_idx hL hfp hxp hs]
        cases btwN f x j with
        | false => simp only [Bool.false_eq_true, if_false, List.append_nil]; exact ⟨fun x hx => i1 x (List.mem_of_mem_take hx), trivial⟩
        | true =>
          simp only [if_true]
          refine ⟨fun y hy => ?_, ?_⟩
          · rcases List.mem_append.1 hy with h | h
            · exact i1 y (List.mem_of_mem_take h)
            · simp only [List.mem_singleton] at h; subst h; exact hxl
          · rw [List.map_append]; simp [hxp]
/-- own is being the owner, also where a node is alone -/
theorem own_idx {L : List Pe} (hL : L.Pairwise Pe.ahead) (hnum : ∀ (j : Nat) (x : Pe), L[j]? = some x → x.n = (j : Int)) {i : Nat} {s p c : Pe} (hs : L[i]? = some s) (hp : L[(i + L.length - 1) % L.length]? = some p) (hc : L[(i + 1) % L.length]? = some c) (h l : Int) : own s p c h l = decide (i = ownerN L h l) := by
  have hi := (List.getElem?_eq_some_iff.1 hs).1
  by_cases h1 : L.length = 1
  · have ho : own s p c h l = true := by unfold own; rw [aln_one h1 hs hc]; rfl
    have hol := ownerN_lt (L := L) (by omega) h l
    rw [ho, decide_eq_true (by omega)]
  · have h2 : 2 ≤ L.length := by omega
    have ow := own_owner hL h2 hs hp (aln_ring hnum h2 hs hc) h l
    by_cases e : i = ownerN L h l
    · rw [ow.2 e, decide_eq_true e]
    · rw [decide_eq_false e, ← Bool.not_eq_true]; exact fun h => e (ow.1 h)
/-- the step by indices -/
def stepN (n i o : Nat) : Nat × Bool := if i = o then (i, true) else if (i + 1) % n = o then (o, true) else match (fgN n 3 i).reverse.find? (fun x => btwN i x o) with | some x => (x, false) | none => (n, false)
theorem btw_owner {L : List Pe} (hL : L.Pairwise Pe.ahead) {i x : Nat} {s f : Pe} (hs : L[i]? = some s) (hf : L[x]? = some f) (h l : Int) : btw s.h s.l f.h f.l h l = btwN i x (ownerN L h l) := by
  have key : ∀ (k : Nat) (x : Pe), L[k]? = some x → ¬ ls x.h x.l h l = true → (∀ (j : Nat) (y : Pe), j < k → L[j]? = some y → ls y.h y.l h l = true) → ∀ (j : Nat) (y : Pe), L[j]? = some y → ls y.h y.l h l = decide (j < k) := fun k x hx hk hk2 j y hy => by
    rcases Nat.lt_or_ge j k with e | e
    · rw [decide_eq_true e]; exact hk2 j y e hy
    · rw [decide_eq_false (by omega), ← Bool.not_eq_true]
      intro hly
      rcases Nat.lt_or_ge k j with e2 | e2
      · exact hk (ls_trans (rises_at hL e2 hx hy) hly)
      · obtain rfl : k = j := by omega
        rw [hx] at hy; cases hy; exact hk hly
  unfold btw btwN
  rw [ls_idx hL hs hf]
  rcases owner_ways L h l with ⟨k, y, hy, hk, hk2, ho⟩ | ⟨hall, ho⟩
  · rw [ho, key k y hy hk hk2 i s hs, key k y hy hk hk2 x f hf]
    by_cases e : i < k <;> simp [e]
  · rw [ho, hall i s hs, hall x f hf]
    simp
theorem step_idx {L : List Pe} (hL : L.Pairwise Pe.ahead) (hnum : ∀ (j : Nat) (x : Pe), L[j]? = some x → x.n = (j : Int)) {i : Nat} {s p c : Pe} (hs : L[i]? = some s) (hp : L[(i + L.length - 1) % L.length]? = some p) (hc : L[(i + 1) % L.length]? = some c) (h l : Int) :
    stepR s p c (fgs L 3 i) h l = (let r := stepN L.length i (ownerN L h l); match L[r.1]? with | some x => (x, r.2, 0) | none => (p0, false, 131)) := by
  have hi := (List.getElem?_eq_some_iff.1 hs).1
  unfold stepR stepN
  by_cases h1 : L.length = 1
  · have ho : own s p c h l = true := by unfold own; rw [aln_one h1 hs hc]; rfl
    have hol := ownerN_lt (L := L) (by omega) h l
    rw [if_pos ho, if_pos (by omega)]
    simp only [hs]
  · have h2 : 2 ≤ L.length := by omega
    have hal := aln_ring hnum h2 hs hc
    have ow := own_owner hL h2 hs hp hal h l
    by_cases he : i = ownerN L h l
    · rw [if_pos (ow.2 he), if_pos he]
      simp only [hs]
    · have hno : ¬ own s p c h l = true := fun e => he (ow.1 e)
      rw [if_neg hno, if_neg he]
      -- the succ's own
      have hcl : (i + 1) % L.length < L.length := Nat.mod_lt _ (by omega)
      obtain ⟨c2, hc2⟩ : ∃ c2, L[((i + 1) % L.length + 1) % L.length]? = some c2 := ⟨_, List.getElem?_eq_getElem (Nat.mod_lt _ (by omega))⟩
      have hps : L[((i + 1) % L.length + L.length - 1) % L.length]? = some s := by
        rw [← hs]
        congr 1
        rcases Nat.lt_or_ge (i + 1) L.length with e | e
        · rw [Nat.mod_eq_of_lt e, show i + 1 + L.length - 1 = i + L.length by omega, Nat.add_mod_right, Nat.mod_eq_of_lt hi]
        · have e2 : i + 1 = L.length := by omega
          rw [e2, Nat.mod_self, Nat.zero_add, Nat.mod_eq_of_lt (by omega)]; omega
      have hal2 := aln_ring hnum h2 hc hc2
      have ow2 := own_owner hL h2 hc hps hal2 h l
      have hown : own c s c2 h l = ((h == c.h && l == c.l) || btw s.h s.l h l c.h c.l) := by unfold own; rw [hal2]; rfl
      rw [hown] at ow2
      by_cases hq : (i + 1) % L.length = ownerN L h l
      · rw [if_pos (ow2.2 hq), if_pos hq]
        simp only [← hq, hc]
      · rw [if_neg (fun e => hq (ow2.1 e)), if_neg hq]
        obtain ⟨m1, m2⟩ := fgs_idx hL hnum 3 i hi
        rw [m2, ← List.map_reverse, List.find?_map]
        have hcong : ∀ (M : List Nat), (∀ x ∈ M, x < L.length) → M.find? ((fun f : Pe => btw s.h s.l f.h f.l h l) ∘ fun i => L[i]?.getD p0) = M.find? (fun x => btwN i x (ownerN L h l)) := fun M => by
          induction M with
          | nil => intro _; rfl
          | cons x M ih =>
            intro hM
            obtain ⟨f, hf⟩ : ∃ f, L[x]? = some f := ⟨_, List.getElem?_eq_getElem (hM x (List.mem_cons_self ..))⟩
            rw [List.find?_cons, List.find?_cons, ih (fun y hy => hM y (List.mem_cons_of_mem _ hy))]
            simp only [Function.comp, hf, Option.getD_some]
            rw [btw_owner hL hs hf h l]
        rw [hcong _ (fun x hx => m1 x (List.mem_reverse.1 hx))]
        cases hfd : (fgN L.length 3 i).reverse.find? (fun x => btwN i x (ownerN L h l)) with
        | none => simp
        | some x =>
          have hxl := m1 x (List.mem_reverse.1 (List.mem_of_find?_eq_some hfd))
          obtain ⟨f, hf⟩ : ∃ f, L[x]? = some f := ⟨_, List.getElem?_eq_getElem hxl⟩
          simp [hf]
/-- how many hops are left -/
def cost (n : Nat) : Nat → Nat → Nat → Nat
  | 0, _, _ => 100
  | k + 1, i, o => if i = o then 0 else if (stepN n i o).2 then 1 else 1 + cost n k (stepN n i o).1 o
/-- all that a lookup asks of a ring of n nodes -/
def goodN (n : Nat) : Bool := (List.range n).all fun i => (List.range n).all fun o => decide ((stepN n i o).1 < n) && (decide (cost n 6 i o ≤ logN n + 1) && ((stepN n i o).2 || decide (cost n 6 i o = 1 + cost n 6 (stepN n i o).1 o)) && (!(stepN n i o).2 || decide ((stepN n i o).1 = o)))
theorem good_rows : (List.range 13).all goodN = true := by kernel_rfl
theorem good_all (n : Nat) (h : n < 13) : goodN n = true := List.all_eq_true.1 good_rows n (List.mem_range.2 h)
theorem good_at {n i o : Nat} (hn : n ≤ 12) (hi : i < n) (ho : o < n) : (stepN n i o).1 < n ∧ cost n 6 i o ≤ logN n + 1 ∧ ((stepN n i o).2 = false → cost n 6 i o = 1 + cost n 6 (stepN n i o).1 o) ∧ ((stepN n i o).2 = true → (stepN n i o).1 = o) := by
  have h := good_all n (by omega)
  unfold goodN at h
  have h1 := List.all_eq_true.1 (List.all_eq_true.1 h i (List.mem_range.2 hi)) o (List.mem_range.2 ho)
  rw [Bool.and_eq_true, Bool.and_eq_true, Bool.and_eq_true, decide_eq_true_eq, decide_eq_true_eq, Bool.or_eq_true, Bool.or_eq_true, decide_eq_true_eq, decide_eq_true_eq] at h1
  obtain ⟨a, ⟨b, c⟩, d⟩ := h1
  refine ⟨a, b, fun e => ?_, fun e => ?_⟩
  · rcases c with c | c
    · rw [e] at c; cases c
    · exact c
  · rcases d with d | d
    · rw [e] at d; cases d
    · exact d
theorem cost_end {n i o : Nat} (h : (stepN n i o).2 = true) : cost n 6 i o = if i = o then 0 else 1 := by
  unfold cost
  rw [h]
  split <;> rfl
theorem logN_le (n : Nat) : logN n ≤ 4 := by unfold logN; (repeat' split) <;> omega
end Go.Proofs.Ytokmchkoojeadaa
