/- Plain facts: a node owns a position if it is the first at it or behind it. -/
import Derived.Test.YtokmchkoojeadaaPl
namespace Go.Proofs.Ytokmchkoojeadaa
open Go.RowKit Go.Sort
set_option linter.unusedVariables false
set_option linter.unusedSimpArgs false
theorem owner_ways (L : List Pe) (h l : Int) : (∃ k x, L[k]? = some x ∧ ¬ ls x.h x.l h l = true ∧ (∀ (j : Nat) (y : Pe), j < k → L[j]? = some y → ls y.h y.l h l = true) ∧ ownerN L h l = k) ∨ ((∀ (j : Nat) (y : Pe), L[j]? = some y → ls y.h y.l h l = true) ∧ ownerN L h l = 0) := by
  unfold ownerN
  cases hf : L.findIdx? (fun x => !ls x.h x.l h l) with
  | some k =>
    rw [List.findIdx?_eq_some_iff_getElem] at hf
    obtain ⟨hlt, h1, h2⟩ := hf
    refine .inl ⟨k, L[k], List.getElem?_eq_getElem hlt, by simpa using h1, fun j y hj hy => ?_, rfl⟩
    obtain ⟨hjl, rfl⟩ := List.getElem?_eq_some_iff.1 hy
    simpa using h2 j hj
  | none =>
    rw [List.findIdx?_eq_none_iff] at hf
    refine .inr ⟨fun j y hy => ?_, rfl⟩
    simpa using hf y (List.mem_of_getElem? hy)
theorem rises_at {L : List Pe} (hL : L.Pairwise Pe.ahead) {i j : Nat} {a b : Pe} (hij : i < j) (ha : L[i]? = some a) (hb : L[j]? = some b) : ls a.h a.l b.h b.l = true := by
  obtain ⟨hi, rfl⟩ := List.getElem?_eq_some_iff.1 ha
  obtain ⟨hj, rfl⟩ := List.getElem?_eq_some_iff.1 hb
  exact List.pairwise_iff_getElem.1 hL i j hi hj hij
theorem own_is {s p c : Pe} {h l : Int} (hal : aln s c = false) : own s p c h l = true ↔ ((h = s.h ∧ l = s.l) ∨ (ls p.h p.l s.h s.l = true ∧ ls p.h p.l h l = true ∧ ls h l s.h s.l = true) ∨ (¬ ls p.h p.l s.h s.l = true ∧ (ls p.h p.l h l = true ∨ ls h l s.h s.l = true))) := by
  unfold own btw
  rw [hal]
  cases hp : ls p.h p.l s.h s.l <;> simp
/-- in a ring of two or more: own is being the owner -/
theorem own_owner {L : List Pe} (hL : L.Pairwise Pe.ahead) {i : Nat} {s p c : Pe} (h2 : 2 ≤ L.length) (hs : L[i]? = some s) (hp : L[(i + L.length - 1) % L.length]? = some p) (hal : aln s c = false) (h l : Int) :
    own s p c h l = true ↔ i = ownerN L h l := by
  have hi := (List.getElem?_eq_some_iff.1 hs).1
  rw [own_is hal]
  -- the pred: the last one, or the one ahead
  have hpw : (i = 0 ∧ L[L.length - 1]? = some p) ∨ (1 ≤ i ∧ L[i - 1]? = some p) := by
    rcases Nat.eq_zero_or_pos i with rfl | h0
    · rw [Nat.zero_add, Nat.mod_eq_of_lt (by omega)] at hp; exact .inl ⟨rfl, hp⟩
    · rw [show i + L.length - 1 = (i - 1) + L.length by omega, Nat.add_mod_right, Nat.mod_eq_of_lt (by omega)] at hp; exact .inr ⟨h0, hp⟩
  rcases owner_ways L h l with ⟨k, x, hx, hk, hk2, ho⟩ | ⟨hall, ho⟩
  · rw [ho]
    have hkl := (List.getElem?_eq_some_iff.1 hx).1
    -- who stands at k or behind it is not ahead of the position
    have hge : ∀ (j : Nat) (y : Pe), k ≤ j → L[j]? = some y → ¬ ls y.h y.l h l = true := fun j y hkj hy hly => by
      rcases Nat.lt_or_ge k j with e | e
      · exact hk (ls_trans (rises_at hL e hx hy) hly)
      · obtain rfl : k = j := by omega
        rw [hx] at hy; cases hy; exact hk hly
    rcases hpw with ⟨rfl, hpl⟩ | ⟨h1, hpl⟩
    · have a1 := rises_at hL (show 0 < L.length - 1 by omega) hs hpl
      have a2 := hge _ _ (by omega) hpl
      constructor
      · intro hw
        rcases Nat.eq_zero_or_pos k with e | e
        · exact e.symm
        · have a3 := hk2 0 s e hs
          simp only [ls_iff] at *
          omega
      · rintro rfl
        have a3 := hge _ _ (Nat.le_refl _) hs
        simp only [ls_iff] at *
        omega
    · have a1 := rises_at hL (show i - 1 < i by omega) hpl hs
      constructor
      · intro hw
        rcases Nat.lt_trichotomy i k with e | e | e
        · have a3 := hk2 i s e hs
          simp only [ls_iff] at *
          omega
        · exact e
        · have a3 := hge _ _ (by omega) hpl
          have a4 := rises_at hL e hx hs
          simp only [ls_iff] at *
          omega
      · rintro rfl
        have a3 := hge _ _ (Nat.le_refl _) hs
        have a4 := hk2 _ p (by omega) hpl
        simp only [ls_iff] at *
        omega
  · rw [ho]
    have a0 := hall _ _ hs
    rcases hpw with ⟨rfl, hpl⟩ | ⟨h1, hpl⟩
    · have a1 := rises_at hL (show 0 < L.length - 1 by omega) hs hpl
      have a2 := hall _ _ hpl
      refine ⟨fun _ => rfl, fun _ => ?_⟩
      simp only [ls_iff] at *
      omega
    · have a1 := rises_at hL (show i - 1 < i by omega) hpl hs
      refine ⟨fun hw => ?_, fun e => by omega⟩
      simp only [ls_iff] at *
      omega
theorem ownerN_lt {L : List Pe} (h0 : 0 < L.length) (h l : Int) : ownerN L h l < L.length := by
  rcases owner_ways L h l with ⟨k, x, hx, _, _, ho⟩ | ⟨_, ho⟩
  · rw [ho]; exact (List.getElem?_eq_some_iff.1 hx).1
  · rw [ho]; exact h0
end Go.Proofs.Ytokmchkoojeadaa
