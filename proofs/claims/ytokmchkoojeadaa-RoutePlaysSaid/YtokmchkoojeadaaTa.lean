/- The tables of a ring. -/
import Derived.Test.YtokmchkoojeadaaSo
import Derived.Test.YtokmchkoojeadaaFg
namespace Go.Proofs.Ytokmchkoojeadaa
open Go.RowKit Go.Sort
set_option linter.unusedVariables false
set_option linter.unusedSimpArgs false
set_option maxRecDepth 100000
theorem tab_info : (Try.prog.info? 31).map (fun i => (i.zero, i.size, i.bytes)) = some (some (.pointer none), 1, 8) := by kernel_rfl
theorem TbW.base_le {w : World} {B B' b cap : Nat} {ao : Option Addr} {s p c : Pe} {F : List Pe} (h : TbW w B b ao cap s p c F) (hb : B' ≤ B) : TbW w B' b ao cap s p c F :=
  ⟨h.row, Nat.le_trans hb h.base, owns_base h.own hb, h.ne⟩
/-- one table of many: its block, its fingers' row -/
abbrev TT := Nat × Option Addr × Nat
def TT.v (t : TT) : Value := .pointer (some ⟨t.1, 0, none⟩)
/-- the tables of a ring, apart -/
structure Tbs (w w' : World) (L : List Pe) (F : Nat → Pe → Pe → List Pe) (T : List TT) : Prop where
  tb : ∀ j t, T[j]? = some t → ∃ s p c, L[j]? = some s ∧ L[(j + L.length - 1) % L.length]? = some p ∧ L[(j + 1) % L.length]? = some c ∧ TbW w' w.heap.size t.1 t.2.1 t.2.2 s p c (F j s c)
  ne : ∀ (i j : Nat) (a b : TT), i ≠ j → T[i]? = some a → T[j]? = some b → ∀ g ∈ tbB a.1 a.2.1, g ∉ tbB b.1 b.2.1
section
variable {w w' w2 : World} {L : List Pe} {F : Nat → Pe → Pe → List Pe} {T : List TT}
theorem Tbs.nil : Tbs w w' L F [] := ⟨fun j t h => by simp at h, fun i j a b _ h => by simp at h⟩
theorem Tbs.keep {U : List Nat} (h : Tbs w w' L F T) (k : Keep U w' w2) (hU : ∀ (j : Nat) (t : TT), T[j]? = some t → ∀ g ∈ tbB t.1 t.2.1, g ∉ U) : Tbs w w2 L F T :=
  ⟨fun j t ht => by
    obtain ⟨s, p, c, h1, h2, h3, h4⟩ := h.tb j t ht
    exact ⟨s, p, c, h1, h2, h3, h4.keep k (hU j t ht)⟩, h.ne⟩
theorem Tbs.below (h : Tbs w w' L F T) (k : Below w'.heap.size w' w2) : Tbs w w2 L F T := h.keep (Keep.of_below k []) (by simp)
theorem Tbs.lt (h : Tbs w w' L F T) (j : Nat) (t : TT) (ht : T[j]? = some t) : ∀ g ∈ tbB t.1 t.2.1, w.heap.size ≤ g ∧ g < w'.heap.size := by
  obtain ⟨s, p, c, _, _, _, h4⟩ := h.tb j t ht
  exact h4.blocks
theorem Tbs.push (h : Tbs w w' L F T) (k : Below w'.heap.size w' w2) {s p c : Pe} {t : TT} (h1 : L[T.length]? = some s) (h2 : L[(T.length + L.length - 1) % L.length]? = some p) (h3 : L[(T.length + 1) % L.length]? = some c)
    (h4 : TbW w2 w'.heap.size t.1 t.2.1 t.2.2 s p c (F T.length s c)) (hw : w.heap.size ≤ w'.heap.size) : Tbs w w2 L F (T ++ [t]) := by
  have hb := h.below k
  have hlast : ∀ j u, (T ++ [t])[j]? = some u → (j < T.length ∧ T[j]? = some u) ∨ (j = T.length ∧ u = t) := fun j u hu => by
    rcases Nat.lt_trichotomy j T.length with hj | hj | hj
    · rw [List.getElem?_append_left hj] at hu; exact .inl ⟨hj, hu⟩
    · subst hj; rw [List.getElem?_append_right (Nat.le_refl _), Nat.sub_self] at hu; cases hu; exact .inr ⟨rfl, rfl⟩
    · rw [List.getElem?_eq_none (by rw [List.length_append]; simp; omega)] at hu; cases hu
  refine ⟨fun j u hu => ?_, fun i j a b hij ha hb2 g hg hm => ?_⟩
  · rcases hlast j u hu with ⟨_, hu⟩ | ⟨rfl, rfl⟩
    · exact hb.tb j u hu
    · exact ⟨s, p, c, h1, h2, h3, h4.base_le hw⟩
  · rcases hlast i a ha with ⟨_, ha2⟩ | ⟨rfl, rfl⟩ <;> rcases hlast j b hb2 with ⟨_, hb3⟩ | ⟨rfl, rfl⟩
    · exact h.ne i j a b hij ha2 hb3 g hg hm
    · have e1 := (h.lt i a ha2 g hg).2; have e2 := (h4.blocks g hm).1; omega
    · have e1 := (h.lt j b hb3 g hm).2; have e2 := (h4.blocks g hg).1; omega
    · exact hij rfl
theorem nb_push {tz : Option Addr} {t : TT} {B' : Nat} (hnb : ∀ (j : Nat) (t : TT), T[j]? = some t → ∀ q ∈ tbB t.1 t.2.1, q ∉ blk tz) (h4 : ∀ q ∈ tbB t.1 t.2.1, B' ≤ q) (hz : ∀ q ∈ blk tz, q < B') : ∀ (j : Nat) (u : TT), (T ++ [t])[j]? = some u → ∀ q ∈ tbB u.1 u.2.1, q ∉ blk tz := fun j u hu q hq hm => by
  rcases Nat.lt_trichotomy j T.length with hj | hj | hj
  · rw [List.getElem?_append_left hj] at hu; exact hnb j u hu q hq hm
  · subst hj; rw [List.getElem?_append_right (Nat.le_refl _), Nat.sub_self] at hu; cases hu
    have := h4 q hq; have := hz q hm; omega
  · rw [List.getElem?_eq_none (by rw [List.length_append]; simp; omega)] at hu; cases hu
end
theorem ring_two {n i ip ic : Nat} (h0 : 0 < n) (hi : i < n) (hp : ip = (i + n - 1) % n) (hc : ic = (i + 1) % n) : ((ip : Int) == (i : Int)) = ((ic : Int) == (i : Int)) := by
  have hb : ∀ a b : Nat, ((a : Int) == (b : Int)) = decide (a = b) := fun a b => by
    by_cases h : a = b
    · subst h; simp
    · rw [decide_eq_false h]; simp; omega
  rw [hb, hb]
  by_cases h1 : n = 1
  · subst h1; simp only [Nat.mod_one] at hp hc; subst hp; subst hc; rfl
  · have hcn : ic ≠ i := by
      rcases Nat.lt_or_ge (i + 1) n with h | h
      · rw [Nat.mod_eq_of_lt h] at hc; omega
      · have : i + 1 = n := by omega
        rw [this, Nat.mod_self] at hc; omega
    have hpn : ip ≠ i := by
      rcases Nat.eq_zero_or_pos i with rfl | h
      · rw [Nat.zero_add, Nat.mod_eq_of_lt (by omega)] at hp; omega
      · rw [show i + n - 1 = (i - 1) + n by omega, Nat.add_mod_right, Nat.mod_eq_of_lt (by omega)] at hp; omega
    rw [decide_eq_false hcn, decide_eq_false hpn]
theorem ring_same {n i ip ic : Nat} (h0 : 0 < n) (hi : i < n) (hp : ip = (i + n - 1) % n) (hc : ic = (i + 1) % n) (he : ((ic : Int) == (i : Int)) = true) : ip = i ∧ ic = i := by
  have e : (ic : Int) = (i : Int) := by simpa using he
  have e : ic = i := by omega
  refine ⟨?_, e⟩
  rcases Nat.lt_or_ge (i + 1) n with h | h
  · rw [Nat.mod_eq_of_lt h] at hc; omega
  · have : i + 1 = n := by omega
    rw [this, Nat.mod_self] at hc
    have h1 : n = 1 := by omega
    subst h1
    rw [Nat.mod_one] at hp; omega
end Go.Proofs.Ytokmchkoojeadaa
