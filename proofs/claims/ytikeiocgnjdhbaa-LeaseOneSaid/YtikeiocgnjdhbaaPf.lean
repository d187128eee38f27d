/- What a decree does to a table: plain facts. -/
import Derived.Test.YtikeiocgnjdhbaaEq
namespace Go.Proofs.Ytikeiocgnjdhbaa
open Go.RowKit Go.Sort
set_option linter.unusedVariables false
set_option linter.unusedSimpArgs false
set_option maxRecDepth 100000

theorem getD_set_eq {α : Type} (l : List α) (i j : Nat) (x d : α) (h : i < l.length) : (l.set i x).getD j d = if i = j then x else l.getD j d := by
  simp only [List.getD, List.getElem?_set]
  split
  · rename_i e; subst e; simp [h]
  · rfl
section
variable {T : Tb} (s : T.Sz)
include s
theorem Tb.Sz.o_set {p : Nat} (hp : p < 64) (x : Int) (j : Nat) : (T.setOwn p x).o j = if p = j then x else T.o j := getD_set_eq _ _ _ _ _ (by rw [s.o]; exact hp)
theorem Tb.Sz.i_set {p : Nat} (hp : p < 64) (x : Int) (j : Nat) : (T.setInc p x).i j = if p = j then x else T.i j := getD_set_eq _ _ _ _ _ (by rw [s.i]; exact hp)
theorem Tb.Sz.m_set {p : Nat} (hp : p < 12) (x : Bool) (j : Nat) : (T.setMem p x).m j = if p = j then x else T.m j := getD_set_eq _ _ _ _ _ (by rw [s.m]; exact hp)
theorem Tb.Sz.r_set {p : Nat} (hp : p < 12) (x : Int) (j : Nat) : (T.setRen p x).r j = if p = j then x else T.r j := getD_set_eq _ _ _ _ _ (by rw [s.r]; exact hp)
end
/-- is p one of the first k places from f on -/
def inK (f : Int) (k p : Nat) : Bool := (List.range k).any fun j : Nat => ((f + (j : Int)) % 64).toNat == p
theorem inK_succ (f : Int) (k p : Nat) : inK f (k + 1) p = (inK f k p || ((f + (k : Int)) % 64).toNat == p) := by simp [inK, List.range_succ]
/-- what a move or a taking leaves -/
theorem mvK_facts {T : Tb} (s : T.Sz) (tk : Bool) (node f : Int) : ∀ k, ((mvK tk node f T k).mem = T.mem ∧ (mvK tk node f T k).ren = T.ren) ∧
    (∀ p, (mvK tk node f T k).o p = if inK f k p then node else T.o p) ∧ (∀ p, (mvK tk node f T k).i p = if tk && inK f k p then T.ver else T.i p)
  | 0 => by simp [mvK, inK]
  | k + 1 => by
    obtain ⟨⟨h1, h2⟩, h3, h4⟩ := mvK_facts s tk node f k
    have sk := mvK_sz tk node f T s k
    have hp : ((f + (k : Int)) % 64).toNat < 64 := by omega
    refine ⟨?_, ?_, ?_⟩
    · rw [mvK]; split <;> exact ⟨h1, h2⟩
    · intro p
      rw [inK_succ]
      have e : (mvK tk node f T (k + 1)).o p = if ((f + (k : Int)) % 64).toNat = p then node else (mvK tk node f T k).o p := by
        rw [mvK]; split
        · exact sk.o_set hp node p
        · exact sk.o_set hp node p
      rw [e, h3 p]
      by_cases hh : ((f + (k : Int)) % 64).toNat = p
      · simp [hh]
      · simp [hh]
    · intro p
      rw [inK_succ]
      cases tk
      · rw [mvK]; simp only [Bool.false_eq_true, if_false, Bool.false_and]
        have := h4 p
        simp only [Bool.false_and, Bool.false_eq_true, if_false] at this
        exact this
      · have e : (mvK true node f T (k + 1)).i p = if ((f + (k : Int)) % 64).toNat = p then T.ver else (mvK true node f T k).i p := by
          rw [mvK_take]; exact (sk.setOwn _ node).i_set hp T.ver p
        rw [e, h4 p]
        by_cases hh : ((f + (k : Int)) % 64).toNat = p
        · simp [hh]
        · simp [hh]
theorem inK_has {f z : Int} {p : Nat} (hp : p < 64) : inK f (np f z) p = hasB f z (p : Int) := by
  rw [Bool.eq_iff_iff]
  unfold inK
  rw [List.any_eq_true]
  constructor
  · rintro ⟨j, hj, e⟩
    simp at hj
    have h1 := has_mem hj
    have e' : ((f + (j : Int)) % 64).toNat = p := by simpa using e
    rwa [show (f + (j : Int)) % 64 = (p : Int) by omega] at h1
  · intro h
    obtain ⟨j, hj, e⟩ := has_ex h
    refine ⟨j, by simpa using hj, ?_⟩
    simp; omega
/-- a table as the calls make them -/
structure Tb.Ok (T : Tb) : Prop where
  sz : T.Sz
  v0 : 1 ≤ T.ver
  v1 : T.ver ≤ 2147483647
  r : ∀ n, n < 12 → 0 ≤ T.r n ∧ T.r n ≤ 4294967295
  o : ∀ p, p < 64 → ∃ n : Nat, T.o p = (n : Int) ∧ n < 12 ∧ T.m n = true
  i : ∀ p, p < 64 → 1 ≤ T.i p ∧ T.i p ≤ T.ver
theorem newT_m (n k : Nat) (hk : k < 12) : (newT n).m k = decide (k < n) := by
  by_cases h : k < n
  · show (sq n 12 (fun _ => true) false).getD k false = _
    rw [sq_get n 12 k _ _ _ hk h]; simp [h]
  · show (sq n 12 (fun _ => true) false).getD k false = _
    rw [sq_out n 12 k _ _ _ hk h]; simp [h]
theorem newT_o (n p : Nat) (hp : p < 64) : (newT n).o p = ((p * n / 64 : Nat) : Int) := sq_get 64 64 p (nowner n) 0 0 hp hp
theorem newT_i (n p : Nat) (hp : p < 64) : (newT n).i p = 1 := sq_get 64 64 p (fun _ => (1 : Int)) 0 0 hp hp
theorem newT_ok (n : Nat) (h0 : 4 ≤ n) (h1 : n ≤ 12) : (newT n).Ok := by
  refine ⟨newT_sz n, by show (1 : Int) ≤ 1; omega, by show (1 : Int) ≤ 2147483647; omega, newT_ren n, ?_, ?_⟩
  · intro p hp
    have hm : p * n < 64 * n := Nat.mul_lt_mul_of_pos_right hp (by omega)
    refine ⟨p * n / 64, newT_o n p hp, by omega, ?_⟩
    rw [newT_m n _ (by omega)]
    simp; omega
  · intro p hp
    rw [newT_i n p hp]
    exact ⟨by omega, by show (1 : Int) ≤ 1; omega⟩
/-- what a decree that goes through does -/
structure Did (T : Tb) (D : Dc) (U : Tb) : Prop where
  ver : U.ver = T.ver + 1
  o : ∀ p, p < 64 → U.o p = if (decide (D.kind = 2) || decide (D.kind = 3)) && hasB D.f D.z (p : Int) then D.node else T.o p
  i : ∀ p, p < 64 → U.i p = if decide (D.kind = 3) && hasB D.f D.z (p : Int) then T.ver + 1 else T.i p
  m : ∀ n, n < 12 → U.m n = if decide (D.kind = 4) && decide (D.node = (n : Int)) then true else if decide (D.kind = 5) && decide (D.node = (n : Int)) then false else T.m n
  r : ∀ n, n < 12 → U.r n = if decide (D.kind = 1) && decide (D.node = (n : Int)) then D.cnt else if decide (D.kind = 4) && decide (D.node = (n : Int)) then 0 else T.r n
theorem did {T : Tb} (s : T.Sz) {D : Dc} (h : refuse T D = 0) : Did T D (behindT T D) := by
  obtain ⟨hk, ⟨q, hq, hq12⟩, v1⟩ := refuse_ok h
  have hqt : D.node.toNat = q := by omega
  have sU := s.setVer (T.ver + 1)
  have hn : ∀ n : Nat, (decide (D.node = (n : Int))) = decide (q = n) := fun n => by
    rw [hq, decide_eq_decide]; omega
  unfold behindT
  rw [hqt]
  rcases hk with hk | hk | hk | hk | hk
  · rw [if_pos hk]
    refine ⟨rfl, ?_, ?_, ?_, ?_⟩ <;> intro p hp <;> simp only [hk, hn]
    · simp; rfl
    · simp; rfl
    · simp; rfl
    · rw [sU.r_set hq12]; by_cases e : q = p <;> simp [e]; rfl
  · rw [if_neg (by omega), if_neg (by omega), if_neg (by omega)]
    obtain ⟨⟨f1, f2⟩, f3, f4⟩ := mvK_facts sU (decide (D.kind = 3)) D.node D.f (np D.f D.z)
    refine ⟨mvK_ver _ _ _ _ _, ?_, ?_, ?_, ?_⟩ <;> intro p hp
    · rw [f3 p, inK_has hp]; simp [hk]; rfl
    · rw [f4 p, inK_has hp]; simp [hk]; rfl
    · show (mvK _ _ _ _ _).mem.getD p false = _
      rw [f1]; simp [hk]; rfl
    · show (mvK _ _ _ _ _).ren.getD p 0 = _
      rw [f2]; simp [hk]; rfl
  · rw [if_neg (by omega), if_neg (by omega), if_neg (by omega)]
    obtain ⟨⟨f1, f2⟩, f3, f4⟩ := mvK_facts sU (decide (D.kind = 3)) D.node D.f (np D.f D.z)
    refine ⟨mvK_ver _ _ _ _ _, ?_, ?_, ?_, ?_⟩ <;> intro p hp
    · rw [f3 p, inK_has hp]; simp [hk]; rfl
    · rw [f4 p, inK_has hp]; simp [hk]; rfl
    · show (mvK _ _ _ _ _).mem.getD p false = _
      rw [f1]; simp [hk]; rfl
    · show (mvK _ _ _ _ _).ren.getD p 0 = _
      rw [f2]; simp [hk]; rfl
  · rw [if_neg (by omega), if_pos hk]
    refine ⟨rfl, ?_, ?_, ?_, ?_⟩ <;> intro p hp <;> simp only [hk, hn]
    · simp; rfl
    · simp; rfl
    · have := sU.m_set hq12 true p
      by_cases e : q = p
      · subst e; rw [if_pos rfl] at this; simp; exact this
      · rw [if_neg e] at this; simp [e]; exact this
    · have := (sU.setMem q true).r_set hq12 0 p
      by_cases e : q = p
      · subst e; rw [if_pos rfl] at this; simp; exact this
      · rw [if_neg e] at this; simp [e]; exact this
  · rw [if_neg (by omega), if_neg (by omega), if_pos hk]
    refine ⟨rfl, ?_, ?_, ?_, ?_⟩ <;> intro p hp <;> simp only [hk, hn]
    · simp; rfl
    · simp; rfl
    · have := sU.m_set hq12 false p
      by_cases e : q = p
      · subst e; rw [if_pos rfl] at this; simp; exact this
      · rw [if_neg e] at this; simp [e]; exact this
    · simp; rfl
end Go.Proofs.Ytikeiocgnjdhbaa
