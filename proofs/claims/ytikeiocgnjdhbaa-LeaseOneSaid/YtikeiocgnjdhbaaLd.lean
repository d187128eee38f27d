/- Rows of a table loaded; what There and Taken hold. -/
import Derived.Test.YtikeiocgnjdhbaaOk
namespace Go.Proofs.Ytikeiocgnjdhbaa
open Go.RowKit Go.Sort
set_option linter.unusedVariables false
set_option linter.unusedSimpArgs false
set_option maxRecDepth 100000

section
variable {w : World} {b : Nat} {T : Tb} (h : TbR w b T) (s : T.Sz)
include h s
theorem TbR.load_own : (Instr.loadAt 24 (.pointer (some ⟨b, 1, none⟩))).run Try.prog w = .ok (.agg ⟨T.own.map (.int .i64)⟩) w :=
  run_loadAt_mid w b 1 24 _ _ (fun j v hv => by
    have hj : j < 64 := by have := (List.getElem?_eq_some_iff.1 hv).1; simpa [s.o] using this
    rw [h.own s hj, ← hv]; simp [Tb.o, List.getD, s.o, hj]) Try.underlying24 rfl (by rw [List.length_map, s.o]; kernel_rfl)
theorem TbR.load_inc : (Instr.loadAt 25 (.pointer (some ⟨b, 65, none⟩))).run Try.prog w = .ok (.agg ⟨T.inc.map (.int .u32)⟩) w :=
  run_loadAt_mid w b 65 25 _ _ (fun j v hv => by
    have hj : j < 64 := by have := (List.getElem?_eq_some_iff.1 hv).1; simpa [s.i] using this
    rw [h.inc s hj, ← hv]; simp [Tb.i, List.getD, s.i, hj]) Try.underlying25 rfl (by rw [List.length_map, s.i]; kernel_rfl)
theorem TbR.load_mem : (Instr.loadAt 26 (.pointer (some ⟨b, 129, none⟩))).run Try.prog w = .ok (.agg ⟨T.mem.map .bool⟩) w :=
  run_loadAt_mid w b 129 26 _ _ (fun j v hv => by
    have hj : j < 12 := by have := (List.getElem?_eq_some_iff.1 hv).1; simpa [s.m] using this
    rw [h.mem s hj, ← hv]; simp [Tb.m, List.getD, s.m, hj]) Try.underlying26 rfl (by rw [List.length_map, s.m]; kernel_rfl)
end
section
variable {P : Program} {ops : Array Oper} {rest : List Oper} {o : Oper} {a : Act} {w : World} {Q : Exit → Act → World → Prop} {x y : Operand} {ty : TypeId} {p v : Value}
theorem load_w (hw : Region.wanted o (yielded ops a.tmps) = true) (ho : o.op = .load ty x) (hx : a.eval x = p) (hl : (Instr.loadAt ty p).run P w = .ok v w) (h : wpList P ops Q rest (a.put o.dst v) w) : wpList P ops Q (o :: rest) a w :=
  wpList_wanted hw _ (exec_load ty x ho hx hl) h
end
theorem own_ext {T U : Tb} (s : T.Sz) (t : U.Sz) (h : ∀ p, p < 64 → T.o p = U.o p) : T.own = U.own := by
  apply List.ext_getElem (by rw [s.o, t.o])
  intro i h1 h2
  have := h i (by rw [s.o] at h1; exact h1)
  simpa [Tb.o, List.getD, h1, h2] using this
theorem inc_ext {T U : Tb} (s : T.Sz) (t : U.Sz) (h : ∀ p, p < 64 → T.i p = U.i p) : T.inc = U.inc := by
  apply List.ext_getElem (by rw [s.i, t.i])
  intro i h1 h2
  have := h i (by rw [s.i] at h1; exact h1)
  simpa [Tb.i, List.getD, h1, h2] using this
theorem allB_has {T : Tb} {n f z : Int} (h : allB T n f (np f z) = true) {p : Nat} (hp : p < 64) (hh : hasB f z (p : Int) = true) : T.o p = n := by
  obtain ⟨j, hj, e⟩ := has_ex hh
  have := List.all_eq_true.1 h j (by simpa using hj)
  rw [show ((f + (j : Int)) % 64).toNat = p by omega] at this
  unfold ownB at this
  simp at this
  exact this.2
theorem allB_of {T : Tb} {n f z : Int} (hn : isN n = true) (h : ∀ p : Nat, p < 64 → hasB f z (p : Int) = true → T.o p = n) : allB T n f (np f z) = true := by
  refine List.all_eq_true.2 fun j hj => ?_
  have hj' : j < np f z := by simpa using hj
  have h1 := has_mem hj'
  have h2 : (f + (j : Int)) % 64 = ((((f + (j : Int)) % 64).toNat : Nat) : Int) := by omega
  rw [h2] at h1
  have := h _ (by omega) h1
  unfold ownB
  rw [hn, this]; simp
theorem refuse_eq {T : Tb} {D : Dc} (hk : D.kind = 2 ∨ D.kind = 3) {q : Nat} (hq : D.node = (q : Int)) (hq12 : q < 12) (hv : T.ver < 2147483647) (hm : T.m q = true) : refuse T D = arcNo T D := by
  unfold refuse
  have hn : isN D.node = true := isN_spec.2 ⟨by omega, by omega⟩
  rw [if_neg (by rintro (h | h | h | h); omega; omega; rw [hn] at h; cases h; omega), show D.node.toNat = q by omega, hm]
  have h4 : decide (D.kind = 4) = false := by simp; omega
  rw [h4, if_neg (by simp), if_neg (by omega), if_neg (by omega), if_neg (by omega)]
theorem there_facts {T : Tb} (h : T.Ok) {m B : Nat} {f z : Int} (h2 : T.ver < 2147483646) (h0 : refuse T ⟨2, m, B, f, z, 0, 0⟩ = 0) :
    refuse (behindT T ⟨2, m, B, f, z, 0, 0⟩) ⟨2, B, m, f, z, 0, 0⟩ = 0 ∧ (behindT (behindT T ⟨2, m, B, f, z, 0, 0⟩) ⟨2, B, m, f, z, 0, 0⟩).own = T.own ∧ (behindT (behindT T ⟨2, m, B, f, z, 0, 0⟩) ⟨2, B, m, f, z, 0, 0⟩).inc = T.inc ∧
    (behindT T ⟨2, m, B, f, z, 0, 0⟩).inc = T.inc ∧ ∀ p : Nat, p < 64 → (hasB f z (p : Int) = true → T.o p = (B : Int) ∧ (behindT T ⟨2, m, B, f, z, 0, 0⟩).o p = (m : Int)) ∧ (hasB f z (p : Int) = false → (behindT T ⟨2, m, B, f, z, 0, 0⟩).o p = T.o p) := by
  have d := did h.sz h0
  obtain ⟨hk, ⟨q, hq, hq12⟩, v1⟩ := refuse_ok h0
  obtain ⟨f1, f2, f3, f4⟩ := refuse_facts h0
  obtain ⟨a1, a2, a3, a4, a5⟩ := arcNo_facts (f4 (.inl rfl))
  have sU := behindT_sz h.sz ⟨2, m, B, f, z, 0, 0⟩
  generalize behindT T ⟨2, m, B, f, z, 0, 0⟩ = U at *
  simp only at hq a1 a2 a3 a4 f1
  have hqm : q = m := by omega
  subst hqm
  -- the first place of the arc
  have hB := by_node (T := T) (D := ⟨2, q, B, f, z, 0, 0⟩) a1 a2 a4
  simp only at hB
  have hB12 : B < 12 := by omega
  have dv := d.ver
  have uo : ∀ p : Nat, p < 64 → U.o p = if hasB f z (p : Int) then (q : Int) else T.o p := fun p hp => by have := d.o p hp; simpa using this
  have ui : ∀ p : Nat, p < 64 → U.i p = T.i p := fun p hp => by have := d.i p hp; simpa using this
  have um : ∀ n : Nat, n < 12 → U.m n = T.m n := fun n hn => by have := d.m n hn; simpa using this
  have hto : ∀ p : Nat, p < 64 → hasB f z (p : Int) = true → T.o p = (B : Int) := fun p hp hh => allB_has a4 hp hh
  -- B owns the first place, so it is a member
  have r := right_spec.1 a1
  have hh0 : hasB f z ((f.toNat : Nat) : Int) = true := (has_spec a1 (by omega) (by omega)).2 (.inl ⟨by omega, by omega⟩)
  have hmB : T.m B = true := by
    obtain ⟨n, e, hn, hm⟩ := h.o f.toNat (by omega)
    have := hto f.toNat (by omega) hh0
    rw [show B = n by omega]; exact hm
  have hback : refuse U ⟨2, B, q, f, z, 0, 0⟩ = 0 := by
    rw [refuse_eq (.inl rfl) (q := B) rfl hB12 (by rw [dv]; omega) (by rw [um B hB12]; exact hmB)]
    unfold arcNo
    have hall : allB U (q : Int) f (np f z) = true := allB_of (isN_spec.2 ⟨by omega, by omega⟩) fun p hp hh => by rw [uo p hp, hh]; rfl
    simp only [a1, a2, hall]
    rw [if_neg (by rintro (h | h); cases h; exact h), if_neg (by rintro (h | h); omega; cases h), if_neg (fun h => by omega)]
  have e := did sU hback
  have sV := behindT_sz sU ⟨2, B, q, f, z, 0, 0⟩
  generalize behindT U ⟨2, B, q, f, z, 0, 0⟩ = V at *
  refine ⟨hback, own_ext sV h.sz fun p hp => ?_, inc_ext sV h.sz fun p hp => ?_, inc_ext sU h.sz ui, fun p hp => ⟨fun hh => ⟨hto p hp hh, by rw [uo p hp, hh]; rfl⟩, fun hh => by rw [uo p hp, hh]; rfl⟩⟩
  · have := e.o p hp
    simp only [decide_true, Bool.true_or, Bool.true_and] at this
    rw [this, uo p hp]
    cases hh : hasB f z (p : Int)
    · rfl
    · rw [if_pos rfl, hto p hp hh]
  · have := e.i p hp
    have h2 := ui p hp
    simp at this
    rw [this, h2]
theorem taken_facts {T : Tb} (h : T.Ok) {m B k : Nat} {f z : Int} (h2 : T.ver < 2147483646) (h0 : refuse T ⟨3, m, B, f, z, 0, 0⟩ = 0) (hk12 : k < 12) (hmk : T.m k = true) :
    refuse (behindT T ⟨3, m, B, f, z, 0, 0⟩) ⟨2, k, B, f, z, 0, 0⟩ = 141 ∧ refuse (behindT T ⟨3, m, B, f, z, 0, 0⟩) ⟨3, k, B, f, z, 0, 0⟩ = 141 ∧
    ∀ p : Nat, p < 64 → (hasB f z (p : Int) = true → (behindT T ⟨3, m, B, f, z, 0, 0⟩).i p = (behindT T ⟨3, m, B, f, z, 0, 0⟩).ver ∧ (behindT T ⟨3, m, B, f, z, 0, 0⟩).o p = (m : Int)) ∧ (hasB f z (p : Int) = false → (behindT T ⟨3, m, B, f, z, 0, 0⟩).i p = T.i p) := by
  have d := did h.sz h0
  obtain ⟨hk, ⟨q, hq, hq12⟩, v1⟩ := refuse_ok h0
  obtain ⟨f1, f2, f3, f4⟩ := refuse_facts h0
  obtain ⟨a1, a2, a3, a4, a5⟩ := arcNo_facts (f4 (.inr rfl))
  have sU := behindT_sz h.sz ⟨3, m, B, f, z, 0, 0⟩
  generalize behindT T ⟨3, m, B, f, z, 0, 0⟩ = U at *
  simp only at hq a1 a2 a3 a4 f1
  have hqm : q = m := by omega
  subst hqm
  have dv := d.ver
  have uo : ∀ p : Nat, p < 64 → U.o p = if hasB f z (p : Int) then (q : Int) else T.o p := fun p hp => by have := d.o p hp; simpa using this
  have ui : ∀ p : Nat, p < 64 → U.i p = if hasB f z (p : Int) then T.ver + 1 else T.i p := fun p hp => by have := d.i p hp; simpa using this
  have um : ∀ n : Nat, n < 12 → U.m n = T.m n := fun n hn => by have := d.m n hn; simpa using this
  have r := right_spec.1 a1
  have hh0 : hasB f z ((f.toNat : Nat) : Int) = true := (has_spec a1 (by omega) (by omega)).2 (.inl ⟨by omega, by omega⟩)
  have hall : allB U (B : Int) f (np f z) = false := by
    rw [← Bool.not_eq_true]
    intro hx
    have h1 := allB_has hx (p := f.toNat) (by omega) hh0
    rw [uo f.toNat (by omega), hh0] at h1
    exact a3 h1.symm
  have h141 : ∀ K : Int, arcNo U ⟨K, k, B, f, z, 0, 0⟩ = 141 := fun K => by
    unfold arcNo
    simp only [a1, a2, hall]
    rw [if_neg (by rintro (h | h); cases h; exact h), if_pos (.inr trivial)]
  refine ⟨?_, ?_, fun p hp => ⟨fun hh => ⟨by rw [ui p hp, hh, dv]; rfl, by rw [uo p hp, hh]; rfl⟩, fun hh => by rw [ui p hp, hh]; rfl⟩⟩
  · rw [refuse_eq (.inl rfl) (q := k) rfl hk12 (by rw [dv]; omega) (by rw [um k hk12]; exact hmk)]; exact h141 2
  · rw [refuse_eq (.inr rfl) (q := k) rfl hk12 (by rw [dv]; omega) (by rw [um k hk12]; exact hmk)]; exact h141 3
end Go.Proofs.Ytikeiocgnjdhbaa
