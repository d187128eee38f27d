/- The tables of a ring: one is turned; the rows of fingers that were told. -/
import Derived.Test.YtokmchkoojeadaaIx
namespace Go.Proofs.Ytokmchkoojeadaa
open Go.RowKit Go.Sort
set_option linter.unusedVariables false
set_option linter.unusedSimpArgs false
set_option maxRecDepth 100000
theorem pes_info : (Try.prog.info? 39).map (fun i => (i.zero, i.size, i.bytes)) = some (some (.slice none 0 0), 1, 24) := by kernel_rfl
section
variable {w w' w2 : World} {B : Nat} {L : List Pe} {F G : Nat → Pe → Pe → List Pe} {T : List TT} {Fk : Nat → List Pe}
theorem tt_set {T : List TT} {i : Nat} {t u : TT} (h : T[i]? = some t) (e : u.1 = t.1) : (T.set i u).map TT.v = T.map TT.v := by
  apply List.ext_getElem?
  intro j
  rw [List.getElem?_map, List.getElem?_map, List.getElem?_set]
  split
  · rename_i hij
    subst hij
    have hi := (List.getElem?_eq_some_iff.1 h).1
    rw [if_pos hi, h]
    simp [TT.v, e]
  · rfl
theorem set_at {α : Type} {T : List α} {i : Nat} {u : α} {j : Nat} {x : α} (h : (T.set i u)[j]? = some x) : (j = i ∧ x = u) ∨ (j ≠ i ∧ T[j]? = some x) := by
  rw [List.getElem?_set] at h
  split at h
  · rename_i hij
    subst hij
    split at h
    · cases h; exact .inl ⟨rfl, rfl⟩
    · cases h
  · rename_i hij
    exact .inr ⟨fun e => hij e.symm, h⟩
/-- one of them has turned -/
theorem Tbs.turn (h : Tbs w w' L F T) {i : Nat} {t : TT} (ht : T[i]? = some t) {s p c : Pe} {u : Option Addr × Nat} {M : List Pe} (hs : L[i]? = some s) (hp : L[(i + L.length - 1) % L.length]? = some p) (hc : L[(i + 1) % L.length]? = some c)
    (h4 : TbW w2 w.heap.size t.1 u.1 u.2 s p c M) (k : Keep (tbB t.1 t.2.1) w' w2) (hnew : ∀ q ∈ tbB t.1 u.1, q ∈ tbB t.1 t.2.1 ∨ w'.heap.size ≤ q)
    (hG : ∀ j s c, j ≠ i → F j s c = G j s c) (hGi : G i s c = M) : Tbs w w2 L G (T.set i (t.1, u)) := by
  refine ⟨fun j x hx => ?_, fun j1 j2 a b hj ha hb g hg hm => ?_⟩
  · rcases set_at hx with ⟨rfl, rfl⟩ | ⟨hj, hx⟩
    · exact ⟨s, p, c, hs, hp, hc, by rw [hGi]; exact h4⟩
    · obtain ⟨s', p', c', e1, e2, e3, e4⟩ := h.tb j x hx
      exact ⟨s', p', c', e1, e2, e3, by rw [← hG j s' c' hj]; exact e4.keep k (h.ne j i x t hj hx ht)⟩
  · rcases set_at ha with ⟨rfl, rfl⟩ | ⟨hj1, ha2⟩ <;> rcases set_at hb with ⟨rfl, rfl⟩ | ⟨hj2, hb2⟩
    · exact hj rfl
    · rcases hnew g hg with e | e
      · exact h.ne _ j2 t b hj ht hb2 g e hm
      · have := (h.lt j2 b hb2 g hm).2; omega
    · rcases hnew g hm with e | e
      · exact h.ne _ j1 t a (fun e => hj e.symm) ht ha2 g e hg
      · have := (h.lt j1 a ha2 g hg).2; omega
    · exact h.ne j1 j2 a b hj ha2 hb2 g hg hm
/-- a row of peers reads as such -/
theorem psrd_own {ao : Option Addr} {cap : Nat} {M : List Pe} (h : w'.ownsRow B 26 3 (.slice ao M.length cap) M.length (fl Pe.list M)) : PsRd w' ao M := fun j p hp => by
  have hj := (List.getElem?_eq_some_iff.1 hp).1
  obtain ⟨g, rfl, _, _, _, hg⟩ := owns_none h (by omega)
  exact ⟨g, 0, rfl, hg, fun q hq => by rw [Nat.zero_add]; exact owns_px h hp hq⟩
/-- the fingers that were told: slices -/
abbrev WW := Option Addr × Nat × Nat
def WW.v (x : WW) : Value := .slice x.1 x.2.1 x.2.2
/-- each of them is a row of its own -/
def Ws (w' : World) (B : Nat) (Fk : Nat → List Pe) (W : List WW) : Prop := ∀ j x, W[j]? = some x → x.2.1 = (Fk j).length ∧ w'.ownsRow B 26 3 (.slice x.1 (Fk j).length x.2.2) (Fk j).length (fl Pe.list (Fk j))
variable {W : List WW}
theorem Ws.nil : Ws w' B Fk [] := fun j x h => by simp at h
theorem Ws.blocks (h : Ws w' B Fk W) (j : Nat) (x : WW) (hx : W[j]? = some x) : ∀ q ∈ blk x.1, B ≤ q ∧ q < w'.heap.size := owns_blk (h j x hx).2
theorem Ws.keep {U : List Nat} (h : Ws w' B Fk W) (k : Keep U w' w2) (hU : ∀ (j : Nat) (x : WW), W[j]? = some x → ∀ q ∈ blk x.1, q ∉ U) : Ws w2 B Fk W := fun j x hx => by
  obtain ⟨h1, h2⟩ := h j x hx
  exact ⟨h1, owns_keep h2 k (blk_own _ _ _ (hU j x hx))⟩
theorem Ws.below (h : Ws w' B Fk W) (k : Below w'.heap.size w' w2) : Ws w2 B Fk W := h.keep (Keep.of_below k []) (by simp)
theorem last_at {α : Type} {T : List α} {t : α} {j : Nat} {u : α} (hu : (T ++ [t])[j]? = some u) : (j < T.length ∧ T[j]? = some u) ∨ (j = T.length ∧ u = t) := by
  rcases Nat.lt_trichotomy j T.length with hj | hj | hj
  · rw [List.getElem?_append_left hj] at hu; exact .inl ⟨hj, hu⟩
  · subst hj; rw [List.getElem?_append_right (Nat.le_refl _), Nat.sub_self] at hu; cases hu; exact .inr ⟨rfl, rfl⟩
  · rw [List.getElem?_eq_none (by rw [List.length_append]; simp; omega)] at hu; cases hu
theorem Ws.push (h : Ws w' B Fk W) (k : Below w'.heap.size w' w2) {ao : Option Addr} {cap : Nat} (h2 : w2.ownsRow w'.heap.size 26 3 (.slice ao (Fk W.length).length cap) (Fk W.length).length (fl Pe.list (Fk W.length))) (hB : B ≤ w'.heap.size) :
    Ws w2 B Fk (W ++ [(ao, (Fk W.length).length, cap)]) := fun j x hx => by
  rcases last_at hx with ⟨_, hx⟩ | ⟨rfl, rfl⟩
  · exact (h.below k) j x hx
  · exact ⟨rfl, owns_base h2 hB⟩
theorem wb_push {wz : Option Addr} {x : WW} {B' : Nat} (h : ∀ (j : Nat) (x : WW), W[j]? = some x → ∀ q ∈ blk x.1, q ∉ blk wz) (h4 : ∀ q ∈ blk x.1, B' ≤ q) (hz : ∀ q ∈ blk wz, q < B') : ∀ (j : Nat) (u : WW), (W ++ [x])[j]? = some u → ∀ q ∈ blk u.1, q ∉ blk wz := fun j u hu q hq hm => by
  rcases last_at hu with ⟨_, hu⟩ | ⟨_, rfl⟩
  · exact h j u hu q hq hm
  · have := h4 q hq; have := hz q hm; omega
/-- a cell of a row of one cell an element, whichever it is -/
theorem owns_c1 {ao : Option Addr} {e : TypeId} {n cap : Nat} {xs : List Value} (ho : w'.ownsRow B e 1 (.slice ao n cap) n xs) {j : Nat} {v : Value} (hj : xs[j]? = some v) : ∃ g, ao = some ⟨g, 0, none⟩ ∧ g < w'.heap.size ∧ w'.cell? ⟨g, j, none⟩ = some v := by
  have hl := ho.1
  have hjl := (List.getElem?_eq_some_iff.1 hj).1
  obtain ⟨g, u, h1, h2, _, h4, h5, _⟩ := owns_cell1 ho j (by omega)
  rw [h4] at hj; cases hj
  exact ⟨g, h1, h2, h5⟩
theorem fgs_step {L : List Pe} {k j : Nat} {f s : Pe} (hlt : ¬ (fgs L k j).length < k + 1) (hf : (fgs L k j)[k]? = some f) (hs : L[j]? = some s) : fgs L (k + 1) j = learnt s (fgs L k j) (k + 1) (fgs L k f.n.toNat) := by
  rw [fgs, if_neg hlt, hf, hs]
theorem fgs_stay {L : List Pe} {k j : Nat} (hlt : (fgs L k j).length < k + 1) : fgs L (k + 1) j = fgs L k j := by
  rw [fgs, if_pos hlt]
end
end Go.Proofs.Ytokmchkoojeadaa
