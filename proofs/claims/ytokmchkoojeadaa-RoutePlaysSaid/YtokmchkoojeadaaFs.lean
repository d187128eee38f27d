/- Plain facts: the fingers that a ring's tables have after so many rounds. -/
import Derived.Test.YtokmchkoojeadaaTa
import Derived.Test.YtokmchkoojeadaaPo
namespace Go.Proofs.Ytokmchkoojeadaa
open Go.RowKit Go.Sort
set_option linter.unusedVariables false
set_option linter.unusedSimpArgs false
/-- the fingers of the j-th table behind k rounds -/
def fgs (L : List Pe) : Nat → Nat → List Pe
  | 0, j => match L[j]?, L[(j + 1) % L.length]? with | some s, some c => fing0 s c | _, _ => []
  | k + 1, j => if (fgs L k j).length < k + 1 then fgs L k j else match (fgs L k j)[k]?, L[j]? with | some f, some s => learnt s (fgs L k j) (k + 1) (fgs L k f.n.toNat) | _, _ => fgs L k j
theorem learnt_len (s : Pe) (F M : List Pe) (i : Nat) : (learnt s F i M).length ≤ i + 1 := by
  unfold learnt
  rw [List.length_append, List.length_take]
  split
  · split <;> simp <;> omega
  · simp; omega
theorem learnt_mem {s : Pe} {F M : List Pe} {i : Nat} {x : Pe} (hx : x ∈ learnt s F i M) : x ∈ F ∨ x ∈ M := by
  unfold learnt at hx
  rcases List.mem_append.1 hx with h | h
  · exact .inl (List.mem_of_mem_take h)
  · split at h
    · rename_i hm
      split at h
      · simp only [List.mem_singleton] at h; subst h; exact .inr (List.mem_of_getElem? hm)
      · simp at h
    · simp at h
theorem learnt_ne {s : Pe} {F M : List Pe} {i : Nat} (hi : 0 < i) (hF : F ≠ []) : learnt s F i M ≠ [] := by
  unfold learnt
  cases F with
  | nil => exact absurd rfl hF
  | cons a F =>
    obtain ⟨i, rfl⟩ : ∃ k, i = k + 1 := ⟨i - 1, by omega⟩
    simp
theorem fgs_len (L : List Pe) : ∀ k j, (fgs L k j).length ≤ k + 1
  | 0, j => by
    unfold fgs
    split
    · unfold fing0; split <;> simp
    · simp
  | k + 1, j => by
    unfold fgs
    split
    · omega
    · split
      · exact learnt_len _ _ _ _
      · have := fgs_len L k j; omega
theorem fgs_mem (L : List Pe) : ∀ k j x, x ∈ fgs L k j → x ∈ L
  | 0, j, x, hx => by
    unfold fgs at hx
    split at hx
    · rename_i hc
      unfold fing0 at hx
      split at hx
      · simp at hx
      · simp only [List.mem_singleton] at hx; subst hx; exact List.mem_of_getElem? hc
    · simp at hx
  | k + 1, j, x, hx => by
    unfold fgs at hx
    split at hx
    · exact fgs_mem L k j x hx
    · split at hx
      · rcases learnt_mem hx with h | h
        · exact fgs_mem L k j x h
        · exact fgs_mem L k _ x h
      · exact fgs_mem L k j x hx
theorem fgs_ne (L : List Pe) (j : Nat) (h : fgs L 0 j ≠ []) : ∀ k, fgs L k j ≠ []
  | 0 => h
  | k + 1 => by
    have ih := fgs_ne L j h k
    unfold fgs
    split
    · exact ih
    · split
      · exact learnt_ne (by omega) ih
      · exact ih
theorem fgs_tell {L : List Pe} (hnum : ∀ (j : Nat) (x : Pe), L[j]? = some x → x.n = (j : Int)) (hle : L.length ≤ 255) (k j : Nat) (hk : k ≤ 3) : mayTell (fgs L k j) = true := by
  unfold mayTell
  have h1 := fgs_len L k j
  rw [Bool.and_eq_true]
  refine ⟨decide_eq_true (by omega), List.all_eq_true.2 fun x hx => ?_⟩
  obtain ⟨i, hi⟩ := List.getElem?_of_mem (fgs_mem L k j x hx)
  have := (List.getElem?_eq_some_iff.1 hi).1
  rw [hnum i x hi]
  simp
  omega
/-- the fingers may be named otherwise -/
theorem Tbs.congr {w w' : World} {L : List Pe} {F G : Nat → Pe → Pe → List Pe} {T : List TT} (h : Tbs w w' L F T) (e : ∀ (j : Nat) (s c : Pe), L[j]? = some s → L[(j + 1) % L.length]? = some c → F j s c = G j s c) : Tbs w w' L G T :=
  ⟨fun j t ht => by
    obtain ⟨s, p, c, h1, h2, h3, h4⟩ := h.tb j t ht
    exact ⟨s, p, c, h1, h2, h3, by rw [← e j s c h1 h3]; exact h4⟩, h.ne⟩
theorem fgs_zero {L : List Pe} {j : Nat} {s c : Pe} (hs : L[j]? = some s) (hc : L[(j + 1) % L.length]? = some c) : fgs L 0 j = fing0 s c := by
  unfold fgs
  rw [hs, hc]
end Go.Proofs.Ytokmchkoojeadaa
