/- What a heap holds; has, set. -/
import Derived.Test.YtkhfbnlmjnbhmaaSettle
import Derived.Deep.AppendLies
import Derived.Deep.RegionLaw
namespace Go.Proofs.Ytkhfbnlmjnbhmaa
open Go.RowKit Go.Sort
set_option linter.unusedVariables false

/-- is the number there? -/
def inS (S : List Tm) (id : Nat) : Bool := S.any fun t => t.1 == id
theorem inS_iff {S : List Tm} {id : Nat} : inS S id = true ↔ ∃ t ∈ S, t.1 = id := by simp [inS]
theorem inS_not {S : List Tm} {id : Nat} : inS S id = false ↔ ∀ t ∈ S, t.1 ≠ id := by
  rw [← Bool.not_eq_true, inS_iff]
  exact ⟨fun h t ht e => h ⟨t, ht, e⟩, fun h ⟨t, ht, e⟩ => h t ht e⟩

/-- the heap l with its map f holds S -/
structure HS (l : List Tm) (f : Nat → Option Nat) (S : List Tm) : Prop where
  heap : Hp l
  perm : l.Perm S
  dist : Dist S
  fwd : ∀ j, j < l.length → f (tm l j).1 = some j
  dom : ∀ id, (f id).isSome = inS S id
theorem dist_ids {S : List Tm} (h : Dist S) : Ids S := by
  unfold Ids
  rw [List.nodup_iff_pairwise_ne, List.pairwise_map]
  exact h.imp fun h => h.1
section
variable {l : List Tm} {f : Nat → Option Nat} {S : List Tm}
theorem HS.ids (h : HS l f S) : Ids l := (h.perm.map (·.1)).nodup_iff.2 (dist_ids h.dist)
theorem HS.len (h : HS l f S) : l.length = S.length := h.perm.length_eq
theorem HS.at_ (h : HS l f S) {id i : Nat} (hf : f id = some i) : i < l.length ∧ (tm l i).1 = id := by
  have h1 : inS S id = true := by rw [← h.dom, hf]; rfl
  obtain ⟨t, ht, rfl⟩ := inS_iff.1 h1
  obtain ⟨j, hj, hjt⟩ := List.mem_iff_getElem.1 (h.perm.mem_iff.2 ht)
  have e : tm l j = t := by simp [tm, hj, hjt]
  have h2 := h.fwd j hj
  rw [e, hf] at h2
  cases h2
  exact ⟨hj, by rw [e]⟩
/-- one is changed, at the end of the list it stands -/
theorem perm_wo : ∀ (l : List Tm) (i : Nat) (t : Tm), Ids l → i < l.length → (l.set i t).Perm (wo l (tm l i).1 ++ [t])
  | [], i, t, _, h => by simp at h
  | a :: r, 0, t, h, _ => by
    have h1 : wo (a :: r) a.1 = r := by
      have := (List.nodup_cons.1 h).1
      unfold wo
      rw [List.filter_cons, if_neg (by simp)]
      rw [List.filter_eq_self]
      intro x hx
      simp only [bne_iff_ne, ne_eq]
      intro e
      exact this (List.mem_map.2 ⟨x, hx, e⟩)
    show (t :: r).Perm (wo (a :: r) a.1 ++ [t])
    rw [h1]
    exact (List.perm_append_singleton t r).symm
  | a :: r, i + 1, t, h, hi => by
    have hi' : i < r.length := by simpa using hi
    have hn := List.nodup_cons.1 h
    have e : tm (a :: r) (i + 1) = tm r i := by simp [tm]
    have hne : a.1 ≠ (tm r i).1 := fun e => hn.1 (List.mem_map.2 ⟨_, tm_mem hi', e.symm⟩)
    rw [e]
    have : wo (a :: r) (tm r i).1 = a :: wo r (tm r i).1 := by unfold wo; rw [List.filter_cons, if_pos (by simpa using hne)]
    rw [this]
    exact (perm_wo r i t hn.2 hi').cons a
theorem wo_perm {l S : List Tm} (h : l.Perm S) (id : Nat) : (wo l id).Perm (wo S id) := h.filter _
theorem Ids.perm {l S : List Tm} (h : l.Perm S) (hs : Ids S) : Ids l := (h.map (·.1)).nodup_iff.2 hs
theorem dist_snoc {S : List Tm} (h : Dist S) (t : Tm) (hn : ∀ x ∈ S, x.1 ≠ t.1 ∧ x.2.2 < t.2.2) : Dist (S ++ [t]) := by
  unfold Dist
  rw [List.pairwise_append]
  exact ⟨h, by simp, fun a ha b hb => by simp at hb; subst hb; exact hn a ha⟩
theorem dist_put {S : List Tm} (h : Dist S) (t : Tm) (hn : ∀ x ∈ S, x.2.2 < t.2.2) : Dist (wo S t.1 ++ [t]) :=
  dist_snoc (dist_wo h t.1) t fun x hx => ⟨(wo_mem.1 hx).2, hn x (wo_mem.1 hx).1⟩
theorem inS_put (S : List Tm) (t : Tm) (id : Nat) : inS (wo S t.1 ++ [t]) id = (decide (id = t.1) || inS S id) := by
  rw [Bool.eq_iff_iff, Bool.or_eq_true, inS_iff, inS_iff, decide_eq_true_iff]
  constructor
  · rintro ⟨x, hx, rfl⟩
    rcases List.mem_append.1 hx with h | h
    · exact .inr ⟨x, (wo_mem.1 h).1, rfl⟩
    · simp at h; exact .inl (by rw [h])
  · rintro (rfl | ⟨x, hx, rfl⟩)
    · exact ⟨t, by simp, rfl⟩
    · by_cases e : x.1 = t.1
      · exact ⟨t, by simp, e.symm⟩
      · exact ⟨x, List.mem_append_left _ (wo_mem.2 ⟨hx, e⟩), rfl⟩
theorem inS_wo (S : List Tm) (k id : Nat) : inS (wo S k) id = (decide (id ≠ k) && inS S id) := by
  rw [Bool.eq_iff_iff, Bool.and_eq_true, inS_iff, inS_iff, decide_eq_true_iff]
  constructor
  · rintro ⟨x, hx, rfl⟩
    exact ⟨(wo_mem.1 hx).2, x, (wo_mem.1 hx).1, rfl⟩
  · rintro ⟨h, x, hx, rfl⟩
    exact ⟨x, wo_mem.2 ⟨hx, h⟩, rfl⟩
/-- start of settle, where the number is there -/
theorem HS.st_in (h : HS l f S) {t : Tm} {i : Nat} (hf : f t.1 = some i) : St t l i f l i f :=
  ⟨rfl, (h.at_ hf).1, h.heap.hole i (h.at_ hf).1, List.Perm.refl _, fun j hj _ => h.fwd j hj, fun _ => rfl⟩
theorem HS.perm_in (h : HS l f S) {t : Tm} {i : Nat} (hf : f t.1 = some i) : (l.set i t).Perm (wo S t.1 ++ [t]) := by
  obtain ⟨h1, h2⟩ := h.at_ hf
  have := perm_wo l i t h.ids h1
  rw [h2] at this
  exact this.trans ((wo_perm h.perm _).append_right _)
theorem HS.put_in (h : HS l f S) {t : Tm} {i : Nat} (hf : f t.1 = some i) (hn : ∀ x ∈ S, x.2.2 < t.2.2) {l' : List Tm} {f' : Nat → Option Nat} (k : Full t l i f l' f') : HS l' f' (wo S t.1 ++ [t]) :=
  ⟨k.heap, k.perm.trans (h.perm_in hf), dist_put h.dist t hn, k.fwd, fun id => by rw [k.dom, h.dom, inS_put]⟩
theorem set_last (l : List Tm) (t : Tm) : (l ++ [t]).set l.length t = l ++ [t] := by
  apply ext_tm (by simp)
  intro k hk
  simp at hk
  rw [tm_set _ _ _ _ (by simp)]
  by_cases e : k = l.length
  · rw [if_pos e]; subst e; simp [tm]
  · rw [if_neg e]
theorem HS.st_new (h : HS l f S) (t : Tm) : St t (l ++ [t]) l.length f (l ++ [t]) l.length f :=
  ⟨rfl, by simp, HH.of_app h.heap t, List.Perm.refl _, fun j hj hne => by
    simp at hj
    rw [tm_app_left (by omega)]
    exact h.fwd j (by omega), fun _ => rfl⟩
theorem HS.perm_new (h : HS l f S) {t : Tm} (hf : f t.1 = none) : (l ++ [t]).Perm (wo S t.1 ++ [t]) := by
  have : wo S t.1 = S := wo_none (inS_not.1 (by rw [← h.dom, hf]; rfl))
  rw [this]
  exact h.perm.append_right _
theorem HS.put_new (h : HS l f S) {t : Tm} (hf : f t.1 = none) (hn : ∀ x ∈ S, x.2.2 < t.2.2) {l' : List Tm} {f' : Nat → Option Nat} (k : Full t (l ++ [t]) l.length f l' f') : HS l' f' (wo S t.1 ++ [t]) :=
  ⟨k.heap, (k.perm.trans (by rw [set_last])).trans (h.perm_new hf), dist_put h.dist t hn, k.fwd, fun id => by rw [k.dom, h.dom, inS_put]⟩
end

set_option maxHeartbeats 1000000 in
theorem has_any {B hb gm n : Nat} {ao : Option Addr} {cap : Nat} {l : List Tm} {f : Nat → Option Nat} (w : World) (id : Nat) (hid : id < 18446744073709551616) (hw : HpW w B hb gm n ao cap l f) :
    Calls Try.prog 30 #[.pointer (some ⟨hb, 2, none⟩), .int .u64 (id : Int)] w fun e w' => e = .returned (.bool (f id).isSome) ∧ w = w' := by
  obtain ⟨c, hr, _⟩ := hw.map.look id hid
  have c3 := hw.cm
  have hlt := hw.hlt
  clear hw
  generalize (f id).isSome = b at *
  generalize (if b = true then (c : Int) else 0) = x at *
  go_enter Try.func30, Try.ntmps30
  go_wp2_with fail
  go_ret
  exact ⟨rfl, rfl⟩
end Go.Proofs.Ytkhfbnlmjnbhmaa
