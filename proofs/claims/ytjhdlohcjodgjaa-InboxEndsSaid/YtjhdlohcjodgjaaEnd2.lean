/- InboxEnds: Due's two lists, gone through. -/
import Derived.Test.YtjhdlohcjodgjaaEnd1
namespace Go.Proofs.Ytjhdlohcjodgjaa
open Go.RowKit
set_option linter.unusedVariables false

/-- the first k1 of what is made again and the first k2 of what is given up have been told -/
structure Mid (T L1 L2 : List Cal) (now k1 k2 : Nat) (L R : List Int) : Prop where
  lenL : L.length = T.length
  lenR : R.length = T.length
  ent : ∀ (i : Nat) (x : Cal), T[i]? = some x → ∃ l r, L[i]? = some l ∧ R[i]? = some r ∧ ((∃ y ∈ L1.take k1, y.id = i + 1) → l = (now : Int) ∧ r = (x.tries : Int) + 1) ∧
    ((∃ z ∈ L2.take k2, z.id = i + 1) → l = -1) ∧ ((∀ y ∈ L1.take k1, y.id ≠ i + 1) → (∀ z ∈ L2.take k2, z.id ≠ i + 1) → Entry now x l r)
section
variable {T T' L1 L2 : List Cal} {L R : List Int} {now k : Nat} {y z : Cal}
theorem mem_take {l : List Cal} {k : Nat} {y : Cal} (h : y ∈ l.take k) : ∃ j, j < k ∧ l[j]? = some y := by
  obtain ⟨j, hj, e⟩ := List.getElem_of_mem h
  rw [List.length_take] at hj
  rw [List.getElem_take] at e
  exact ⟨j, by omega, e ▸ List.getElem?_eq_getElem (by omega)⟩
theorem take_mem {l : List Cal} {j k : Nat} {y : Cal} (h : l[j]? = some y) (hj : j < k) : y ∈ l.take k := by
  refine List.mem_of_getElem? (i := j) ?_
  rw [List.getElem?_take, if_pos hj]; exact h
theorem uniq {l : List Cal} (h : (l.map (·.id)).Nodup) {i j : Nat} {x y : Cal} (hx : l[i]? = some x) (hy : l[j]? = some y) (he : x.id = y.id) : i = j := by
  obtain ⟨h1, e1⟩ := List.getElem?_eq_some_iff.1 hx
  obtain ⟨h2, e2⟩ := List.getElem?_eq_some_iff.1 hy
  rw [List.nodup_iff_pairwise_ne, List.pairwise_map, List.pairwise_iff_getElem] at h
  rcases Nat.lt_trichotomy i j with hlt | hlt | hlt
  · exact absurd he (by have := h i j h1 h2 hlt; rwa [e1, e2] at this)
  · exact hlt
  · exact absurd he.symm (by have := h j i h2 h1 hlt; rwa [e1, e2] at this)
theorem nd1 (h : DueS T T' L1 L2 now) : (L1.map (·.id)).Nodup := by
  have := h.nd; rw [List.map_append] at this; exact (List.nodup_append.1 this).1
theorem nd2 (h : DueS T T' L1 L2 now) : (L2.map (·.id)).Nodup := by
  have := h.nd; rw [List.map_append] at this; exact (List.nodup_append.1 this).2.1
theorem nd3 (h : DueS T T' L1 L2 now) {y z : Cal} (hy : y ∈ L1) (hz : z ∈ L2) : y.id ≠ z.id := by
  have := h.nd; rw [List.map_append] at this
  exact (List.nodup_append.1 this).2.2 _ (List.mem_map_of_mem hy) _ (List.mem_map_of_mem hz)
theorem Mid.start (h : EndsR T L R now) : Mid T L1 L2 now 0 0 L R :=
  ⟨h.lenL, h.lenR, fun i x hx => by
    obtain ⟨l, r, a, b, c⟩ := h.ent i x hx
    exact ⟨l, r, a, b, fun ⟨y, hy, _⟩ => by simp at hy, fun ⟨y, hy, _⟩ => by simp at hy, fun _ _ => c⟩⟩
theorem Mid.again_at (hS : DueS T T' L1 L2 now) (h : Mid T L1 L2 now k 0 L R) (hy : L1[k]? = some y) :
    ∃ (i g t : Nat), y.id = i + 1 ∧ i < T.length ∧ L[i]? = some (g : Int) ∧ R[i]? = some (t : Int) ∧ y.tries = t + 1 ∧ 1 ≤ t ∧ t < 4 ∧ g ≤ now ∧ g + waitN 3 20 (t - 1) ≤ now := by
  obtain ⟨i, x, hi, hx, h0, h4, hdue, ht, _, _⟩ := hS.ag y (List.mem_of_getElem? hy)
  obtain ⟨l, r, a, b, _, _, c⟩ := h.ent i x hx
  have hE := c (fun y' hy' e => by
    obtain ⟨j, hj, hj2⟩ := mem_take hy'
    have := uniq (nd1 hS) hj2 hy (by omega)
    omega) (fun z hz => by simp at hz)
  obtain ⟨g, rfl, h1, rfl, h2, _⟩ := hE.1 h0
  exact ⟨i, g, x.tries, hi, (List.getElem?_eq_some_iff.1 hx).1, a, b, ht, h0, h4, h1, by omega⟩
theorem Mid.again_set (hS : DueS T T' L1 L2 now) (h : Mid T L1 L2 now k 0 L R) (hy : L1[k]? = some y) {i t : Nat} (hi : y.id = i + 1) (ht : y.tries = t + 1) : Mid T L1 L2 now (k + 1) 0 (L.set i (now : Int)) (R.set i ((t : Int) + 1)) := by
  refine ⟨by rw [List.length_set]; exact h.lenL, by rw [List.length_set]; exact h.lenR, fun j x hx => ?_⟩
  have hlt := (List.getElem?_eq_some_iff.1 hx).1
  obtain ⟨l, r, a, b, c1, c2, c3⟩ := h.ent j x hx
  have htk : L1.take (k + 1) = L1.take k ++ [y] := by
    obtain ⟨h1, h2⟩ := List.getElem?_eq_some_iff.1 hy
    rw [List.take_succ_eq_append_getElem h1, h2]
  by_cases e : j = i
  · subst e
    obtain ⟨i', x', hi', hx', _, _, _, ht', _, _⟩ := hS.ag y (List.mem_of_getElem? hy)
    obtain rfl : i' = j := by omega
    rw [hx] at hx'
    injection hx' with hx'
    subst hx'
    refine ⟨now, (t : Int) + 1, List.getElem?_set_self (by rw [h.lenL]; exact hlt), List.getElem?_set_self (by rw [h.lenR]; exact hlt), fun _ => ⟨rfl, by omega⟩, fun ⟨z, hz, _⟩ => by simp at hz, fun hn _ => ?_⟩
    exact absurd hi (hn y (by rw [htk]; simp))
  · refine ⟨l, r, by rw [List.getElem?_set_ne (Ne.symm e)]; exact a, by rw [List.getElem?_set_ne (Ne.symm e)]; exact b, fun ⟨y', hy', he⟩ => ?_, c2, fun hn hm => c3 (fun y' hy' => hn y' (by rw [htk]; exact List.mem_append_left _ hy')) hm⟩
    rw [htk] at hy'
    rcases List.mem_append.1 hy' with hy' | hy'
    · exact c1 ⟨y', hy', he⟩
    · simp at hy'; subst hy'; omega
theorem Mid.over_at (hS : DueS T T' L1 L2 now) (h : Mid T L1 L2 now L1.length k L R) (hz : L2[k]? = some z) :
    ∃ (i g : Nat), z.id = i + 1 ∧ i < T.length ∧ L[i]? = some (g : Int) ∧ R[i]? = some 4 ∧ g ≤ now ∧ g + waitN 3 20 3 ≤ now := by
  obtain ⟨i, hi, hx, h0, h4, hdue, _⟩ := hS.ov z (List.mem_of_getElem? hz)
  obtain ⟨l, r, a, b, _, _, c⟩ := h.ent i z hx
  have hE := c (fun y' hy' e => nd3 hS (List.mem_of_mem_take hy') (List.mem_of_getElem? hz) (by omega)) (fun z' hz' e => by
    obtain ⟨j, hj, hj2⟩ := mem_take hz'
    have := uniq (nd2 hS) hj2 hz (by omega)
    omega)
  obtain ⟨g, rfl, h1, rfl, h2, h3⟩ := hE.1 h0
  have ht : z.tries = 4 := by omega
  rw [ht] at h2 b
  have h5 : z.due = g + waitN 3 20 3 := h2
  exact ⟨i, g, hi, (List.getElem?_eq_some_iff.1 hx).1, a, b, h1, by omega⟩
theorem Mid.over_set (hS : DueS T T' L1 L2 now) (h : Mid T L1 L2 now L1.length k L R) (hz : L2[k]? = some z) {i : Nat} (hi : z.id = i + 1) : Mid T L1 L2 now L1.length (k + 1) (L.set i (-1)) R := by
  refine ⟨by rw [List.length_set]; exact h.lenL, h.lenR, fun j x hx => ?_⟩
  have hlt := (List.getElem?_eq_some_iff.1 hx).1
  obtain ⟨l, r, a, b, c1, c2, c3⟩ := h.ent j x hx
  have htk : L2.take (k + 1) = L2.take k ++ [z] := by
    obtain ⟨h1, h2⟩ := List.getElem?_eq_some_iff.1 hz
    rw [List.take_succ_eq_append_getElem h1, h2]
  by_cases e : j = i
  · subst e
    refine ⟨-1, r, List.getElem?_set_self (by rw [h.lenL]; exact hlt), b, fun ⟨y', hy', he⟩ => ?_, fun _ => rfl, fun _ hn => ?_⟩
    · exact absurd (he.trans hi.symm) (nd3 hS (List.mem_of_mem_take hy') (List.mem_of_getElem? hz))
    · exact absurd hi (hn z (by rw [htk]; simp))
  · refine ⟨l, r, by rw [List.getElem?_set_ne (Ne.symm e)]; exact a, b, c1, fun ⟨z', hz', he⟩ => ?_, fun hm hn => c3 hm (fun z' hz' => hn z' (by rw [htk]; exact List.mem_append_left _ hz'))⟩
    rw [htk] at hz'
    rcases List.mem_append.1 hz' with hz' | hz'
    · exact c2 ⟨z', hz', he⟩
    · simp at hz'; subst hz'; omega
theorem Mid.done (hS : DueS T T' L1 L2 now) (h : Mid T L1 L2 now L1.length L2.length L R) : EndsR T' L R now := by
  refine ⟨by rw [hS.len]; exact h.lenL, by rw [hS.len]; exact h.lenR, fun i x' hx' => ?_⟩
  have hlt := (List.getElem?_eq_some_iff.1 hx').1
  rw [hS.len] at hlt
  obtain ⟨l, r, a, b, c1, c2, c3⟩ := h.ent i _ (List.getElem?_eq_getElem hlt)
  rw [List.take_length, List.take_length] at c3
  rw [List.take_length] at c1 c2
  refine ⟨l, r, a, b, ?_⟩
  have hTi := List.getElem?_eq_getElem hlt
  by_cases h1 : ∃ y ∈ L1, y.id = i + 1
  · obtain ⟨y, hy, he⟩ := h1
    obtain ⟨i', x, hi', hx, h0, h4, _, ht, hdue, hT'⟩ := hS.ag y hy
    obtain rfl : i' = i := by omega
    rw [hT'] at hx'
    injection hx' with hx'
    subst hx'
    rw [hTi] at hx
    injection hx with hx
    obtain ⟨rfl, rfl⟩ := c1 ⟨y, hy, he⟩
    rw [hx]
    exact ⟨fun _ => ⟨now, rfl, Nat.le_refl _, by omega, by rw [ht]; exact hdue, by omega⟩, fun h9 => by omega⟩
  · by_cases h2 : ∃ z ∈ L2, z.id = i + 1
    · obtain ⟨z, hz, he⟩ := h2
      obtain ⟨i', hi', hx, h0, h4, _, hT'⟩ := hS.ov z hz
      obtain rfl : i' = i := by omega
      rw [hT'] at hx'
      injection hx' with hx'
      subst hx'
      obtain rfl := c2 ⟨z, hz, he⟩
      exact ⟨fun h9 => by simp [Cal.ended] at h9, fun _ => rfl⟩
    · have hr := hS.rest i _ hTi (fun y hy e => h1 ⟨y, hy, e⟩) (fun z hz e => h2 ⟨z, hz, e⟩)
      rw [hr] at hx'
      injection hx' with hx'
      subst hx'
      exact c3 (fun y hy e => h1 ⟨y, hy, e⟩) (fun z hz e => h2 ⟨z, hz, e⟩)
theorem dueOf_S {T' L1 L2 : List Cal} (d : DueOf C4 T (now : Int) T' L1 L2) (hn : now ≤ 1099511627776) (hI : IdsO 0 T) : DueS T T' L1 L2 now := by
  rcases d with ⟨ht, _⟩ | ⟨m, l, hm, _, hp, _, rfl, rfl, rfl⟩
  · rw [timeB_iff.2 ⟨by omega, by omega⟩] at ht
    cases ht
  · obtain rfl : m = now := by omega
    exact dueS hI hp
end
end Go.Proofs.Ytjhdlohcjodgjaa
