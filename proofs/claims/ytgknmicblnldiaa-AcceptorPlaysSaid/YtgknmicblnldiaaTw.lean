/- Both tables side by side. -/
import Derived.Test.YtgknmicblnldiaaRg
namespace Go.Proofs.Ytgknmicblnldiaa
open Go.RowKit Go.Sort
set_option linter.unusedVariables false

structure TwM (W0 w : World) (hA gA most n : Nat) (f : Fn) (hb : Nat) (Bs : List Nat) (S : List En) : Prop where
  ta : TabW w W0.heap.size hA gA most n f
  rf : Rf w W0.heap.size hb Bs S most
  ap : hA ∉ Bs ∧ gA ∉ Bs
  bel : Below W0.heap.size W0 w
/-- both alike -/
def Tw (W0 w : World) (hA gA most hb : Nat) (S : List En) : Prop := ∃ Bs, TwM W0 w hA gA most S.length (look S) hb Bs S
section
variable {W0 w w' : World} {hA gA most n n' hb : Nat} {f f' : Fn} {Bs Bs' : List Nat} {S S' : List En}
theorem TwM.le (h : TwM W0 w hA gA most n f hb Bs S) : W0.heap.size ≤ w.heap.size := h.bel.size
theorem TwM.below (h : TwM W0 w hA gA most n f hb Bs S) (b : Below w.heap.size w w') : TwM W0 w' hA gA most n f hb Bs S :=
  ⟨h.ta.below b, h.rf.below b, h.ap, h.bel.trans (b.mono h.bel.size)⟩
theorem TwM.turnA (h : TwM W0 w hA gA most n f hb Bs S) (t : TabW w' W0.heap.size hA gA most n' f') (k : Keep [gA] w w') : TwM W0 w' hA gA most n' f' hb Bs S :=
  ⟨t, h.rf.keep k (fun q hq hm => by simp at hm; exact h.ap.2 (hm ▸ hq)), h.ap, h.bel.trans (k.below h.bel.size (by simpa using h.ta.gbase))⟩
theorem TwM.turnC (h : TwM W0 w hA gA most n f hb Bs S) (t : Rf w' W0.heap.size hb Bs' S' most) (k : Turned Bs Bs' w w') : TwM W0 w' hA gA most n f hb Bs' S' :=
  ⟨h.ta.keep k.keep h.ap.1 h.ap.2, t, ⟨fun hm => by
    rcases k.new _ hm with h1 | h1
    · exact h.ap.1 h1
    · have := h.ta.hlt; omega, fun hm => by
    rcases k.new _ hm with h1 | h1
    · exact h.ap.2 h1
    · have := h.ta.map.lt; omega⟩, h.bel.trans (k.keep.below h.bel.size fun q hq => (h.rf.blocks q hq).1)⟩
/-- a block that lies behind the turned ones keeps its row -/
theorem TwM.far (h : TwM W0 w hA gA most n f hb Bs S) (k : Turned Bs Bs' w w') {q : Nat} {o : Obj} (ho : w.heap[q]? = some o) (hq : q ∉ Bs) : w'.heap[q]? = some o := row_keep ho k.keep hq

theorem rowS_some {S : List En} {i : In} {r : Rw} (h : look S i = some r) : rowS S i = S := by unfold rowS; rw [h]; rfl
theorem rowS_none {S : List En} {i : In} (h : look S i = none) : rowS S i = S ++ [⟨i, r0⟩] := by unfold rowS; rw [h]; rfl
theorem look_rowS {S : List En} {i k : In} (h : k ≠ i) : look (rowS S i) k = look S k := by
  unfold rowS
  split
  · rfl
  · rename_i hn
    have hl : look S i = none := by simpa using hn
    rw [look_app hl, if_neg h]
theorem len_rowS {S : List En} {i : In} (v : Rw) : (rowS S i).length = putN (look S) S.length i (some v) := by
  unfold rowS putN
  split
  · rfl
  · simp
/-- how the list and its length turn -/
theorem set_is {S : List En} {i : In} {j : Nat} {r v : Rw} (hj : (rowS S i)[j]? = some ⟨i, r⟩) (h1 : One (rowS S i)) :
    ((rowS S i).set j ⟨i, v⟩).length = putN (look S) S.length i (some v) ∧ look ((rowS S i).set j ⟨i, v⟩) = put (look S) i (some v) := by
  refine ⟨by rw [List.length_set, len_rowS v], ?_⟩
  funext k
  have := look_set h1 hj v k
  simp only at this
  rw [this]
  show _ = upd (look S) i (some v) k
  unfold upd
  split
  · rfl
  · rename_i hk; exact look_rowS hk
theorem stt_low {S : List En} {i : In} {r : Rw} {m : Nat} {b : Bl} (hs : stt (look S i) S.length m = some r) (h1 : 0 ≤ b.round) (h2 : 0 ≤ b.node) (hl : low b r.p = true) : ∃ q, look S i = some q := by
  unfold stt at hs
  cases hk : look S i with
  | some q => exact ⟨q, rfl⟩
  | none =>
    rw [hk] at hs
    simp only at hs
    split at hs
    · cases hs
      rw [low_zero h1 h2] at hl; cases hl
    · cases hs
theorem rprepare_any {B : Nat} (i : In) (b : Bl) (h1 : 0 ≤ b.round) (h2 : 0 ≤ b.node) (w : World) (hB : B ≤ w.heap.size) (h : Rf w B hb Bs S most) :
    Calls Try.prog 18 #[.pointer (some ⟨hb, 0, none⟩), i.ag, b.ag] w fun e w' => e = .returned (.tuple #[(prR (stt (look S i) S.length most) b).a.ag, (prR (stt (look S i) S.length most) b).p.ag, .bool (prR (stt (look S i) S.length most) b).ok, .int .i64 (prR (stt (look S i) S.length most) b).e]) ∧
      ∃ S2 Bs', Rf w' B hb Bs' S2 most ∧ Turned Bs Bs' w w' ∧ S2.length = putN (look S) S.length i (prO (stt (look S i) S.length most) b) ∧ look S2 = put (look S) i (prO (stt (look S i) S.length most) b) := by
  cases hs : stt (look S i) S.length most with
  | none => exact (rprepare_no i b w hB h hs).mono fun e w' ⟨h3, Bs', h4, h5⟩ => ⟨h3, S, Bs', h4, h5, rfl, rfl⟩
  | some r =>
    unfold prR prO
    simp only
    cases hl : low b r.p
    · exact (rprepare_yes i b w hB h hs hl).mono fun e w' ⟨h3, j, S', Bs', h4, h5, h6, h7, h8⟩ => by
        subst h5
        obtain ⟨h9, h10⟩ := set_is (v := ⟨b, r.a⟩) h4 h6
        exact ⟨h3, _, Bs', h7, h8, h9, h10⟩
    · obtain ⟨q, hq⟩ := stt_low hs h1 h2 hl
      have hr := rprepare_low i b w hB h hs hl
      rw [rowS_some hq] at hr
      exact hr.mono fun e w' ⟨h3, Bs', h4, h5⟩ => ⟨h3, S, Bs', h4, h5, rfl, rfl⟩
theorem raccept_any {B : Nat} (i : In) (b : Bl) (v : ByteArray) (h1 : 0 ≤ b.round) (h2 : 0 ≤ b.node) (w : World) (hB : B ≤ w.heap.size) (h : Rf w B hb Bs S most) :
    Calls Try.prog 19 #[.pointer (some ⟨hb, 0, none⟩), i.ag, b.ag, .string v] w fun e w' => e = .returned (.tuple #[(acR (stt (look S i) S.length most) b).p.ag, .bool (acR (stt (look S i) S.length most) b).ok, .int .i64 (acR (stt (look S i) S.length most) b).e]) ∧
      ∃ S2 Bs', Rf w' B hb Bs' S2 most ∧ Turned Bs Bs' w w' ∧ S2.length = putN (look S) S.length i (acO (stt (look S i) S.length most) b v) ∧ look S2 = put (look S) i (acO (stt (look S i) S.length most) b v) := by
  cases hs : stt (look S i) S.length most with
  | none => exact (raccept_no i b v w hB h hs).mono fun e w' ⟨h3, Bs', h4, h5⟩ => ⟨h3, S, Bs', h4, h5, rfl, rfl⟩
  | some r =>
    unfold acR acO
    simp only
    cases hl : low b r.p
    · exact (raccept_yes i b v w hB h hs hl).mono fun e w' ⟨h3, j, S', Bs', h4, h5, h6, h7, h8⟩ => by
        subst h5
        obtain ⟨h9, h10⟩ := set_is (v := ⟨b, ⟨true, b, v⟩⟩) h4 h6
        exact ⟨h3, _, Bs', h7, h8, h9, h10⟩
    · obtain ⟨q, hq⟩ := stt_low hs h1 h2 hl
      have hr := raccept_low i b v w hB h hs hl
      rw [rowS_some hq] at hr
      exact hr.mono fun e w' ⟨h3, Bs', h4, h5⟩ => ⟨h3, S, Bs', h4, h5, rfl, rfl⟩
theorem rforget_any {B : Nat} (i : In) (w : World) (hB : B ≤ w.heap.size) (h : Rf w B hb Bs S most) :
    Calls Try.prog 21 #[.pointer (some ⟨hb, 0, none⟩), i.ag] w fun e w' => e = .returned (.int .i64 (fE (look S i))) ∧
      ∃ S2 Bs', Rf w' B hb Bs' S2 most ∧ Turned Bs Bs' w w' ∧ S2.length = woN (look S) S.length i ∧ look S2 = Ytgknmicblnldiaa.wo (look S) i := by
  unfold woN Ytgknmicblnldiaa.wo
  cases hl : look S i with
  | none => exact (rforget_no i w h hl).mono fun e w' ⟨h3, h4⟩ => ⟨h3, S, Bs, h.below h4, Turned.below h4, rfl, rfl⟩
  | some r =>
    exact (rforget_yes i w hB h hl).mono fun e w' ⟨h3, j, e2, Bs', h4, h5, h6, h7, h8⟩ => by
      have hjl := (List.getElem?_eq_some_iff.1 h4).1
      refine ⟨h3, _, Bs', h7, h8, ?_, ?_⟩
      · simp only [List.length_append, List.length_take, List.length_drop]; omega
      · funext k
        rw [look_cut h6 h4, h5]; rfl
end
end Go.Proofs.Ytgknmicblnldiaa
