/- A message's parts as they are written, one behind the other: what holds between two of them. How long a field's bytes may be (gen_flen.py). -/
import Derived.Test.YtngcbpgafjnfaaaGreatDoorLoB19
set_option linter.unusedSimpArgs false
set_option linter.unusedVariables false

namespace Go.Proofs.YtngcbpgafjnfaaaGreatDoor
open Go.RowKit
set_option linter.unusedVariables false

/-- a part as it was cut: a slice, its bytes -/
structure Cut where
  ao : Option Addr
  n : Nat
  cap : Nat
  l : List Nat
structure Cut.Ok (c : Cut) (gc : Nat) : Prop where
  len : c.l.length = c.n
  le : c.n ≤ c.cap
  max : c.cap ≤ maxLen
  lt : ∀ x ∈ c.l, x < 256
  at_ : ∀ x, x < c.l.length → ∃ g o, c.ao = some ⟨g, o, none⟩
  far : ∀ g o, c.ao = some ⟨g, o, none⟩ → gc < g
abbrev Cut.v (c : Cut) : Value := .slice c.ao c.n c.cap
/-- the cells of these parts -/
def CutC (L : List Cut) : Nat → Nat → Value → Prop := fun g j v => ∃ c ∈ L, ∃ o x, c.ao = some ⟨g, o, none⟩ ∧ j = o + x ∧ x < c.l.length ∧ v = u8v (bt c.l x)
theorem cut_rd {w : World} {gc : Nat} {f : ByteArray} {ao : Option Addr} {n cap : Nat} {l : List Nat} {L : List Cut} (h : CdAt w false gc ⟨0, CutC L⟩ f ao n cap l) {c : Cut} (hc : c ∈ L) (ok : c.Ok gc) : Rd w c.ao c.l := by
  refine ⟨ok.lt, fun x hx => ?_⟩
  obtain ⟨g, o, e⟩ := ok.at_ x hx
  have := h.st rfl g (o + x) (u8v (bt c.l x)) ⟨c, hc, o, x, e, rfl, hx, rfl⟩
  exact ⟨g, o, e, this.2.1, this.1⟩
/-- the field's name is laid -/
theorem CdAt.name {w : World} {gc : Nat} {sb : Src} {f : ByteArray} {ao : Option Addr} {n cap : Nat} {l : List Nat} {md : Bool} (h : CdAt w md gc sb f ao n cap l) (f' : ByteArray) (hb : md = true → sb.b ≠ gc) : CdAt (w.setCell ⟨gc, 2, none⟩ (.string f')) md gc sb f' ao n cap l := by
  have ks := Keep.setCell w ⟨gc, 2, none⟩ (.string f')
  refine ⟨(by rw [World.cell?_setCell_other _ _ _ _ (by simp)]; exact h.c0), (by rw [World.cell?_setCell_other _ _ _ _ (by simp)]; exact h.c1), World.cell?_setCell_same w _ _ h.c2, (by rw [World.frozen?_setCell]; exact h.f1), (by rw [World.frozen?_setCell]; exact h.f2), (by simpa [World.setCell] using h.lt), h.len, h.le, h.max,
    fun hm => ⟨(h.wr hm).1.keep ks (fun b hb hm2 => (h.wr hm).2 (by simp at hm2; exact hm2 ▸ hb)), (h.wr hm).2⟩, fun hm g j v hv => ?_, fun hm => ⟨(h.rd hm).1.keep ks (fun b hb2 hm2 => hb hm (by have := (h.rd hm).2.2 b hb2; simp at hm2; omega)), (h.rd hm).2⟩⟩
  obtain ⟨q1, q2, q3, q4⟩ := h.st hm g j v hv
  exact ⟨by rw [World.cell?_setCell_other _ _ _ _ (by intro e; cases e; exact q3 rfl)]; exact q1, by simpa [World.setCell] using q2, q3, q4⟩
theorem CdIs.name {w : World} {gc : Nat} {sb : Src} {f : ByteArray} {l : List Nat} {md : Bool} {P : Nat → Prop} (h : CdIs w md P gc sb f l) (f' : ByteArray) : CdIs (w.setCell ⟨gc, 2, none⟩ (.string f')) md P gc sb f' l := by
  obtain ⟨ao, n, cap, ha, hof⟩ := h
  exact ⟨ao, n, cap, ha.name f' (fun hm e => (hof.2 _ (hof.1 hm)).2.1 e), hof.1, fun b hb => ⟨by simpa [World.setCell] using (hof.2 b hb).1, (hof.2 b hb).2⟩⟩
/-- a store into a block that stays, where no part that was cut lies -/
theorem CdAt.beside {w : World} {gc g o : Nat} {sb : Src} {f : ByteArray} {ao : Option Addr} {n cap : Nat} {l : List Nat} (h : CdAt w false gc sb f ao n cap l) (hb : g ∉ blk ao) (hg : g ≠ gc) (hC : ∀ j v, ¬ sb.C g j v) (v : Value) : CdAt (w.setCell ⟨g, o, none⟩ v) false gc sb f ao n cap l := by
  have ks := Keep.setCell w ⟨g, o, none⟩ v
  have hne : ∀ j, (⟨g, o, none⟩ : Addr) ≠ ⟨gc, j, none⟩ := fun j e => hg (by cases e; rfl)
  refine ⟨(by rw [World.cell?_setCell_other _ _ _ _ (hne 0)]; exact h.c0), (by rw [World.cell?_setCell_other _ _ _ _ (hne 1)]; exact h.c1), (by rw [World.cell?_setCell_other _ _ _ _ (hne 2)]; exact h.c2), (by rw [World.frozen?_setCell]; exact h.f1), (by rw [World.frozen?_setCell]; exact h.f2), (by simpa [World.setCell] using h.lt), h.len, h.le, h.max,
    fun hm => ⟨(h.wr hm).1.keep ks (fun b hb2 hm2 => hb (by simp at hm2; exact hm2 ▸ hb2)), (h.wr hm).2⟩, fun hm g' j v' hv => ?_, (fun hm => by cases hm)⟩
  obtain ⟨q1, q2, q3, q4⟩ := h.st hm g' j v' hv
  exact ⟨by rw [World.cell?_setCell_other _ _ _ _ (by intro e; cases e; exact hC _ _ hv)]; exact q1, by simpa [World.setCell] using q2, q3, q4⟩

def zok (i : Nat) (m : Ms) : Bool := (fenc i m).all (· == 0)
/-- what is told as a fault -/
def badW (k : Nat) (m : Ms) (i : Nat) : Bool := !(fok i m && (decide (i ∈ all_ k) || zok i m))
abbrev encUpTo (m : Ms) (k : Nat) : List Nat := (List.range k).flatMap (fenc · m)
theorem encUpTo_succ (m : Ms) (k : Nat) : encUpTo m (k + 1) = encUpTo m k ++ fenc k m := by
  unfold encUpTo
  rw [List.range_succ, List.flatMap_append]; simp
/-- between two rounds -/
structure LoopW (m : Ms) (kd gP gc : Nat) (w0 : World) (k : Nat) (f : ByteArray) (L : List Cut) (w : World) : Prop where
  below : Below gP w0 w
  cd : CdIs w false (· < gc) gc ⟨0, CutC L⟩ f (encUpTo m k)
  len : L.length = k
  ok : ∀ c ∈ L, c.Ok gc
  bytes : ∀ i c, L[i]? = some c → c.l = fenc i m
  part : ∀ (i : Nat) c, L[i]? = some c → w.cell? ⟨gP, i, none⟩ = some c.v
  rest : ∀ i, k ≤ i → i < 22 → w.cell? ⟨gP, i, none⟩ = some (.slice none 0 0)
  fz : ∀ j, w.frozen? ⟨gP, j, none⟩ = false
section
variable {m : Ms} {kd gP gc k : Nat} {w0 w w1 w2 : World} {f f' : ByteArray} {L : List Cut}
/-- the world in which a part's function starts -/
theorem LoopW.enter (h : LoopW m kd gP gc w0 k f L w) (hPc : gP < gc) (ob : Obj) (f' : ByteArray) :
    CdIs ((w.setCell ⟨gc, 2, none⟩ (.string f')).alloc ob) false (· < gc) gc ⟨0, CutC L⟩ f' (encUpTo m k) ∧ Safe (· < gc) w ((w.setCell ⟨gc, 2, none⟩ (.string f')).alloc ob) := by
  have hlt := h.cd.lt
  have hlt2 : gc < (w.setCell ⟨gc, 2, none⟩ (.string f')).heap.size := by simpa [World.setCell] using hlt
  refine ⟨(h.cd.name f').alloc ob (fun b hb => .inl hb) (fun hm => by cases hm), ?_⟩
  have h1 : Safe (· < gc) w (w.setCell ⟨gc, 2, none⟩ (.string f')) := .of_keep (Keep.setCell _ ⟨gc, 2, none⟩ _) fun b hb => ⟨by omega, by simp; omega⟩
  exact h1.alloc (fun b hb => by omega) _
/-- the part is cut, and kept -/
theorem LoopW.next (h : LoopW m kd gP gc w0 k f L w) (hk : k < 22) (hPc : gP < gc) (hs1 : Safe (· < gc) w w1) {ao : Option Addr} {n cap : Nat} (ha : CdAt w1 false gc ⟨0, CutC L⟩ f' ao n cap (encUpTo m k ++ fenc k m)) (hof : OffC false w1 (· < gc) gc ⟨0, CutC L⟩ ao)
    (hw2 : w2 = w1.setCell ⟨gP, k, none⟩ (.slice (sh ao cap (encUpTo m k).length) (n - (encUpTo m k).length) (cap - (encUpTo m k).length))) :
    LoopW m kd gP gc w0 (k + 1) f' (L ++ [⟨sh ao cap (encUpTo m k).length, n - (encUpTo m k).length, cap - (encUpTo m k).length, fenc k m⟩]) w2 := by
  have hlen := ha.len
  have hle := ha.le
  have hmx := ha.max
  rw [List.length_append] at hlen
  generalize hn0 : (encUpTo m k).length = n0 at *
  have hown := (ha.wr rfl).1
  have hsh := hown.sh n0 (by omega)
  rw [List.drop_left' hn0] at hsh
  have hfar : ∀ b ∈ blk ao, gc < b := fun b hb => by
    have h1 : b ≠ gc := fun e => (ha.wr rfl).2 (e ▸ hb)
    have h2 : ¬ b < gc := fun hlt => (hof.2 b hlt).2.2 rfl hb
    omega
  have hcut : (⟨sh ao cap n0, n - n0, cap - n0, fenc k m⟩ : Cut).Ok gc := ⟨hsh.len, hsh.le, hsh.max, hsh.lt, fun x hx => by
    obtain ⟨g, o, e, _⟩ := hsh.rd.at_ x hx
    exact ⟨g, o, e⟩, fun g o e => hfar g (blk_sh ao cap n0 g (by rw [show sh ao cap n0 = some ⟨g, o, none⟩ from e]; simp [blk]))⟩
  have ha2 : CdAt w1 false gc ⟨0, CutC (L ++ [⟨sh ao cap n0, n - n0, cap - n0, fenc k m⟩])⟩ f' ao n cap (encUpTo m k ++ fenc k m) := by
    refine ⟨ha.c0, ha.c1, ha.c2, ha.f1, ha.f2, ha.lt, ha.len, ha.le, ha.max, ha.wr, fun hm g j v hv => ?_, (fun hm => by cases hm)⟩
    obtain ⟨c, hc, o, x, e, hj, hx, hv⟩ := hv
    rcases List.mem_append.1 hc with hc | hc
    · exact ha.st rfl g j v ⟨c, hc, o, x, e, hj, hx, hv⟩
    · obtain rfl : c = _ := List.mem_singleton.1 hc
      obtain ⟨g', o', e', hg', hcell⟩ := hsh.rd.at_ x hx
      have e : sh ao cap n0 = some ⟨g, o, none⟩ := e
      rw [e] at e'
      cases e'
      subst hj hv
      have hgb := blk_sh ao cap n0 g (by rw [e]; simp [blk])
      refine ⟨hcell, hg', by have := hfar g hgb; omega, fun o2 e2 => ?_⟩
      unfold sh at e
      have hx : x < (fenc k m).length := hx
      split at e
      · rename_i hcap
        rw [e2] at e; cases e; omega
      · rw [e2, Option.map_some, Addr.add_lit] at e
        cases e; omega
  have hC : ∀ j v, ¬ (⟨0, CutC (L ++ [⟨sh ao cap n0, n - n0, cap - n0, fenc k m⟩])⟩ : Src).C gP j v := fun j v hv => by
    obtain ⟨c, hc, o, x, e, _⟩ := hv
    rcases List.mem_append.1 hc with hc | hc
    · have := (h.ok c hc).far gP o e; omega
    · obtain rfl : c = _ := List.mem_singleton.1 hc
      have := hcut.far gP o e; omega
  have hgPb : gP ∉ blk ao := fun hb => by have := hfar gP hb; omega
  have hcell : ∀ j, w1.cell? ⟨gP, j, none⟩ = w.cell? ⟨gP, j, none⟩ := fun j => hs1.cell (a := ⟨gP, j, none⟩) hPc
  have hltw := h.cd.lt
  subst hw2
  refine ⟨?_, ?_, by simp [h.len], ?_, ?_, ?_, ?_, ?_⟩
  · exact (h.below.trans (hs1.mono (Q := (· < gP)) (fun b hb => Nat.lt_trans hb hPc)).below).setCell (Nat.le_refl _) _
  · rw [encUpTo_succ]
    exact ⟨ao, n, cap, ha2.beside hgPb (by omega) hC _, (fun hm => by cases hm), fun b hb => ⟨by simpa [World.setCell] using (hof.2 b hb).1, (hof.2 b hb).2⟩⟩
  · intro c hc
    rcases List.mem_append.1 hc with hc | hc
    · exact h.ok c hc
    · obtain rfl : c = _ := List.mem_singleton.1 hc
      exact hcut
  · intro i c hi
    by_cases hik : i < L.length
    · rw [List.getElem?_append_left hik] at hi
      exact h.bytes i c hi
    · rw [List.getElem?_append_right (by omega)] at hi
      have hi0 : i - L.length = 0 := by have := (List.getElem?_eq_some_iff.1 hi).1; simp at this; omega
      rw [hi0] at hi
      obtain rfl : _ = c := Option.some.inj hi
      have : i = k := by have := h.len; omega
      subst this
      rfl
  · intro i c hi
    by_cases hik : i < L.length
    · rw [List.getElem?_append_left hik] at hi
      have := h.len
      rw [World.cell?_setCell_other _ _ _ _ (by intro e; cases e; omega), hcell]
      exact h.part i c hi
    · rw [List.getElem?_append_right (by omega)] at hi
      have hi0 : i - L.length = 0 := by have := (List.getElem?_eq_some_iff.1 hi).1; simp at this; omega
      rw [hi0] at hi
      obtain rfl : _ = c := Option.some.inj hi
      have : i = k := by have := h.len; omega
      subst this
      exact World.cell?_setCell_same w1 ⟨gP, i, none⟩ _ (show _ = some (Value.slice none 0 0) from (hcell i).trans (h.rest i (Nat.le_refl _) hk))
  · intro i hi hi2
    rw [World.cell?_setCell_other _ _ _ _ (by intro e; cases e; omega), hcell]
    exact h.rest i (by omega) hi2
  · intro j
    rw [World.frozen?_setCell]
    exact (World.frozen?_of_block (a := ⟨gP, j, none⟩) (hs1.block gP hPc)).trans (h.fz j)
end
end Go.Proofs.YtngcbpgafjnfaaaGreatDoor


namespace Go.Proofs.YtngcbpgafjnfaaaGreatDoor
set_option linter.unusedVariables false
theorem fenc_len (k : Nat) (hk : k < 22) (m : Ms) (h : fok k m = true) : (fenc k m).length ≤ 30000000 := by
  rcases fd_cases hk with rfl | rfl | rfl | rfl | rfl | rfl | rfl | rfl | rfl | rfl | rfl | rfl | rfl | rfl | rfl | rfl | rfl | rfl | rfl | rfl | rfl | rfl
  · exact Nat.le_trans (((intK_okay (size := 1) (most := 255) (by decide) (by decide))).len _ h) (by decide)
  · exact Nat.le_trans (((intK_okay (size := 1) (most := 255) (by decide) (by decide))).len _ h) (by decide)
  · exact Nat.le_trans ((insK_okay).len _ h) (by decide)
  · exact Nat.le_trans ((balK_okay).len _ h) (by decide)
  · exact Nat.le_trans ((accK_okay).len _ h) (by decide)
  · exact Nat.le_trans (((textK_okay (max := 64) (by decide))).len _ h) (by decide)
  · exact Nat.le_trans ((txK_okay).len _ h) (by decide)
  · exact Nat.le_trans (((natK_okay (kd := .u64) (size := 8) (most := 18446744073709551615) (by decide) (by decide))).len _ h) (by decide)
  · exact Nat.le_trans (((natK_okay (kd := .u32) (size := 4) (most := 4294967295) (by decide) (by decide))).len _ h) (by decide)
  · exact Nat.le_trans (((natK_okay (kd := .u32) (size := 4) (most := 4294967295) (by decide) (by decide))).len _ h) (by decide)
  · exact Nat.le_trans (((intK_okay (size := 1) (most := 63) (by decide) (by decide))).len _ h) (by decide)
  · exact Nat.le_trans (((intK_okay (size := 1) (most := 3) (by decide) (by decide))).len _ h) (by decide)
  · exact Nat.le_trans (((intK_okay (size := 1) (most := 3) (by decide) (by decide))).len _ h) (by decide)
  · exact Nat.le_trans (((natK_okay (kd := .u32) (size := 4) (most := 4294967295) (by decide) (by decide))).len _ h) (by decide)
  · exact Nat.le_trans (((intK_okay (size := 1) (most := 2) (by decide) (by decide))).len _ h) (by decide)
  · exact Nat.le_trans ((ansK_okay).len _ h) (by decide)
  · exact Nat.le_trans ((cpyK_okay).len _ h) (by decide)
  · exact Nat.le_trans ((arcK_okay).len _ h) (by decide)
  · exact Nat.le_trans (((listK_okay cpyK_okay (max := 64) (by decide))).len _ h) (by decide)
  · exact Nat.le_trans ((posK_okay).len _ h) (by decide)
  · exact Nat.le_trans (((intK_okay (size := 1) (most := 255) (by decide) (by decide))).len _ h) (by decide)
  · exact Nat.le_trans (((listK_okay perK_okay (max := 12) (by decide))).len _ h) (by decide)
theorem encUpTo_len (m : Ms) : ∀ k, k ≤ 22 → (∀ i, i < k → fok i m = true) → (encUpTo m k).length ≤ k * 30000000
  | 0, _, _ => by simp [encUpTo]
  | k + 1, hk, h => by
    have h1 := encUpTo_len m k (by omega) (fun i hi => h i (by omega))
    have h2 := fenc_len k (by omega) m (h k (by omega))
    rw [encUpTo_succ, List.length_append]
    omega
theorem fok_of {k : Nat} {m : Ms} {i : Nat} (h : badW k m i = false) : fok i m = true := by
  unfold badW at h
  simp at h
  exact h.1
/-- how a message is written; or the error, and of what -/
def bodyW (m : Ms) : Except (Nat × ByteArray) (List Nat) :=
  if m.kind < 1 ∨ 23 < m.kind then .error (41, ⟨#[107, 105, 110, 100]⟩) else
  match (List.range 22).find? (badW m.kind.toNat m) with
  | some i => .error (42, nameB i)
  | none => .ok (bodyOf m)
theorem find_bad {p : Nat → Bool} {n k : Nat} (hk : k < n) (hb : p k = true) (hg : ∀ i, i < k → p i = false) : (List.range n).find? p = some k := by
  rw [List.find?_range_eq_some]
  exact ⟨hb, List.mem_range.2 hk, fun i hi => by simp [hg i hi]⟩
theorem find_good {p : Nat → Bool} {n : Nat} (hg : ∀ i, i < n → p i = false) : (List.range n).find? p = none := by
  rw [List.find?_eq_none]
  intro i hi
  simp [hg i (List.mem_range.1 hi)]
end Go.Proofs.YtngcbpgafjnfaaaGreatDoor
