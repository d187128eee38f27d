/- pick; what each call answers and leaves, whatever comes. -/
import Derived.Test.YtgfalpiifgoonaaArg
namespace Go.Proofs.Ytgfalpiifgoonaa
open Go.RowKit Go.Sort
set_option linter.unusedVariables false
set_option linter.unusedSectionVars false
set_option linter.unusedSimpArgs false
set_option maxRecDepth 100000

/-- which of n things -/
def pk (c : Int) (n : Nat) : Nat := (if c < 0 then -(c + 1) else c).toNat % n
theorem pk_lt (c : Int) {n : Nat} (h : 1 ≤ n) : pk c n < n := Nat.mod_lt _ h
set_option maxHeartbeats 400000 in
theorem pick_any (c : Int) (hc : (Lit.int .i64 c).wf = true) (n : Nat) (h1 : 1 ≤ n) (h2 : n ≤ 4611686018427387904) (w : World) : Calls Try.prog 20 #[.int .i64 c, .int .i64 (n : Int)] w fun e w' => e = .returned (.int .i64 (pk c n : Int)) ∧ w = w' := by
  have hb : -9223372036854775808 ≤ c ∧ c ≤ 9223372036854775807 := by
    simp [Lit.wf, IntKind.min, IntKind.max, IntKind.signed, IntKind.bits] at hc
    omega
  obtain ⟨hb1, hb2⟩ := hb
  have hn1 : (1 : Int) ≤ (n : Int) := by omega
  have hn2 : (n : Int) ≤ 4611686018427387904 := by omega
  have hn0 : ¬ (n : Int) = 0 := by omega
  by_cases h : c < 0
  · have e1 : -(c + 1) ≥ 0 := by omega
    have e : ((pk c n : Nat) : Int) = (-(c + 1)).tmod (n : Int) := by
      unfold pk
      rw [if_pos h, Int.natCast_emod, Int.toNat_of_nonneg e1, Int.tmod_eq_emod_of_nonneg e1]
    have hr := Int.tmod_lt_of_pos (-(c + 1)) (show (0 : Int) < n by omega)
    have hr0 := Int.tmod_nonneg (n : Int) e1
    have HE := Lib.hid e
    clear hc h1 h2 e e1
    have k1 : -(c + 1) ≤ 9223372036854775807 := by omega
    have k2 : 0 ≤ -(c + 1) := by omega
    go_enter Try.func20, Try.ntmps20
    go_wp2_with fail
    go_ret
    exact ⟨ret_int (by rw [HE.out, Int.neg_tmod]), rfl⟩
  · have e1 : c ≥ 0 := by omega
    have e : ((pk c n : Nat) : Int) = c.tmod (n : Int) := by
      unfold pk
      rw [if_neg h, Int.natCast_emod, Int.toNat_of_nonneg e1, Int.tmod_eq_emod_of_nonneg e1]
    have hr := Int.tmod_lt_of_pos c (show (0 : Int) < n by omega)
    have hr0 := Int.tmod_nonneg (n : Int) e1
    have HE := Lib.hid e
    have k2 : 0 ≤ c := e1
    clear hc h1 h2 e e1
    go_enter Try.func20, Try.ntmps20
    go_wp2_with fail
    go_ret
    exact ⟨ret_int (by rw [HE.out]; first | rfl | (rw [Int.tmod_eq_emod_of_nonneg k2])), rfl⟩

/-- a learner -/
structure Lst where
  last : List Ac
  ch : Ac
structure LR where
  s : Lst
  v : ByteArray
  ok : Bool
abbrev nov : ByteArray := ⟨#[]⟩
def accL (n : Nat) (s : Lst) (fr : Int) (b : Bl) (v : ByteArray) : LR :=
  if s.ch.is = true ∨ fr < 0 ∨ (n : Int) ≤ fr then ⟨s, nov, false⟩
  else match s.last[fr.toNat]? with
    | none => ⟨s, nov, false⟩
    | some old => if (old.is && !(low old.b b)) = true then ⟨s, nov, false⟩
      else if n < 2 * occ (s.last.set fr.toNat ⟨true, b, v⟩) ⟨true, b, v⟩ then ⟨⟨none9, ⟨true, b, v⟩⟩, v, true⟩ else ⟨⟨s.last.set fr.toNat ⟨true, b, v⟩, a0⟩, nov, false⟩
/-- nothing chosen, or something -/
def Lst.Fit (s : Lst) : Prop := s.ch = a0 ∨ s.ch.is = true
theorem accL_fit {n : Nat} {s : Lst} {fr : Int} {b : Bl} {v : ByteArray} (h : s.Fit) : (accL n s fr b v).s.Fit := by
  unfold accL
  split
  · exact h
  · split
    · exact h
    · split
      · exact h
      · split
        · exact .inr rfl
        · exact .inl rfl
section
variable {w w' : World} {B ln gm hn node n c : Nat} {s : Lst} {bal b : Bl} {S : Nat → Bool} {best a : Ac} {v : ByteArray}
abbrev Ln (w : World) (B ln gm n : Nat) (s : Lst) (c : Nat) : Prop := LnW w B ln gm n s.last s.ch c
theorem accepted_any (fr : Int) (hf : s.Fit) (hbo : b.Ok) (hv : v.size ≤ 281474976710656) (hc : c < 100000) (w : World) (h : Ln w B ln gm n s c) :
    Calls Try.prog 16 #[.pointer (some ⟨ln, 0, none⟩), .int .i64 fr, b.ag, .string v] w fun e w' =>
      e = .returned (.tuple #[.string (accL n s fr b v).v, .bool (accL n s fr b v).ok]) ∧ Ln w' B ln gm n (accL n s fr b v).s (c + 1) ∧ Keep [ln, gm] w w' := by
  by_cases h1 : s.ch.is = true ∨ fr < 0 ∨ (n : Int) ≤ fr
  · have e : accL n s fr b v = ⟨s, nov, false⟩ := by unfold accL; rw [if_pos h1]
    rw [e]
    exact (accepted_no fr h1 w h).mono fun e w' ⟨h2, h3⟩ => ⟨h2, (h.below h3).more (by omega), Keep.of_below h3 _⟩
  · have hch : s.ch.is = false := by
      cases hq : s.ch.is
      · rfl
      · exact absurd (.inl hq) h1
    have hcz : s.ch = a0 := by
      rcases hf with h2 | h2
      · exact h2
      · rw [hch] at h2; cases h2
    obtain ⟨k, rfl⟩ : ∃ k : Nat, fr = (k : Int) := ⟨fr.toNat, by omega⟩
    have hk : k < n := by omega
    have hl : k < s.last.length := by have := h.row.2; have := h.n9; omega
    have hold : s.last[k]? = some s.last[k] := List.getElem?_eq_getElem hl
    have e : accL n s (k : Int) b v = if (s.last[k].is && !(low s.last[k].b b)) = true then ⟨s, nov, false⟩
      else if n < 2 * occ (s.last.set k ⟨true, b, v⟩) ⟨true, b, v⟩ then ⟨⟨none9, ⟨true, b, v⟩⟩, v, true⟩ else ⟨⟨s.last.set k ⟨true, b, v⟩, a0⟩, nov, false⟩ := by
      unfold accL
      rw [if_neg h1]
      simp only [Int.toNat_natCast, hold]
    rw [e]
    by_cases h2 : (s.last[k].is && !(low s.last[k].b b)) = true
    · rw [if_pos h2]
      simp only [Bool.and_eq_true, Bool.not_eq_true'] at h2
      exact (accepted_old k hk hold hch h2.1 h2.2 w h).mono fun e w' ⟨h3, h4⟩ => ⟨h3, (h.below h4).more (by omega), Keep.of_below h4 _⟩
    · rw [if_neg h2]
      have how : s.last[k].is = false ∨ low s.last[k].b b = true := by
        cases hq : s.last[k].is
        · exact .inl rfl
        · rw [hq] at h2
          exact .inr (by simpa using h2)
      refine (accepted_go k hk hold hch how hbo hv hc w h hcz).mono fun e w' ⟨h3, h4⟩ => ?_
      by_cases h5 : n < 2 * occ (s.last.set k ⟨true, b, v⟩) ⟨true, b, v⟩
      · rw [if_pos h5] at h4 ⊢
        exact ⟨h4.1, h4.2, h3⟩
      · rw [if_neg h5] at h4 ⊢
        exact ⟨h4.1, h4.2, h3⟩
/-! ### the proposer -/
structure Pst where
  bal : Bl
  S : Nat → Bool
  best : Ac
structure PR where
  s : Pst
  v : ByteArray
  ok : Bool
abbrev Pr (w : World) (B hn gm node n : Nat) (s : Pst) : Prop := PrW w B hn gm node n s.bal s.S s.best
def prmP (n : Nat) (s : Pst) (fr : Int) (b : Bl) (a : Ac) : PR :=
  if b = s.bal ∧ 0 ≤ fr ∧ fr < n ∧ s.S fr.toNat = true then
    (if n < 2 * (n - cnt n (wout s.S fr.toNat)) then ⟨⟨s.bal, noS, wg s.best a⟩, (wg s.best a).v, true⟩ else ⟨⟨s.bal, wout s.S fr.toNat, wg s.best a⟩, nov, false⟩)
  else ⟨s, nov, false⟩
theorem promise_any {s : Pst} (fr : Int) (hfr : (Lit.int .i64 fr).wf = true) (hbo : b.Ok) (hav : a.v.size ≤ 281474976710656) (w : World) (h : Pr w B hn gm node n s) :
    Calls Try.prog 14 #[.pointer (some ⟨hn, 0, none⟩), .int .i64 fr, b.ag, a.ag] w fun e w' =>
      e = .returned (.tuple #[.string (prmP n s fr b a).v, .bool (prmP n s fr b a).ok]) ∧ Pr w' B hn gm node n (prmP n s fr b a).s ∧ Keep [hn, gm] w w' := by
  by_cases h1 : b = s.bal ∧ 0 ≤ fr ∧ fr < n ∧ s.S fr.toNat = true
  · have e : prmP n s fr b a = if n < 2 * (n - cnt n (wout s.S fr.toNat)) then ⟨⟨s.bal, noS, wg s.best a⟩, (wg s.best a).v, true⟩ else ⟨⟨s.bal, wout s.S fr.toNat, wg s.best a⟩, nov, false⟩ := by
      unfold prmP; rw [if_pos h1]
    obtain ⟨rfl, h2, h3, h4⟩ := h1
    obtain ⟨k, rfl⟩ : ∃ k : Nat, fr = (k : Int) := ⟨fr.toNat, by omega⟩
    rw [Int.toNat_natCast] at h4 e
    rw [e]
    by_cases h5 : n < 2 * (n - cnt n (wout s.S k))
    · rw [if_pos h5]
      exact promise_done k (by omega) h4 hav w h h5
    · rw [if_neg h5]
      exact promise_more k (by omega) h4 hav w h h5
  · have e : prmP n s fr b a = ⟨s, nov, false⟩ := by unfold prmP; rw [if_neg h1]
    rw [e]
    have hm : aw n s.bal s.S ⟨fr, b⟩ = none := by
      unfold aw
      rw [if_neg h1]
    exact (promise_miss fr hfr hbo w h hm).mono fun e w' ⟨h2, h3⟩ => ⟨h2, h.below h3, Keep.of_below h3 _⟩
structure BR where
  s : Pst
  b : Bl
  e : Int
def begP (node : Nat) (s : Pst) (r : Int) (v : ByteArray) : BR :=
  if r = 0 then ⟨s, b0, 1⟩ else if r ≤ s.bal.round then ⟨s, b0, 111⟩ else ⟨⟨⟨r, node⟩, allS, ⟨false, b0, v⟩⟩, ⟨r, node⟩, 0⟩
theorem begin_any {s : Pst} (r : Int) (hr : (Lit.int .u32 r).wf = true) (hv : v.size ≤ 281474976710656) (w : World) (h : Pr w B hn gm node n s) :
    Calls Try.prog 12 #[.pointer (some ⟨hn, 0, none⟩), .int .u32 r, .string v] w fun e w' =>
      e = .returned (.tuple #[(begP node s r v).b.ag, .int .i64 (begP node s r v).e]) ∧ Pr w' B hn gm node n (begP node s r v).s ∧ Keep [hn, gm] w w' := by
  by_cases h0 : r = 0
  · have e : begP node s r v = ⟨s, b0, 1⟩ := by unfold begP; rw [if_pos h0]
    rw [e, h0]
    exact (begin_arg v w h).mono fun e w' ⟨h2, h3⟩ => ⟨h2, h.below h3, Keep.of_below h3 _⟩
  · have hp : 0 < r := by
      simp [Lit.wf, IntKind.min, IntKind.max, IntKind.signed, IntKind.bits] at hr
      omega
    by_cases h1 : r ≤ s.bal.round
    · have e : begP node s r v = ⟨s, b0, 111⟩ := by unfold begP; rw [if_neg h0, if_pos h1]
      rw [e]
      exact (begin_state r hp h1 v w h).mono fun e w' ⟨h2, h3⟩ => ⟨h2, h.below h3, Keep.of_below h3 _⟩
    · have e : begP node s r v = ⟨⟨⟨r, node⟩, allS, ⟨false, b0, v⟩⟩, ⟨r, node⟩, 0⟩ := by unfold begP; rw [if_neg h0, if_neg h1]
      rw [e]
      exact begin_ok r hp hr (by omega) v hv w h
/-! ### a script as a function -/
theorem OpsRd.fn {W : World} {ao : Option Addr} {len : Nat} (h : OpsRd W ao len) : ∃ sc : Nat → Opn, ∀ k, k < len → ∃ g o, ao = some ⟨g, o, none⟩ ∧ (sc k).Ok ∧ g < W.heap.size ∧ AtE W g o 11 k (cO (sc k)) := by
  refine ⟨fun k => if hk : k < len then Classical.choose (Classical.choose_spec (Classical.choose_spec (h k hk))) else ⟨0, 0, 0, b0, false, a0, nov⟩, fun k hk => ?_⟩
  have := Classical.choose_spec (Classical.choose_spec (Classical.choose_spec (h k hk)))
  refine ⟨_, _, this.1, ?_⟩
  simp only [dif_pos hk]
  exact this.2
theorem TosRd.fn {W : World} {ao : Option Addr} {len : Nat} (h : TosRd W ao len) : ∃ sc : Nat → Tld, ∀ k, k < len → ∃ g o, ao = some ⟨g, o, none⟩ ∧ (sc k).Ok ∧ g < W.heap.size ∧ AtE W g o 5 k (cT (sc k)) := by
  refine ⟨fun k => if hk : k < len then Classical.choose (Classical.choose_spec (Classical.choose_spec (h k hk))) else ⟨0, a0⟩, fun k hk => ?_⟩
  have := Classical.choose_spec (Classical.choose_spec (Classical.choose_spec (h k hk)))
  refine ⟨_, _, this.1, ?_⟩
  simp only [dif_pos hk]
  exact this.2
/-- a block that holds a step -/
abbrev RowO (w : World) (bx : Nat) (q : Opn) : Prop := w.heap[bx]? = some (.cells ⟨cO q⟩ 44 (0, 0))
theorem RowO.lt {bx : Nat} {q : Opn} (h : RowO w bx q) : bx < w.heap.size := (Array.getElem?_eq_some_iff.1 h).1
theorem RowO.below {bx : Nat} {q : Opn} (h : RowO w bx q) (b : Below w.heap.size w w') : RowO w' bx q := (b.block bx (RowO.lt h)).trans h
theorem RowO.at_ {bx : Nat} {q : Opn} (h : RowO w bx q) (i : Nat) : w.cell? ⟨bx, i, none⟩ = (cO q)[i]? := by
  rw [cell_of_row w bx i _ _ (0, 0) h]; simp
end
end Go.Proofs.Ytgfalpiifgoonaa
