/- Entries, locks, votes, copies as plain data, and what memory holds of them. -/
import Derived.Test.YtbjcmomicjdepaaKm
import Derived.Test.YtbjcmomicjdepaaCl
import Derived.Test.YtbjcmomicjdepaaKy
import Derived.Deep.AppendLies
import Derived.Lib.SliceRun
import Derived.Deep.Cut
import Derived.Deep.CutRange
import Derived.Laws.Tables
import Derived.Deep.MidRow
namespace Go.Proofs.Ytbjcmomicjdepaa
open Go.RowKit Go.Sort
set_option linter.unusedVariables false
set_option linter.unusedSectionVars false
set_option maxRecDepth 100000

abbrev Ret (n : Nat) (xs : Array Value) (r : Ending) : Prop := ∀ w, Calls Try.prog n xs w fun e w' => e = r ∧ Below w.heap.size w w'
theorem Ret.re {n : Nat} {xs : Array Value} {v : Value} (h : Ret n xs (.returned v)) (w : World) (d : Nat) (os : Array Obj) :
    Calls Try.prog n xs (grow (redrawn w d) os) fun e w'' => e = .returned v ∧ ∃ p : Regrown, w'' = grow (redrawn w p.d) p.os := Calls.regrown_of (h _)

/-- an entry -/
structure En where
  k : ByteArray
  v : ByteArray
deriving DecidableEq
abbrev En.list (e : En) : List Value := [.string e.k, .string e.v]
theorem en_len (e : En) : e.list.length = 2 := rfl
/-- where a slice lies -/
structure Sd where
  ao : Option Addr
  cap : Nat
abbrev Sd.v (s : Sd) (n : Nat) : Value := .slice s.ao n s.cap
structure It where
  bucket : Int
  ver : Int
  write : Bool
  es : List En
  i0 : Int
  i1 : Int
  i2 : Int
  i3 : Int
structure Lk where
  tx : Int
  m0 : Int
  m1 : Int
  m2 : Int
  it : It
structure Vd where
  tx : Int
  vote : Int
structure Cp where
  state : Int
  inc : Int
  ver : Int
  es : List En
  ls : List Lk
  f0 : Int
  f1 : Int
  f2 : Int
  f3 : Int
  vs : List Vd
/-- where a copy's slices lie -/
structure Cs where
  d : Sd
  l : Sd
  v : Sd
  la : List Sd
abbrev It.list (i : It) (s : Sd) : List Value := [.int .i64 i.bucket, .int .u32 i.ver, .bool i.write, .slice s.ao i.es.length s.cap, .int .u32 i.i0, .int .u32 i.i1, .int .u32 i.i2, .int .u32 i.i3]
abbrev It.ag (i : It) (s : Sd) : Value := .agg #[.int .i64 i.bucket, .int .u32 i.ver, .bool i.write, .slice s.ao i.es.length s.cap, .int .u32 i.i0, .int .u32 i.i1, .int .u32 i.i2, .int .u32 i.i3]
abbrev Lk.list (l : Lk) (s : Sd) : List Value := [.int .u64 l.tx, .int .i64 l.m0, .int .i64 l.m1, .int .i64 l.m2, .int .i64 l.it.bucket, .int .u32 l.it.ver, .bool l.it.write, .slice s.ao l.it.es.length s.cap, .int .u32 l.it.i0, .int .u32 l.it.i1, .int .u32 l.it.i2, .int .u32 l.it.i3]
abbrev Lk.cells (l : Lk) (s : Sd) : Array Value := #[.int .u64 l.tx, .int .i64 l.m0, .int .i64 l.m1, .int .i64 l.m2, .int .i64 l.it.bucket, .int .u32 l.it.ver, .bool l.it.write, .slice s.ao l.it.es.length s.cap, .int .u32 l.it.i0, .int .u32 l.it.i1, .int .u32 l.it.i2, .int .u32 l.it.i3]
abbrev Lk.ag (l : Lk) (s : Sd) : Value := .agg #[.int .u64 l.tx, .int .i64 l.m0, .int .i64 l.m1, .int .i64 l.m2, .int .i64 l.it.bucket, .int .u32 l.it.ver, .bool l.it.write, .slice s.ao l.it.es.length s.cap, .int .u32 l.it.i0, .int .u32 l.it.i1, .int .u32 l.it.i2, .int .u32 l.it.i3]
abbrev Vd.list (v : Vd) : List Value := [.int .u64 v.tx, .int .i64 v.vote]
abbrev Vd.ag (v : Vd) : Value := .agg #[.int .u64 v.tx, .int .i64 v.vote]
abbrev lkc (x : Lk × Sd) : List Value := x.1.list x.2
theorem lkc_len (x : Lk × Sd) : (lkc x).length = 12 := rfl
theorem vd_len (x : Vd) : x.list.length = 2 := rfl
abbrev Cp.list (c : Cp) (s : Cs) : List Value := [.int .i64 c.state, .int .u32 c.inc, .int .u32 c.ver, .slice s.d.ao c.es.length s.d.cap, .slice s.l.ao c.ls.length s.l.cap, .int .u32 c.f0, .int .u32 c.f1, .int .u32 c.f2, .int .u32 c.f3, .slice s.v.ao c.vs.length s.v.cap]
abbrev Cp.ag (c : Cp) (s : Cs) : Value := .agg #[.int .i64 c.state, .int .u32 c.inc, .int .u32 c.ver, .slice s.d.ao c.es.length s.d.cap, .slice s.l.ao c.ls.length s.l.cap, .int .u32 c.f0, .int .u32 c.f1, .int .u32 c.f2, .int .u32 c.f3, .slice s.v.ao c.vs.length s.v.cap]

/-! ### memory -/
/-- elements of z cells lie from ao on -/
def Rds (w : World) (z : Nat) (ao : Option Addr) (L : List (List Value)) : Prop := ∀ j x, L[j]? = some x → ∃ g o, ao = some ⟨g, o, none⟩ ∧ g < w.heap.size ∧ ∀ q v, x[q]? = some v → w.cell? ⟨g, o + j * z + q, none⟩ = some v
theorem Rds.keep {w w' : World} {z : Nat} {ao : Option Addr} {L : List (List Value)} {U : List Nat} (h : Rds w z ao L) (k : Keep U w w') (hn : ∀ g ∈ blk ao, g ∉ U) : Rds w' z ao L := fun j p hp => by
  obtain ⟨g, o, rfl, hg, hc⟩ := h j p hp
  exact ⟨g, o, rfl, Nat.lt_of_lt_of_le hg k.size, fun q v hq => (k.cell (a := ⟨g, o + j * z + q, none⟩) hg (hn g (by simp [blk]))).trans (hc q v hq)⟩
theorem Rds.below {w w' : World} {z : Nat} {ao : Option Addr} {L : List (List Value)} (h : Rds w z ao L) (b : Below w.heap.size w w') : Rds w' z ao L := h.keep (Keep.of_below b []) (by simp)
theorem Rds.of_own {w : World} {B z n cap : Nat} {e : TypeId} {ao : Option Addr} {α : Type} {c : α → List Value} {l : List α} (hz : ∀ t, (c t).length = z) (hl : l.length = n) (h : w.ownsRow B e z (.slice ao n cap) n (fl c l)) : Rds w z ao (l.map c) := fun j x hx => by
  rw [List.getElem?_map, Option.map_eq_some_iff] at hx
  obtain ⟨t, ht, rfl⟩ := hx
  have hj : j < n := by rw [← hl]; exact (List.getElem?_eq_some_iff.1 ht).1
  obtain ⟨g, rfl, _, _, _, hg⟩ := owns_none h (by omega)
  refine ⟨g, 0, rfl, hg, fun q v hq => ?_⟩
  have hqz : q < z := by rw [← hz t]; exact (List.getElem?_eq_some_iff.1 hq).1
  rw [Nat.zero_add]
  rcases h.2 with ⟨h2, h3⟩ | ⟨g', cap', cur, h2, hb, hg', h3, h4, h5, h6⟩
  · omega
  · cases h2
    have hlt : j * z + q < n * z := by
      have : (j + 1) * z ≤ n * z := Nat.mul_le_mul_right z hj
      rw [Nat.add_mul] at this; omega
    rw [cell_of_row w _ (j * z + q) cur _ (0, 0) hg']
    have := congrArg (·[j * z + q]?) h6
    simp only [List.getElem?_take] at this
    rw [if_pos hlt, Array.getElem?_toList] at this
    rw [this, fl_at hz _ _ _ hqz, ht]
    exact hq
/-- a slice reads as entries -/
structure EsR (w : World) (s : Sd) (es : List En) : Prop where
  rd : Rds w 2 s.ao (es.map En.list)
  nn : s.ao = none → es = [] ∧ s.cap = 0
  len : es.length ≤ maxLen
  sz : ∀ e ∈ es, e.k.size ≤ maxLen ∧ e.v.size ≤ maxLen
/-- no more than may be laid -/
structure Fit (es : List En) : Prop where
  len : es.length ≤ 1099511627776
  sz : ∀ e ∈ es, e.k.size ≤ 281474976710656 ∧ e.v.size ≤ 281474976710656
theorem EsR.keep {w w' : World} {s : Sd} {es : List En} {U : List Nat} (h : EsR w s es) (k : Keep U w w') (hn : ∀ g ∈ blk s.ao, g ∉ U) : EsR w' s es := ⟨h.rd.keep k hn, h.nn, h.len, h.sz⟩
theorem EsR.below {w w' : World} {s : Sd} {es : List En} (h : EsR w s es) (b : Below w.heap.size w w') : EsR w' s es := ⟨h.rd.below b, h.nn, h.len, h.sz⟩
theorem EsR.nil (w : World) : EsR w ⟨none, 0⟩ [] := ⟨fun j x h => by simp at h, fun _ => ⟨rfl, rfl⟩, Nat.zero_le _, by simp⟩
theorem Fit.nil : Fit [] := ⟨Nat.zero_le _, by simp⟩
theorem Fit.big {es : List En} (h : Fit es) : es.length ≤ maxLen ∧ ∀ e ∈ es, e.k.size ≤ maxLen ∧ e.v.size ≤ maxLen := ⟨by have := h.len; unfold maxLen; omega, fun e he => by have := h.sz e he; unfold maxLen; omega⟩
theorem EsR.cells {w : World} {s : Sd} {es : List En} (h : EsR w s es) {j : Nat} {e : En} (he : es[j]? = some e) : ∃ g o, s.ao = some ⟨g, o, none⟩ ∧ g < w.heap.size ∧ w.cell? ⟨g, o + j * 2, none⟩ = some (.string e.k) ∧ w.cell? ⟨g, o + j * 2 + 1, none⟩ = some (.string e.v) := by
  obtain ⟨g, o, h1, h2, h3⟩ := h.rd j e.list (by rw [List.getElem?_map, he]; rfl)
  exact ⟨g, o, h1, h2, h3 0 _ rfl, h3 1 _ rfl⟩
/-- memory of the call's own that holds entries -/
abbrev EsO (w : World) (B : Nat) (s : Sd) (es : List En) : Prop := w.ownsRow B 106 2 (.slice s.ao es.length s.cap) es.length (fl En.list es)
theorem EsO.rd {w : World} {B : Nat} {s : Sd} {es : List En} (h : EsO w B s es) (f : Fit es) : EsR w s es := by
  obtain ⟨ao, cap⟩ := s
  refine ⟨Rds.of_own en_len rfl h, fun e => ?_, f.big.1, f.big.2⟩
  simp only at e
  subst e
  rcases h.2 with ⟨h2, h3⟩ | ⟨g', cap', cur, h2, _⟩
  · simp only [Value.slice.injEq] at h2
    exact ⟨List.length_eq_zero_iff.1 h3, h2.2.2⟩
  · simp at h2
theorem en_info : (Try.prog.info? 106).map (fun i => (i.zero, i.size, i.bytes)) = some (some (.agg #[.string ⟨#[]⟩, .string ⟨#[]⟩]), 2, 32) := by kernel_rfl
theorem lk_info : (Try.prog.info? 38).map (fun i => (i.zero, i.size, i.bytes)) = some (some (.agg #[.int .u64 0, .int .i64 0, .int .i64 0, .int .i64 0, .int .i64 0, .int .u32 0, .bool false, .slice none 0 0, .int .u32 0, .int .u32 0, .int .u32 0, .int .u32 0]), 12, 88) := by kernel_rfl
theorem vd_info : (Try.prog.info? 51).map (fun i => (i.zero, i.size, i.bytes)) = some (some (.agg #[.int .u64 0, .int .i64 0]), 2, 16) := by kernel_rfl
theorem en_one (e : En) : ∀ u ∈ e.list, u.oneCell' = true := by intro u hu; simp at hu; rcases hu with rfl | rfl <;> rfl
theorem lk_one (x : Lk × Sd) : ∀ u ∈ lkc x, u.oneCell' = true := by intro u hu; simp only [lkc, Lk.list, List.mem_cons, List.not_mem_nil, or_false] at hu; rcases hu with rfl | rfl | rfl | rfl | rfl | rfl | rfl | rfl | rfl | rfl | rfl | rfl <;> rfl
theorem vd_one (x : Vd) : ∀ u ∈ x.list, u.oneCell' = true := by intro u hu; simp at hu; rcases hu with rfl | rfl <;> rfl
theorem fl_one_cell {α : Type} {c : α → List Value} (h : ∀ x, ∀ u ∈ c x, u.oneCell' = true) (l : List α) : ∀ u ∈ fl c l, u.oneCell' = true := fun u hu => by
  obtain ⟨x, _, hx⟩ := List.mem_flatMap.1 hu
  exact h x u hx
/-- what an append of a slice's elements asks of it -/
theorem Rds.news {w w' : World} {z g o : Nat} {α : Type} {c : α → List Value} {l : List α} (hz : ∀ t, (c t).length = z) (h0 : 0 < z) (h : Rds w z (some ⟨g, o, none⟩) (l.map c)) (b : Below w.heap.size w w') : ∀ (j : Nat) (u : Value), (fl c l)[j]? = some u → w'.cell? ((⟨g, o, none⟩ : Addr).add j) = some u := fun j u hu => by
  have hj : j < l.length * z := by have := (List.getElem?_eq_some_iff.1 hu).1; rwa [fl_len hz] at this
  have hq : j = j / z * z + j % z := by have := Nat.div_add_mod j z; rw [Nat.mul_comm] at this; omega
  have hm : j % z < z := Nat.mod_lt _ h0
  have hadd : (⟨g, o, none⟩ : Addr).add j = ⟨g, o + j, none⟩ := by clear hu hj hq hm h; unfold Addr.add; split <;> simp_all
  obtain ⟨x, hx⟩ : ∃ x, l[j / z]? = some x := ⟨_, List.getElem?_eq_getElem (by
    have : j / z < l.length := Nat.div_lt_of_lt_mul (by rw [Nat.mul_comm]; exact hj)
    exact this)⟩
  obtain ⟨g', o', e, hg, hc⟩ := h (j / z) (c x) (by rw [List.getElem?_map, hx]; rfl)
  cases e
  rw [hadd, b.cell (p := ⟨g, o + j, none⟩) hg]
  have h1 := fl_at hz l (j / z) (j % z) hm
  rw [← hq, hx, hu] at h1
  have := hc (j % z) u h1.symm
  rw [show o + j / z * z + j % z = o + j by omega] at this
  exact this
end Go.Proofs.Ytbjcmomicjdepaa
