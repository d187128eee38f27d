/- A clock's state; New. -/
import Derived.Test.YtkhfbnlmjnbhmaaRem
namespace Go.Proofs.Ytkhfbnlmjnbhmaa
open Go.RowKit Go.Sort
set_option linter.unusedVariables false

structure ClkW (w : World) (B hb gm : Nat) (ao : Option Addr) (cap : Nat) (l : List Tm) (f : Nat → Option Nat) (rate milli sets : Nat) (S : List Tm) : Prop where
  hp : HpW w B hb gm l.length ao cap l f
  hs : HS l f S
  k0 : w.cell? ⟨hb, 0, none⟩ = some (.int .i64 (rate : Int))
  k1 : w.cell? ⟨hb, 1, none⟩ = some (.int .i64 (milli : Int))
  k4 : w.cell? ⟨hb, 4, none⟩ = some (.int .u64 (sets : Int))
  f0 : w.frozen? ⟨hb, 0, none⟩ = false
  f1 : w.frozen? ⟨hb, 1, none⟩ = false
  f4 : w.frozen? ⟨hb, 4, none⟩ = false
  rt : 900 ≤ rate ∧ rate ≤ 1100
  ml : milli ≤ 1099511627776999
  sr : ∀ x ∈ S, x.2.2 ≤ sets
/-- a clock in block hb, its blocks Bs -/
def Clk (w : World) (B hb : Nat) (Bs : List Nat) (rate milli sets : Nat) (S : List Tm) : Prop := ∃ gm ao cap l f, Bs = hb :: gm :: blk ao ∧ ClkW w B hb gm ao cap l f rate milli sets S
/-- what a call on the clock may do -/
structure Turned (Bs Bs' : List Nat) (w w' : World) : Prop where
  keep : Keep Bs w w'
  new : ∀ q ∈ Bs', q ∈ Bs ∨ w.heap.size ≤ q
section
variable {w w' : World} {B hb gm : Nat} {ao : Option Addr} {cap : Nat} {l : List Tm} {f : Nat → Option Nat} {rate milli sets : Nat} {S : List Tm} {Bs : List Nat}
theorem ClkW.blocks (h : ClkW w B hb gm ao cap l f rate milli sets S) : ∀ q ∈ hb :: gm :: blk ao, B ≤ q ∧ q < w.heap.size := by
  intro q hq
  simp only [List.mem_cons] at hq
  rcases hq with rfl | rfl | hq
  · exact ⟨h.hp.base, h.hp.hlt⟩
  · exact ⟨h.hp.gbase, h.hp.map.lt⟩
  · exact owns_blk h.hp.own q hq
theorem ClkW.keep {T : List Nat} (h : ClkW w B hb gm ao cap l f rate milli sets S) (k : Keep T w w') (hn : ∀ q ∈ hb :: gm :: blk ao, q ∉ T) : ClkW w' B hb gm ao cap l f rate milli sets S := by
  have h0 : hb ∉ T := hn hb (by simp)
  have hl := h.hp.hlt
  exact ⟨h.hp.keep k h0 (hn gm (by simp)) (fun g hg => hn g (by simp [hg])), h.hs, (k.cell hl h0).trans h.k0, (k.cell hl h0).trans h.k1, (k.cell hl h0).trans h.k4, (k.frozen hl h0).trans h.f0, (k.frozen hl h0).trans h.f1, (k.frozen hl h0).trans h.f4, h.rt, h.ml, h.sr⟩
theorem Clk.blocks (h : Clk w B hb Bs rate milli sets S) : ∀ q ∈ Bs, B ≤ q ∧ q < w.heap.size := by
  obtain ⟨gm, ao, cap, l, f, rfl, h⟩ := h
  exact h.blocks
theorem Clk.keep {T : List Nat} (h : Clk w B hb Bs rate milli sets S) (k : Keep T w w') (hn : ∀ q ∈ Bs, q ∉ T) : Clk w' B hb Bs rate milli sets S := by
  obtain ⟨gm, ao, cap, l, f, rfl, h⟩ := h
  exact ⟨gm, ao, cap, l, f, rfl, h.keep k hn⟩
theorem Clk.below (h : Clk w B hb Bs rate milli sets S) (b : Below w.heap.size w w') : Clk w' B hb Bs rate milli sets S := h.keep (Keep.of_below b []) (by simp)
theorem Clk.drew (h : Clk w B hb Bs rate milli sets S) : Clk w.drew B hb Bs rate milli sets S := h.below (Below.refl _ _).drew
theorem Clk.base {B' : Nat} (h : Clk w B hb Bs rate milli sets S) (hB : B' ≤ B) : Clk w B' hb Bs rate milli sets S := by
  obtain ⟨gm, ao, cap, l, f, rfl, h⟩ := h
  exact ⟨gm, ao, cap, l, f, rfl, ⟨h.hp.cl, h.hp.cm, h.hp.fr, h.hp.hlt, Nat.le_trans hB h.hp.base, Nat.le_trans hB h.hp.gbase, owns_base h.hp.own hB, h.hp.map, h.hp.nhg, h.hp.nhr, h.hp.ngr, h.hp.ok, h.hp.few⟩, h.hs, h.k0, h.k1, h.k4, h.f0, h.f1, h.f4, h.rt, h.ml, h.sr⟩
theorem Turned.refl (Bs : List Nat) (w : World) : Turned Bs Bs w w := ⟨Keep.refl _ _, fun q h => .inl h⟩
theorem Turned.trans {Bs1 Bs2 Bs3 : List Nat} {a b c : World} (h : Turned Bs1 Bs2 a b) (k : Turned Bs2 Bs3 b c) : Turned Bs1 Bs3 a c := by
  have hs := h.keep.size
  refine ⟨?_, fun q hq => ?_⟩
  · have t1 : Keep (Bs1 ++ Bs2) a b := h.keep.mono (fun q hq => .inl (by simp [hq]))
    have t2 : Keep (Bs1 ++ Bs2) b c := k.keep.mono (fun q hq => .inl (by simp [hq]))
    refine (t1.trans t2).mono fun q hq => ?_
    rcases List.mem_append.1 hq with h1 | h1
    · exact .inl h1
    · exact h.new q h1
  · rcases k.new q hq with h1 | h1
    · exact h.new q h1
    · right; omega
theorem Turned.of_below (Bs : List Nat) {w w' : World} (b : Below w.heap.size w w') : Turned Bs Bs w w' := ⟨Keep.of_below b _, fun q h => .inl h⟩
/-- blocks that are apart stay so -/
theorem Turned.apart {Bs Bs' Cs : List Nat} (h : Turned Bs Bs' w w') (ha : ∀ q ∈ Bs, q ∉ Cs) (hc : ∀ q ∈ Cs, q < w.heap.size) : ∀ q ∈ Bs', q ∉ Cs := by
  intro q hq hm
  rcases h.new q hq with h1 | h1
  · exact ha q h1 hm
  · have := hc q hm; omega
theorem Turned.below {Bs Bs' : List Nat} {B : Nat} (h : Turned Bs Bs' w w') (hB : B ≤ w.heap.size) (hs : ∀ q ∈ Bs, B ≤ q) : Below B w w' := h.keep.below hB hs
end

def rateB (r : Int) : Bool := decide (900 ≤ r ∧ r ≤ 1100)
def timeB (r : Int) : Bool := decide (0 ≤ r ∧ r ≤ 1099511627776)
set_option maxHeartbeats 400000 in
theorem israte_any (a : Int) (w : World) : Calls Try.prog 22 #[.int .i64 a] w fun e w' => e = .returned (.bool (rateB a)) ∧ w = w' := by
  go_enter Try.func22, Try.ntmps22
  go_wp2_with fail
  all_goals
    go_ret
    refine ⟨ret_bool ?_, rfl⟩
    unfold rateB
    rw [Bool.eq_iff_iff]
    simp
    try omega
set_option maxHeartbeats 400000 in
theorem istime_any (a : Int) (w : World) : Calls Try.prog 23 #[.int .i64 a] w fun e w' => e = .returned (.bool (timeB a)) ∧ w = w' := by
  go_enter Try.func23, Try.ntmps23
  go_wp2_with fail
  all_goals
    go_ret
    refine ⟨ret_bool ?_, rfl⟩
    unfold timeB
    rw [Bool.eq_iff_iff]
    simp
    try omega

theorem results_cell1 {P : Program} {fn : Func} {t : Tmp} {u : TypeId} {tmps : Array Value} {w : World} {ad : Addr} {v : Value} (h : fn.results = #[.cell t u]) (ht : tmps.getD t undef = .pointer (some ad))
    (hl : (loadVar u ad).run P w = .ok v w) : (results fn tmps).run P w = .ok v w := by
  have ht' : tmps[t]?.getD undef = .pointer (some ad) := by simpa using ht
  simp [results, h, ht', hl, asAddr]

set_option maxHeartbeats 400000 in
theorem newheap_any (w : World) : Calls Try.prog 24 #[] w fun e w' => e = .returned (.agg #[.slice none 0 0, .map (some (w.heap.size + 1))]) ∧ w' = (w.alloc (.cells #[.slice none 0 0, .map (some (w.heap.size + 1))] 60)).alloc (.map #[] 0) := by
  have hmm := @run_makeMap Try.prog
  go_enter Try.func24, Try.ntmps24
  go_wp2_with fail
  refine bodyPost_ret (v := .agg #[.slice none 0 0, .map (some (w.heap.size + 1))]) (results_cell1 Try.results24 rfl ?_) rfl ⟨rfl, rfl⟩
  go_simp

set_option maxHeartbeats 1000000 in
theorem new_no (rate at_ : Int) (h : rateB rate = false ∨ timeB at_ = false) (w : World) :
    Calls Try.prog 8 #[.int .i64 rate, .int .i64 at_] w fun e w' => e = .returned (.tuple #[.pointer none, .int .i64 1]) ∧ w = w' := by
  have C1 := Lib.hid (israte_any rate); have C2 := Lib.hid (istime_any at_)
  cases hr : rateB rate <;> rw [hr] at C1
  · clear h hr
    go_enter Try.func8, Try.ntmps8
    go_wp2_with fail
    refine (C1.out _).mono ?_; rintro e w1 ⟨rfl, rfl⟩
    go_wp2_with fail
    go_ret2
    exact ⟨rfl, rfl⟩
  · rw [hr] at h
    simp at h
    rw [h] at C2
    clear h hr
    go_enter Try.func8, Try.ntmps8
    go_wp2_with fail
    refine (C1.out _).mono ?_; rintro e w1 ⟨rfl, rfl⟩
    go_wp2_with fail
    refine (C2.out _).mono ?_; rintro e w1 ⟨rfl, rfl⟩
    go_wp2_with fail
    go_ret2
    exact ⟨rfl, rfl⟩

theorem hs_nil : HS [] (fun _ => none) [] := ⟨fun k h0 h => by simp at h, List.Perm.refl _, List.Pairwise.nil, fun j hj => by simp at hj, fun _ => rfl⟩
set_option maxHeartbeats 1000000 in
theorem new_yes (rate at_ : Nat) (h1 : 900 ≤ rate) (h2 : rate ≤ 1100) (h3 : at_ ≤ 1099511627776) (w : World) :
    Calls Try.prog 8 #[.int .i64 (rate : Int), .int .i64 (at_ : Int)] w fun e w' => ∃ hb Bs, e = .returned (.tuple #[.pointer (some ⟨hb, 0, none⟩), .int .i64 0]) ∧ Clk w' w.heap.size hb Bs rate (at_ * 1000) 0 [] ∧ Below w.heap.size w w' := by
  have C1 := Lib.hid (israte_any (rate : Int)); have C2 := Lib.hid (istime_any (at_ : Int))
  rw [show rateB (rate : Int) = true by unfold rateB; simp; omega] at C1
  rw [show timeB (at_ : Int) = true by unfold timeB; simp; omega] at C2
  have C3 := Lib.hid (newheap_any)
  go_enter Try.func8, Try.ntmps8
  go_wp2_with fail
  refine (C1.out _).mono ?_; rintro e w1 ⟨rfl, rfl⟩
  go_wp2_with fail
  refine (C2.out _).mono ?_; rintro e w1 ⟨rfl, rfl⟩
  go_wp2_with fail
  refine (C3.out _).mono ?_; rintro e w1 ⟨rfl, hw1⟩
  have hs1 : w1.heap.size = w.heap.size + 2 := by subst hw1; simp
  have hb1 : Below w.heap.size w w1 := by subst hw1; exact below_alloc (below_alloc (Below.refl _ _) _) _
  have hm1 : MapF w1 (w.heap.size + 1) 0 (fun _ => none) := by
    subst hw1
    have := MapF.made (w.alloc (.cells #[.slice none 0 0, .map (some (w.heap.size + 1))] 60))
    simpa using this
  have HS1 := Lib.hid hs1; have HB1 := Lib.hid hb1; have HM1 := Lib.hid hm1
  clear hw1 hs1 hb1 hm1
  go_wp2_with fail
  go_ret2
  have hrow := heap_alloc_new w1 (.cells #[.int .i64 (rate : Int), .int .i64 ((at_ : Int) * 1000), .slice none 0 0, .map (some (w.heap.size + 1)), .int .u64 0] 63)
  have b2 : Below w1.heap.size w1 (w1.alloc (.cells #[.int .i64 (rate : Int), .int .i64 ((at_ : Int) * 1000), .slice none 0 0, .map (some (w.heap.size + 1)), .int .u64 0] 63)) := below_alloc (Below.refl _ _) _
  have hm := HM1.out.keep (Keep.of_below b2 []) (by simp)
  have hsz : w1.heap.size < (w1.alloc (.cells #[.int .i64 (rate : Int), .int .i64 ((at_ : Int) * 1000), .slice none 0 0, .map (some (w.heap.size + 1)), .int .u64 0] 63)).heap.size := by simp
  have hs1 := HS1.out
  have hb := below_next HB1.out b2
  generalize w1.alloc _ = w2 at *
  have kc : ∀ q v, (#[.int .i64 (rate : Int), .int .i64 ((at_ : Int) * 1000), .slice none 0 0, .map (some (w.heap.size + 1)), .int .u64 0] : Array Value)[q]? = some v → w2.cell? ⟨w1.heap.size, q, none⟩ = some v := fun q v h => (cell_of_row w2 w1.heap.size q _ _ (0, 0) hrow).trans h
  have kf : ∀ q, w2.frozen? ⟨w1.heap.size, q, none⟩ = false := fun q => frozen_of_row w2 w1.heap.size q _ _ hrow
  refine ⟨w1.heap.size, w1.heap.size :: (w.heap.size + 1) :: blk none, rfl, ⟨w.heap.size + 1, none, 0, [], fun _ => none, rfl, ⟨?_, hs_nil, kc 0 _ rfl, kc 1 _ (by simp), kc 4 _ rfl, kf 0, kf 1, kf 4, ⟨h1, h2⟩, by omega, by simp⟩⟩, hb⟩
  exact ⟨kc 2 _ rfl, kc 3 _ rfl, kf 2, hsz, by omega, by omega, World.ownsRow_nil _ _ _ _, hm, by omega, by simp [blk], by simp [blk], by simp, by simp⟩
end Go.Proofs.Ytkhfbnlmjnbhmaa
