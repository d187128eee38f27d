/- The document's proposer: its state; Begin. -/
import Derived.Test.YtgfalpiifgoonaaHv
import Derived.Deep.AppendLies
namespace Go.Proofs.Ytgfalpiifgoonaa
open Go.RowKit Go.Sort
set_option linter.unusedVariables false
set_option linter.unusedSectionVars false
set_option linter.unusedSimpArgs false
set_option maxRecDepth 100000

abbrev c1 (x : Int) : List Value := [.int .i64 x]
theorem c1_len (x : Int) : (c1 x).length = 1 := rfl
structure Rst where
  bal : Bl
  own : ByteArray
  F : List Int
  L : List Ac
abbrev RowR (w : World) (hb node n : Nat) (bal : Bl) (own : ByteArray) (vF vL : Value) : Prop :=
  w.heap[hb]? = some (.cells #[.int .i64 (node : Int), .int .i64 (n : Int), .int .u32 bal.round, .int .u8 bal.node, .string own, vF, vL] 38 (0, 0))
structure RpW (w : World) (B hb : Nat) (fo : Option Addr) (fc : Nat) (lo : Option Addr) (lc : Nat) (node n : Nat) (s : Rst) : Prop where
  row : RowR w hb node n s.bal s.own (.slice fo s.F.length fc) (.slice lo s.L.length lc)
  ownF : w.ownsRow B 3 1 (.slice fo s.F.length fc) s.F.length (fl c1 s.F)
  ownL : w.ownsRow B 42 4 (.slice lo s.L.length lc) s.L.length (fl cA s.L)
  base : B ≤ hb
  apF : hb ∉ blk fo
  apL : hb ∉ blk lo
  ap : ∀ q ∈ blk fo, q ∉ blk lo
  few : s.F.length ≤ 9
  fewL : s.L.length ≤ 9
  nd : node ≤ 255
  n1 : 1 ≤ n
  n9 : n ≤ 9
/-- the document's proposer lies in the blocks Bs -/
def Rp (w : World) (B hb : Nat) (Bs : List Nat) (node n : Nat) (s : Rst) : Prop := ∃ fo fc lo lc, Bs = hb :: (blk fo ++ blk lo) ∧ RpW w B hb fo fc lo lc node n s
/-- what a call may do -/
structure Turned (Bs Bs' : List Nat) (w w' : World) : Prop where
  keep : Keep Bs w w'
  new : ∀ q ∈ Bs', q ∈ Bs ∨ w.heap.size ≤ q
section
variable {w w' : World} {B hb fc lc node n : Nat} {fo lo : Option Addr} {s : Rst} {Bs Bs' : List Nat}
theorem Turned.below (h : Below w.heap.size w w') : Turned Bs Bs w w' := ⟨Keep.of_below h Bs, fun q hq => .inl hq⟩
theorem RpW.hlt (h : RpW w B hb fo fc lo lc node n s) : hb < w.heap.size := (Array.getElem?_eq_some_iff.1 h.row).1
theorem RpW.blocks (h : RpW w B hb fo fc lo lc node n s) : ∀ q ∈ hb :: (blk fo ++ blk lo), B ≤ q ∧ q < w.heap.size := by
  intro q hq
  rcases List.mem_cons.1 hq with rfl | hq
  · exact ⟨h.base, h.hlt⟩
  · rcases List.mem_append.1 hq with hq | hq
    · exact owns_blk h.ownF q hq
    · exact owns_blk h.ownL q hq
theorem RpW.keep {U : List Nat} (h : RpW w B hb fo fc lo lc node n s) (k : Keep U w w') (hU : ∀ q ∈ hb :: (blk fo ++ blk lo), q ∉ U) : RpW w' B hb fo fc lo lc node n s :=
  ⟨(k.block hb h.hlt (hU hb (by simp))).trans h.row, owns_keep h.ownF k (blk_own _ _ _ fun g hg => hU g (by simp [hg])), owns_keep h.ownL k (blk_own _ _ _ fun g hg => hU g (by simp [hg])), h.base, h.apF, h.apL, h.ap, h.few, h.fewL, h.nd, h.n1, h.n9⟩
theorem RpW.below (h : RpW w B hb fo fc lo lc node n s) (b : Below w.heap.size w w') : RpW w' B hb fo fc lo lc node n s := h.keep (Keep.of_below b []) (by simp)
theorem Rp.blocks (h : Rp w B hb Bs node n s) : ∀ q ∈ Bs, B ≤ q ∧ q < w.heap.size := by
  obtain ⟨fo, fc, lo, lc, rfl, h⟩ := h
  exact h.blocks
theorem Rp.keep {U : List Nat} (h : Rp w B hb Bs node n s) (k : Keep U w w') (hU : ∀ q ∈ Bs, q ∉ U) : Rp w' B hb Bs node n s := by
  obtain ⟨fo, fc, lo, lc, rfl, h⟩ := h
  exact ⟨fo, fc, lo, lc, rfl, h.keep k hU⟩
theorem Rp.below (h : Rp w B hb Bs node n s) (b : Below w.heap.size w w') : Rp w' B hb Bs node n s := h.keep (Keep.of_below b []) (by simp)
theorem RowR.all {vF vL : Value} {bal : Bl} {own : ByteArray} (h : RowR w hb node n bal own vF vL) : w.cell? ⟨hb, 0, none⟩ = some (.int .i64 (node : Int)) ∧ w.cell? ⟨hb, 1, none⟩ = some (.int .i64 (n : Int)) ∧ w.cell? ⟨hb, 2, none⟩ = some (.int .u32 bal.round) ∧ w.cell? ⟨hb, 3, none⟩ = some (.int .u8 bal.node) ∧ w.cell? ⟨hb, 4, none⟩ = some (.string own) ∧ w.cell? ⟨hb, 5, none⟩ = some vF ∧ w.cell? ⟨hb, 6, none⟩ = some vL :=
  ⟨cell_of_row w hb 0 _ _ (0, 0) h, cell_of_row w hb 1 _ _ (0, 0) h, cell_of_row w hb 2 _ _ (0, 0) h, cell_of_row w hb 3 _ _ (0, 0) h, cell_of_row w hb 4 _ _ (0, 0) h, cell_of_row w hb 5 _ _ (0, 0) h, cell_of_row w hb 6 _ _ (0, 0) h⟩
theorem RowR.fr {vF vL : Value} {bal : Bl} {own : ByteArray} (h : RowR w hb node n bal own vF vL) (i : Nat) : w.frozen? ⟨hb, i, none⟩ = false := frozen_of_row w hb i _ _ h
/-- all that Begin lays -/
abbrev layR (w : World) (hb : Nat) (b : Bl) (own : ByteArray) : World := ((((w.setCell ⟨hb, 2, none⟩ (.int .u32 b.round)).setCell ⟨hb, 3, none⟩ (.int .u8 b.node)).setCell ⟨hb, 4, none⟩ (.string own)).setCell ⟨hb, 5, none⟩ (.slice none 0 0)).setCell ⟨hb, 6, none⟩ (.slice none 0 0)
theorem layR_keep (w : World) (hb : Nat) (b : Bl) (own : ByteArray) : Keep [hb] w (layR w hb b own) :=
  ((((Keep.setCell w ⟨hb, 2, none⟩ _).trans (Keep.setCell _ ⟨hb, 3, none⟩ _)).trans (Keep.setCell _ ⟨hb, 4, none⟩ _)).trans (Keep.setCell _ ⟨hb, 5, none⟩ _)).trans (Keep.setCell _ ⟨hb, 6, none⟩ _)
theorem layR_row {vF vL : Value} {bal b : Bl} {own o2 : ByteArray} (h : RowR w hb node n bal own vF vL) : RowR (layR w hb b o2) hb node n b o2 (.slice none 0 0) (.slice none 0 0) :=
  heap_setCell_same _ hb 6 _ _ _ (heap_setCell_same _ hb 5 _ _ _ (heap_setCell_same _ hb 4 _ _ _ (heap_setCell_same _ hb 3 _ _ _ (heap_setCell_same w hb 2 _ _ _ h))))
theorem owns_nil0 (w : World) (B : Nat) (e : TypeId) (z : Nat) : w.ownsRow B e z (.slice none 0 0) 0 [] := ⟨by simp, .inl ⟨rfl, rfl⟩⟩
theorem RpW.new (w : World) (B node n : Nat) (h1 : 1 ≤ n) (h2 : n ≤ 9) (h3 : node ≤ 255) (hB : B ≤ w.heap.size) :
    RpW (w.alloc (.cells #[.int .i64 (node : Int), .int .i64 (n : Int), .int .u32 0, .int .u8 0, .string nov, .slice none 0 0, .slice none 0 0] 38)) B w.heap.size none 0 none 0 node n ⟨b0, nov, [], []⟩ :=
  ⟨heap_alloc_new w _, owns_nil0 _ _ _ _, owns_nil0 _ _ _ _, hB, by simp [blk], by simp [blk], by simp [blk], by simp, by simp, h3, h1, h2⟩
theorem own_gg {ao : Option Addr} {m cap gg H : Nat} (h : (Value.slice ao m cap).ownBlock = some gg ∨ gg = H) : gg ∈ blk ao ∨ gg = H := by
  rcases h with h | h
  · cases ao with
    | none => cases h
    | some a => simp [Value.ownBlock] at h; exact .inl (by simp [blk, h])
  · exact .inr h
/-- one more acceptor -/
theorem RpW.appF {wa w2 : World} {gg cap1 m H : Nat} {k : Int} (h : RpW w B hb fo fc lo lc node n s) (hm : s.F.length = m) (hm9 : m < 9) (ba : Below w.heap.size w wa) (hgrow : wa.grownBy w2 (Value.slice fo m fc).ownBlock)
    (hown : w2.ownsRow B 3 1 (.slice (some ⟨gg, 0, none⟩) (m + 1) cap1) (m + 1) (fl c1 s.F ++ [.int .i64 k])) (hat : (Value.slice fo m fc).ownBlock = some gg ∨ gg = H) (hH : w.heap.size ≤ H) (hB : B ≤ w.heap.size) :
    RpW (w2.setCell ⟨hb, 5, none⟩ (.slice (some ⟨gg, 0, none⟩) (m + 1) cap1)) B hb (some ⟨gg, 0, none⟩) cap1 lo lc node n ⟨s.bal, s.own, s.F ++ [k], s.L⟩ ∧
      Turned (hb :: (blk fo ++ blk lo)) (hb :: (blk (some (⟨gg, 0, none⟩ : Addr)) ++ blk lo)) w (w2.setCell ⟨hb, 5, none⟩ (.slice (some ⟨gg, 0, none⟩) (m + 1) cap1)) := by
  have hbl := h.blocks
  have kg : Keep (blk fo) w w2 := (Keep.of_below ba (blk fo)).trans (keep_grown hgrow)
  have ks := Keep.setCell w2 ⟨hb, 5, none⟩ (.slice (some ⟨gg, 0, none⟩) (m + 1) cap1)
  have hg := own_gg hat
  have hgb : gg ≠ hb := by
    rintro rfl
    rcases hg with hg | hg
    · exact h.apF hg
    · have := h.hlt; omega
  have hgl : ∀ q ∈ blk lo, gg ≠ q := by
    intro q hq e
    subst e
    rcases hg with hg | hg
    · exact h.ap _ hg hq
    · have := (hbl gg (by simp [hq])).2; omega
  have hlb : hb ∉ blk lo := h.apL
  have r2 : RowR w2 hb node n s.bal s.own (.slice fo s.F.length fc) (.slice lo s.L.length lc) := (kg.block hb h.hlt h.apF).trans h.row
  have hlen : (s.F ++ [k]).length = m + 1 := by rw [List.length_append, hm]; rfl
  refine ⟨⟨?_, ?_, ?_, h.base, by simpa [blk] using Ne.symm hgb, h.apL, ?_, by simp only [hlen]; omega, h.fewL, h.nd, h.n1, h.n9⟩, (kg.mono (T := hb :: (blk fo ++ blk lo)) (by intro q hq; simp [hq])).trans (ks.mono (by simp)), ?_⟩
  · simp only [hlen]
    exact heap_setCell_same w2 hb 5 _ _ _ r2
  · simp only [hlen]
    rw [show fl c1 (s.F ++ [k]) = fl c1 s.F ++ [.int .i64 k] by rw [fl_app, fl_one]]
    exact owns_keep hown ks (by intro q hq; simp [Value.ownBlock] at hq; subst hq; simpa using hgb)
  · exact owns_keep (owns_keep h.ownL kg (blk_own _ _ _ fun g hg hf => h.ap g hf hg)) ks (blk_own _ _ _ fun g hg => by simp; rintro rfl; exact hlb hg)
  · intro q hq hq2
    simp [blk] at hq
    subst hq
    exact hgl _ hq2 rfl
  · intro q hq
    simp [blk] at hq ⊢
    rcases hq with rfl | rfl | hq
    · simp
    · rcases hg with hg | hg
      · exact .inl (.inr (.inl (by simpa [blk] using hg)))
      · right; omega
    · exact .inl (.inr (.inr hq))
/-- one more that was accepted -/
theorem RpW.appL {wa w2 : World} {gg cap1 m H : Nat} {a : Ac} (h : RpW w B hb fo fc lo lc node n s) (hm : s.L.length = m) (hm9 : m < 9) (ba : Below w.heap.size w wa) (hgrow : wa.grownBy w2 (Value.slice lo m lc).ownBlock)
    (hown : w2.ownsRow B 42 4 (.slice (some ⟨gg, 0, none⟩) (m + 1) cap1) (m + 1) (fl cA s.L ++ cA a)) (hat : (Value.slice lo m lc).ownBlock = some gg ∨ gg = H) (hH : w.heap.size ≤ H) (hB : B ≤ w.heap.size) :
    RpW (w2.setCell ⟨hb, 6, none⟩ (.slice (some ⟨gg, 0, none⟩) (m + 1) cap1)) B hb fo fc (some ⟨gg, 0, none⟩) cap1 node n ⟨s.bal, s.own, s.F, s.L ++ [a]⟩ ∧
      Turned (hb :: (blk fo ++ blk lo)) (hb :: (blk fo ++ blk (some (⟨gg, 0, none⟩ : Addr)))) w (w2.setCell ⟨hb, 6, none⟩ (.slice (some ⟨gg, 0, none⟩) (m + 1) cap1)) := by
  have hbl := h.blocks
  have kg : Keep (blk lo) w w2 := (Keep.of_below ba (blk lo)).trans (keep_grown hgrow)
  have ks := Keep.setCell w2 ⟨hb, 6, none⟩ (.slice (some ⟨gg, 0, none⟩) (m + 1) cap1)
  have hg := own_gg hat
  have hgb : gg ≠ hb := by
    rintro rfl
    rcases hg with hg | hg
    · exact h.apL hg
    · have := h.hlt; omega
  have hgl : ∀ q ∈ blk fo, gg ≠ q := by
    intro q hq e
    subst e
    rcases hg with hg | hg
    · exact h.ap _ hq hg
    · have := (hbl gg (by simp [hq])).2; omega
  have r2 : RowR w2 hb node n s.bal s.own (.slice fo s.F.length fc) (.slice lo s.L.length lc) := (kg.block hb h.hlt h.apL).trans h.row
  have hlen : (s.L ++ [a]).length = m + 1 := by rw [List.length_append, hm]; rfl
  refine ⟨⟨?_, ?_, ?_, h.base, h.apF, by simpa [blk] using Ne.symm hgb, ?_, h.few, by simp only [hlen]; omega, h.nd, h.n1, h.n9⟩, (kg.mono (T := hb :: (blk fo ++ blk lo)) (by intro q hq; simp [hq])).trans (ks.mono (by simp)), ?_⟩
  · simp only [hlen]
    exact heap_setCell_same w2 hb 6 _ _ _ r2
  · exact owns_keep (owns_keep h.ownF kg (blk_own _ _ _ fun g hg hf => h.ap g hg hf)) ks (blk_own _ _ _ fun g hg => by simp; rintro rfl; exact h.apF hg)
  · simp only [hlen]
    rw [show fl cA (s.L ++ [a]) = fl cA s.L ++ cA a by rw [fl_app, fl_one]]
    exact owns_keep hown ks (by intro q hq; simp [Value.ownBlock] at hq; subst hq; simpa using hgb)
  · intro q hq hq2
    simp [blk] at hq2
    subst hq2
    exact hgl _ hq rfl
  · intro q hq
    simp [blk] at hq ⊢
    rcases hq with rfl | hq | rfl
    · simp
    · exact .inl (.inr (.inl hq))
    · rcases hg with hg | hg
      · exact .inl (.inr (.inr (by simpa [blk] using hg)))
      · right; omega
/-- what Begin answers and leaves -/
structure RBR where
  s : Rst
  b : Bl
  e : Int
def begR (node : Nat) (s : Rst) (r : Int) (v : ByteArray) : RBR :=
  if r = 0 then ⟨s, b0, 1⟩ else if r ≤ s.bal.round then ⟨s, b0, 111⟩ else ⟨⟨⟨r, node⟩, v, [], []⟩, ⟨r, node⟩, 0⟩
set_option maxHeartbeats 1600000 in
theorem rbegin_ok (r : Int) (hr : 0 < r) (hb' : s.bal.round < r) (v : ByteArray) (w : World) (h : RpW w B hb fo fc lo lc node n s) :
    Calls Try.prog 13 #[.pointer (some ⟨hb, 0, none⟩), .int .u32 r, .string v] w fun e w' =>
      e = .returned (.tuple #[.agg #[.int .u32 r, .int .u8 (node : Int)], .int .i64 0]) ∧ RpW w' B hb none 0 none 0 node n ⟨⟨r, node⟩, v, [], []⟩ ∧ Keep [hb] w w' := by
  have HB := Lib.hid (below_alloc (Below.refl w.heap.size w) (Bl.obj b0))
  have t0 := h.below HB.out
  have q0 := Row2.new w b0
  have HP := Lib.hid (show B ≤ hb ∧ hb < w.heap.size ∧ node ≤ 255 ∧ 1 ≤ n ∧ n ≤ 9 from ⟨h.base, h.hlt, h.nd, h.n1, h.n9⟩)
  have r0' := t0.row
  have hnd1 : (node : Int) ≤ 255 := by have := h.nd; omega
  have hnd0 : (0 : Int) ≤ (node : Int) := by omega
  simp only [Bl.obj] at r0' q0 HB
  clear t0 h
  go_enter Try.func13, Try.ntmps13
  go_upto_region 1 with (fail)
  generalize hW : w.alloc (.cells #[.int .u32 0, .int .u8 0] 34) = W at *
  generalize hbi : w.heap.size = bi at *
  have R0 := Lib.hid r0'; have Q0 := Lib.hid q0
  obtain ⟨c0, c1', c2, c3, c4, c5, c6⟩ := RowR.all r0'
  have f2 := RowR.fr r0' 2
  have f3 := RowR.fr r0' 3
  have f4 := RowR.fr r0' 4
  have f5 := RowR.fr r0' 5
  have f6 := RowR.fr r0' 6
  clear r0' q0 hW
  have hd : decide (r ≤ s.bal.round) = false := decide_eq_false (by omega)
  go_upto_region 9 with (fail)
  have r1 := layR_row (b := ⟨r, node⟩) (o2 := v) R0.out
  have kk1 := layR_keep W hb ⟨r, node⟩ v
  have q1 : Row2 _ bi b0 := row_keep Q0.out kk1 (by have := HP.out; simp; omega)
  simp only [layR] at r1 kk1 q1
  have R1 := Lib.hid r1; have K1 := Lib.hid kk1; have Q1 := Lib.hid q1
  clear r1 kk1 q1 R0 Q0 c0 c1' c2 c3 c4 c5 c6 f2 f3 f4 f5 f6 hd
  generalize ((((W.setCell ⟨hb, 2, none⟩ (.int .u32 r)).setCell ⟨hb, 3, none⟩ (.int .u8 (node : Int))).setCell ⟨hb, 4, none⟩ (.string v)).setCell ⟨hb, 5, none⟩ (.slice none 0 0)).setCell ⟨hb, 6, none⟩ (.slice none 0 0) = W1 at *
  obtain ⟨_, _, c2, c3, _⟩ := RowR.all R1.out
  obtain ⟨g0, g1, f0, f1⟩ := Row2.all Q1.out
  go_wp2_with fail
  have kk := lay2_keep W1 bi ⟨r, node⟩
  have p := HP.out
  refine bodyPost_ret (v := .tuple #[.agg #[.int .u32 r, .int .u8 (node : Int)], .int .i64 0]) (res_c1t1 Try.results13 rfl ?_ rfl) rfl ⟨rfl, ?_, ?_⟩
  · go_simp
  · exact ⟨row_keep R1.out kk (by simp; omega), owns_nil0 _ _ _ _, owns_nil0 _ _ _ _, p.1, by simp [blk], by simp [blk], by simp [blk], by simp, by simp, p.2.2.1, p.2.2.2.1, p.2.2.2.2⟩
  · have bw : Keep [hb] w W := Keep.of_below (by rw [hbi]; exact HB.out) _
    exact bw.cut ((K1.out.mono (T := [hb, bi]) (by simp)).trans (kk.mono (by simp))) (by rw [hbi]; simp)
set_option maxHeartbeats 800000 in
theorem rbegin_arg (v : ByteArray) (w : World) (h : RpW w B hb fo fc lo lc node n s) : Calls Try.prog 13 #[.pointer (some ⟨hb, 0, none⟩), .int .u32 0, .string v] w fun e w' => e = .returned (.tuple #[b0.ag, .int .i64 1]) ∧ Below w.heap.size w w' := by
  clear h
  go_enter Try.func13, Try.ntmps13
  go_wp2_with fail
  refine bodyPost_ret (v := .tuple #[b0.ag, .int .i64 1]) (res_c1t1 Try.results13 rfl ?_ rfl) rfl ⟨rfl, ?_⟩
  · go_simp
  · exact below_alloc (Below.refl _ _) _
set_option maxHeartbeats 800000 in
theorem rbegin_state (r : Int) (hr : 0 < r) (hb' : r ≤ s.bal.round) (v : ByteArray) (w : World) (h : RpW w B hb fo fc lo lc node n s) : Calls Try.prog 13 #[.pointer (some ⟨hb, 0, none⟩), .int .u32 r, .string v] w fun e w' => e = .returned (.tuple #[b0.ag, .int .i64 111]) ∧ Below w.heap.size w w' := by
  have c2 := (RowR.all (h.below (below_alloc (Below.refl _ _) (Bl.obj b0))).row).2.2.1
  have hd : decide (r ≤ s.bal.round) = true := decide_eq_true hb'
  clear h
  simp only [Bl.obj] at c2
  go_enter Try.func13, Try.ntmps13
  go_wp2_with fail
  refine bodyPost_ret (v := .tuple #[b0.ag, .int .i64 111]) (res_c1t1 Try.results13 rfl ?_ rfl) rfl ⟨rfl, ?_⟩
  · go_simp
  · exact below_alloc (Below.refl _ _) _
theorem rbegin_any (r : Int) (hr : (Lit.int .u32 r).wf = true) (v : ByteArray) (w : World) (h : Rp w B hb Bs node n s) :
    Calls Try.prog 13 #[.pointer (some ⟨hb, 0, none⟩), .int .u32 r, .string v] w fun e w' =>
      e = .returned (.tuple #[(begR node s r v).b.ag, .int .i64 (begR node s r v).e]) ∧ ∃ Bs', Rp w' B hb Bs' node n (begR node s r v).s ∧ Turned Bs Bs' w w' := by
  obtain ⟨fo, fc, lo, lc, rfl, h⟩ := h
  by_cases h0 : r = 0
  · have e : begR node s r v = ⟨s, b0, 1⟩ := by unfold begR; rw [if_pos h0]
    rw [e, h0]
    exact (rbegin_arg v w h).mono fun e w' ⟨h2, h3⟩ => ⟨h2, _, ⟨fo, fc, lo, lc, rfl, h.below h3⟩, Turned.below h3⟩
  · have hp : 0 < r := by
      simp [Lit.wf, IntKind.min, IntKind.max, IntKind.signed, IntKind.bits] at hr
      omega
    by_cases h1 : r ≤ s.bal.round
    · have e : begR node s r v = ⟨s, b0, 111⟩ := by unfold begR; rw [if_neg h0, if_pos h1]
      rw [e]
      exact (rbegin_state r hp h1 v w h).mono fun e w' ⟨h2, h3⟩ => ⟨h2, _, ⟨fo, fc, lo, lc, rfl, h.below h3⟩, Turned.below h3⟩
    · have e : begR node s r v = ⟨⟨⟨r, node⟩, v, [], []⟩, ⟨r, node⟩, 0⟩ := by unfold begR; rw [if_neg h0, if_neg h1]
      rw [e]
      exact (rbegin_ok r hp (by omega) v w h).mono fun e w' ⟨h2, h3, h4⟩ => ⟨h2, _, ⟨none, 0, none, 0, rfl, h3⟩, h4.mono (by simp), fun q hq => .inl (by simp [blk] at hq; simp [hq])⟩
end
end Go.Proofs.Ytgfalpiifgoonaa
