/- ProposerOneValue: the law's world in the heap: acceptors, proposers, learners, and all that was ever sent; each block has an owner. -/
import Derived.Test.YtgfalpiifgoonaaPz
import Derived.Test.YtgfalpiifgoonaaPac
namespace Go.Proofs.Ytgfalpiifgoonaa
open Go.RowKit Go.Sort
set_option linter.unusedVariables false
set_option linter.unusedSectionVars false
set_option linter.unusedSimpArgs false
set_option maxRecDepth 100000

abbrev in0 : In := ⟨0, 0, 0, 0⟩
theorem in0_ok : in0.Ok := ⟨by decide, by decide, by decide, by decide⟩
/-- a table that holds at most in0 -/
def fA (o : Option Rw) : Fn := fun i => if i = in0 then o else none
theorem fA_at (o : Option Rw) : fA o in0 = o := by simp [fA]
theorem fA_put (o : Option Rw) (r : Rw) : put (fA o) in0 (some r) = fA (some r) := by
  funext i
  simp only [put, upd, fA]
  split <;> rfl
abbrev nA (o : Option Rw) : Nat := if o.isSome then 1 else 0
theorem nA_put (o : Option Rw) (r : Rw) : putN (fA o) (nA o) in0 (some r) = nA (some r) := by
  cases o <;> simp [putN, fA, nA]
/-- a table's row is there, or made: there is always room -/
theorem stt_A (o : Option Rw) : stt (fA o in0) (nA o) 1 = some (o.getD r0) := by
  rw [fA_at]
  cases o <;> simp [stt, nA]
abbrev cM (m : Mg) : List Value := [.int .i64 m.to_, .int .i64 m.fr, .int .u32 m.b.round, .int .u8 m.b.node, .string m.v, .bool m.a.is, .int .u32 m.a.b.round, .int .u8 m.a.b.node, .string m.a.v]
theorem cM_len (m : Mg) : (cM m).length = 9 := rfl
/-- what is sent, by kinds -/
def PX.ms (x : PX) : Nat → List Mg
  | 2 => x.m2
  | 3 => x.m3
  | 4 => x.m4
  | 5 => x.m5
  | _ => []
/-- to whom, by kinds -/
def lim (n : Nat) : Nat → Nat
  | 2 => n
  | 3 => n
  | _ => 3
structure Mg.Ok (n i : Nat) (m : Mg) : Prop where
  to_ : m.to_ < lim n i
  fr : -1 ≤ m.fr ∧ m.fr < 5
  fr2 : i ≠ 3 → 0 ≤ m.fr
  fr3 : i = 2 → m.fr < 3
  bok : m.b.Ok
  vz : m.v.size ≤ 281474976710656
  abok : m.a.b.Ok
  avz : m.a.v.size ≤ 281474976710656
structure Hd where
  hA : Nat → Nat
  gA : Nat → Nat
  hP : Nat → Nat
  gP : Nat → Nat
  hL : Nat → Nat
  gL : Nat → Nat
  aA : Nat
  aP : Nat
  aL : Nat
  cA : Nat
  cP : Nat
  cL : Nat
  sl : Nat → Option Addr
  cap : Nat → Nat
abbrev ptrs (n : Nat) (f : Nat → Nat) : List Value := (List.range n).map fun k => .pointer (some ⟨f k, 0, none⟩)
abbrev Hd.sv (H : Hd) (x : PX) (i : Nat) : Value := .slice (H.sl i) (x.ms i).length (H.cap i)
def rowX (H : Hd) (n : Nat) (vote : ByteArray) (x : PX) : Array Value :=
  #[.slice (some ⟨H.aA, 0, none⟩) n H.cA, .slice (some ⟨H.aP, 0, none⟩) 3 H.cP, .slice (some ⟨H.aL, 0, none⟩) 3 H.cL, .int .u32 x.rd, .string vote, .slice none 0 0, .slice none 0 0, H.sv x 2, H.sv x 3, H.sv x 4, H.sv x 5]
/-- the parts but the block of x itself -/
structure Parts (w : World) (B n : Nat) (tg : Nat → Nat) (H : Hd) (c d : Nat) (x : PX) : Prop where
  n1 : 1 ≤ n
  n5 : n ≤ 5
  sA : w.ownsRow B 67 1 (.slice (some ⟨H.aA, 0, none⟩) n H.cA) n (ptrs n H.hA)
  sP : w.ownsRow B 23 1 (.slice (some ⟨H.aP, 0, none⟩) 3 H.cP) 3 (ptrs 3 H.hP)
  sL : w.ownsRow B 27 1 (.slice (some ⟨H.aL, 0, none⟩) 3 H.cL) 3 (ptrs 3 H.hL)
  tA : tg H.aA = 1
  tP : tg H.aP = 2
  tL : tg H.aL = 3
  tab : ∀ k, k < n → TabW w B (H.hA k) (H.gA k) 1 (nA (x.A k)) (fA (x.A k)) ∧ tg (H.hA k) = 100 + k ∧ tg (H.gA k) = 100 + k
  pro : ∀ j, j < 3 → Pr w B (H.hP j) (H.gP j) j n (x.P j) ∧ tg (H.hP j) = 200 + j ∧ tg (H.gP j) = 200 + j
  lea : ∀ j, j < 3 → Ln w B (H.hL j) (H.gL j) n (x.L j) c ∧ tg (H.hL j) = 300 + j ∧ tg (H.gL j) = 300 + j
  msg : ∀ i, 2 ≤ i → i ≤ 5 → w.ownsRow B 105 9 (H.sv x i) (x.ms i).length (fl cM (x.ms i)) ∧ ∀ g ∈ blk (H.sl i), tg g = 20 + i
  mok : ∀ i m, m ∈ x.ms i → m.Ok n i
  len : ∀ i, (x.ms i).length ≤ d
section
variable {w w' : World} {B n c d : Nat} {tg : Nat → Nat} {H : Hd} {x : PX} {U : List Nat}
/-- the parts whose owners are not t stay -/
theorem not_own {a t g : Nat} (hU : ∀ g ∈ U, tg g = t) (h : tg g = a) (hne : a ≠ t) : g ∉ U := fun hm => hne (h.symm.trans (hU g hm))
theorem Parts.keep (h : Parts w B n tg H c d x) (k : Keep U w w') (hU : ∀ g ∈ U, tg g = 0) : Parts w' B n tg H c d x where
  n1 := h.n1
  n5 := h.n5
  sA := owns_keep h.sA k (blk_own _ _ _ fun g hg => by obtain rfl : g = H.aA := by simpa [blk] using hg
                                                       exact not_own hU h.tA (by decide))
  sP := owns_keep h.sP k (blk_own _ _ _ fun g hg => by obtain rfl : g = H.aP := by simpa [blk] using hg
                                                       exact not_own hU h.tP (by decide))
  sL := owns_keep h.sL k (blk_own _ _ _ fun g hg => by obtain rfl : g = H.aL := by simpa [blk] using hg
                                                       exact not_own hU h.tL (by decide))
  tA := h.tA
  tP := h.tP
  tL := h.tL
  tab := fun i hi => let ⟨h1, h2, h3⟩ := h.tab i hi; ⟨h1.keep k (not_own hU h2 (by omega)) (not_own hU h3 (by omega)), h2, h3⟩
  pro := fun i hi => let ⟨h1, h2, h3⟩ := h.pro i hi; ⟨h1.keep k (not_own hU h2 (by omega)) (not_own hU h3 (by omega)), h2, h3⟩
  lea := fun i hi => let ⟨h1, h2, h3⟩ := h.lea i hi; ⟨h1.keep k (not_own hU h2 (by omega)) (not_own hU h3 (by omega)), h2, h3⟩
  msg := fun i h2 h5 => let ⟨g1, g2⟩ := h.msg i h2 h5; ⟨owns_keep g1 k (blk_own _ _ _ fun g hg => not_own hU (g2 g hg) (by omega)), g2⟩
  mok := h.mok
  len := h.len
theorem Parts.below (h : Parts w B n tg H c d x) (b : Below w.heap.size w w') : Parts w' B n tg H c d x := h.keep (Keep.of_below b []) (by simp)
/-- an acceptor's table has turned -/
theorem Parts.acc (h : Parts w B n tg H c d x) {k : Nat} (hk : k < n) (kp : Keep [H.gA k] w w') (r : Rw) (ht : TabW w' B (H.hA k) (H.gA k) 1 (nA (some r)) (fA (some r))) : Parts w' B n tg H c d {x with A := upA x.A k r} := by
  have hU : ∀ g ∈ [H.gA k], tg g = 100 + k := fun g hg => by rw [List.mem_singleton.1 hg]; exact (h.tab k hk).2.2
  exact {
    n1 := h.n1
    n5 := h.n5
    sA := owns_keep h.sA kp (blk_own _ _ _ fun g hg => by obtain rfl : g = H.aA := by simpa [blk] using hg
                                                          exact not_own hU h.tA (by omega))
    sP := owns_keep h.sP kp (blk_own _ _ _ fun g hg => by obtain rfl : g = H.aP := by simpa [blk] using hg
                                                          exact not_own hU h.tP (by omega))
    sL := owns_keep h.sL kp (blk_own _ _ _ fun g hg => by obtain rfl : g = H.aL := by simpa [blk] using hg
                                                          exact not_own hU h.tL (by omega))
    tA := h.tA
    tP := h.tP
    tL := h.tL
    tab := fun i hi => by
      obtain ⟨h1, h2, h3⟩ := h.tab i hi
      refine ⟨?_, h2, h3⟩
      by_cases e : i = k
      · subst e
        simp only [upA, if_pos]
        exact ht
      · simp only [upA, if_neg e]
        exact h1.keep kp (not_own hU h2 (by omega)) (not_own hU h3 (by omega))
    pro := fun i hi => let ⟨h1, h2, h3⟩ := h.pro i hi; ⟨h1.keep kp (not_own hU h2 (by have := h.n5; omega)) (not_own hU h3 (by have := h.n5; omega)), h2, h3⟩
    lea := fun i hi => let ⟨h1, h2, h3⟩ := h.lea i hi; ⟨h1.keep kp (not_own hU h2 (by have := h.n5; omega)) (not_own hU h3 (by have := h.n5; omega)), h2, h3⟩
    msg := fun i h2 h5 => let ⟨g1, g2⟩ := h.msg i h2 h5; ⟨owns_keep g1 kp (blk_own _ _ _ fun g hg => not_own hU (g2 g hg) (by omega)), g2⟩
    mok := h.mok
    len := h.len }
/-- a proposer has turned -/
theorem Parts.prop (h : Parts w B n tg H c d x) {j : Nat} (hj : j < 3) (kp : Keep [H.hP j, H.gP j] w w') (s : Pst) (ht : Pr w' B (H.hP j) (H.gP j) j n s) : Parts w' B n tg H c d {x with P := upP x.P j s} := by
  have hU : ∀ g ∈ [H.hP j, H.gP j], tg g = 200 + j := fun g hg => by
    simp only [List.mem_cons, List.not_mem_nil, or_false] at hg
    rcases hg with rfl | rfl
    · exact (h.pro j hj).2.1
    · exact (h.pro j hj).2.2
  exact {
    n1 := h.n1
    n5 := h.n5
    sA := owns_keep h.sA kp (blk_own _ _ _ fun g hg => by obtain rfl : g = H.aA := by simpa [blk] using hg
                                                          exact not_own hU h.tA (by omega))
    sP := owns_keep h.sP kp (blk_own _ _ _ fun g hg => by obtain rfl : g = H.aP := by simpa [blk] using hg
                                                          exact not_own hU h.tP (by omega))
    sL := owns_keep h.sL kp (blk_own _ _ _ fun g hg => by obtain rfl : g = H.aL := by simpa [blk] using hg
                                                          exact not_own hU h.tL (by omega))
    tA := h.tA
    tP := h.tP
    tL := h.tL
    tab := fun i hi => let ⟨h1, h2, h3⟩ := h.tab i hi; ⟨h1.keep kp (not_own hU h2 (by have := h.n5; omega)) (not_own hU h3 (by have := h.n5; omega)), h2, h3⟩
    pro := fun i hi => by
      obtain ⟨h1, h2, h3⟩ := h.pro i hi
      refine ⟨?_, h2, h3⟩
      by_cases e : i = j
      · subst e
        simp only [upP, if_pos]
        exact ht
      · simp only [upP, if_neg e]
        exact h1.keep kp (not_own hU h2 (by omega)) (not_own hU h3 (by omega))
    lea := fun i hi => let ⟨h1, h2, h3⟩ := h.lea i hi; ⟨h1.keep kp (not_own hU h2 (by omega)) (not_own hU h3 (by omega)), h2, h3⟩
    msg := fun i h2 h5 => let ⟨g1, g2⟩ := h.msg i h2 h5; ⟨owns_keep g1 kp (blk_own _ _ _ fun g hg => not_own hU (g2 g hg) (by omega)), g2⟩
    mok := h.mok
    len := h.len }
/-- a learner has turned -/
theorem Parts.learn (h : Parts w B n tg H c d x) {j : Nat} (hj : j < 3) (kp : Keep [H.hL j, H.gL j] w w') (s : Lst) (ht : Ln w' B (H.hL j) (H.gL j) n s (c + 1)) : Parts w' B n tg H (c + 1) d {x with L := upP x.L j s} := by
  have hU : ∀ g ∈ [H.hL j, H.gL j], tg g = 300 + j := fun g hg => by
    simp only [List.mem_cons, List.not_mem_nil, or_false] at hg
    rcases hg with rfl | rfl
    · exact (h.lea j hj).2.1
    · exact (h.lea j hj).2.2
  exact {
    n1 := h.n1
    n5 := h.n5
    sA := owns_keep h.sA kp (blk_own _ _ _ fun g hg => by obtain rfl : g = H.aA := by simpa [blk] using hg
                                                          exact not_own hU h.tA (by omega))
    sP := owns_keep h.sP kp (blk_own _ _ _ fun g hg => by obtain rfl : g = H.aP := by simpa [blk] using hg
                                                          exact not_own hU h.tP (by omega))
    sL := owns_keep h.sL kp (blk_own _ _ _ fun g hg => by obtain rfl : g = H.aL := by simpa [blk] using hg
                                                          exact not_own hU h.tL (by omega))
    tA := h.tA
    tP := h.tP
    tL := h.tL
    tab := fun i hi => let ⟨h1, h2, h3⟩ := h.tab i hi; ⟨h1.keep kp (not_own hU h2 (by have := h.n5; omega)) (not_own hU h3 (by have := h.n5; omega)), h2, h3⟩
    pro := fun i hi => let ⟨h1, h2, h3⟩ := h.pro i hi; ⟨h1.keep kp (not_own hU h2 (by omega)) (not_own hU h3 (by omega)), h2, h3⟩
    lea := fun i hi => by
      obtain ⟨h1, h2, h3⟩ := h.lea i hi
      refine ⟨?_, h2, h3⟩
      by_cases e : i = j
      · subst e
        simp only [upP, if_pos]
        exact ht
      · simp only [upP, if_neg e]
        exact (h1.keep kp (not_own hU h2 (by omega)) (not_own hU h3 (by omega))).more (by omega)
    msg := fun i h2 h5 => let ⟨g1, g2⟩ := h.msg i h2 h5; ⟨owns_keep g1 kp (blk_own _ _ _ fun g hg => not_own hU (g2 g hg) (by omega)), g2⟩
    mok := h.mok
    len := h.len }
/-! ### a message is sent -/
def PX.adds (x : PX) (i : Nat) (l : List Mg) : PX := match i with
  | 2 => {x with m2 := x.m2 ++ l}
  | 3 => {x with m3 := x.m3 ++ l}
  | 4 => {x with m4 := x.m4 ++ l}
  | 5 => {x with m5 := x.m5 ++ l}
  | _ => x
theorem PX.adds_rest (x : PX) (i : Nat) (l : List Mg) : (x.adds i l).A = x.A ∧ (x.adds i l).P = x.P ∧ (x.adds i l).L = x.L ∧ (x.adds i l).rd = x.rd ∧ (x.adds i l).ds = x.ds := by
  unfold PX.adds
  split <;> exact ⟨rfl, rfl, rfl, rfl, rfl⟩
theorem PX.adds_at (x : PX) {i : Nat} (h2 : 2 ≤ i) (h5 : i ≤ 5) (l : List Mg) : (x.adds i l).ms i = x.ms i ++ l := by
  rcases (show i = 2 ∨ i = 3 ∨ i = 4 ∨ i = 5 by omega) with rfl | rfl | rfl | rfl <;> rfl
theorem PX.adds_ne (x : PX) {i j : Nat} (l : List Mg) (h : j ≠ i) : (x.adds i l).ms j = x.ms j := by
  unfold PX.adds
  split <;> (unfold PX.ms; split <;> first | rfl | omega)
theorem PX.adds_adds (x : PX) (i : Nat) (l m : List Mg) : (x.adds i l).adds i m = x.adds i (l ++ m) := by
  unfold PX.adds
  split <;> simp
theorem PX.adds_nil (x : PX) (i : Nat) : x.adds i [] = x := by
  unfold PX.adds
  split <;> simp
def Hd.at_ (H : Hd) (i : Nat) (ao : Option Addr) (cap : Nat) : Hd := {H with sl := fun j => if j = i then ao else H.sl j, cap := fun j => if j = i then cap else H.cap j}
def own2 (tg : Nat → Nat) (ao : Option Addr) (t : Nat) : Nat → Nat := fun g => if g ∈ blk ao then t else tg g
theorem Parts.more (h : Parts w B n tg H c d x) {i : Nat} (h2 : 2 ≤ i) (h5 : i ≤ 5) {m : Mg} (hm : m.Ok n i) {ao : Option Addr} {cap : Nat} (kp : Keep (blk (H.sl i)) w w') (hb : ∀ g ∈ blk ao, g ∈ blk (H.sl i) ∨ w.heap.size ≤ g)
    (ho : w'.ownsRow B 105 9 (.slice ao ((x.ms i).length + 1) cap) ((x.ms i).length + 1) (fl cM (x.ms i) ++ cM m)) : Parts w' B n (own2 tg ao (20 + i)) (H.at_ i ao cap) c (d + 1) (x.adds i [m]) := by
  obtain ⟨rA, rP, rL, _, _⟩ := x.adds_rest i [m]
  have hU : ∀ g ∈ blk (H.sl i), tg g = 20 + i := (h.msg i h2 h5).2
  have hT : ∀ {g t : Nat}, tg g = t → t ≠ 20 + i → g < w.heap.size → own2 tg ao (20 + i) g = t := fun {g t} e hne hlt => by
    unfold own2
    rw [if_neg fun hg => ?_]
    · exact e
    · rcases hb g hg with h1 | h1
      · exact hne (e.symm.trans (hU g h1))
      · omega
  have lt3 : ∀ {f : Nat} {t : TypeId} {z k : Nat} {xs : List Value} {cp : Nat}, w.ownsRow B t z (.slice (some ⟨f, 0, none⟩) k cp) k xs → f < w.heap.size := fun ho => (owns_blk ho _ (by simp [blk])).2
  exact {
    n1 := h.n1
    n5 := h.n5
    sA := owns_keep h.sA kp (blk_own _ _ _ fun g hg => by obtain rfl : g = H.aA := by simpa [blk, Hd.at_] using hg
                                                          exact not_own hU h.tA (by omega))
    sP := owns_keep h.sP kp (blk_own _ _ _ fun g hg => by obtain rfl : g = H.aP := by simpa [blk, Hd.at_] using hg
                                                          exact not_own hU h.tP (by omega))
    sL := owns_keep h.sL kp (blk_own _ _ _ fun g hg => by obtain rfl : g = H.aL := by simpa [blk, Hd.at_] using hg
                                                          exact not_own hU h.tL (by omega))
    tA := hT h.tA (by omega) (lt3 h.sA)
    tP := hT h.tP (by omega) (lt3 h.sP)
    tL := hT h.tL (by omega) (lt3 h.sL)
    tab := fun k hk => by
      rw [rA]
      obtain ⟨g1, g2, g3⟩ := h.tab k hk
      exact ⟨g1.keep kp (not_own hU g2 (by omega)) (not_own hU g3 (by omega)), hT g2 (by omega) g1.hlt, hT g3 (by omega) g1.map.lt⟩
    pro := fun j hj => by
      rw [rP]
      obtain ⟨g1, g2, g3⟩ := h.pro j hj
      exact ⟨g1.keep kp (not_own hU g2 (by omega)) (not_own hU g3 (by omega)), hT g2 (by omega) (RowP.lt g1.row), hT g3 (by omega) g1.map.lt⟩
    lea := fun j hj => by
      rw [rL]
      obtain ⟨g1, g2, g3⟩ := h.lea j hj
      exact ⟨g1.keep kp (not_own hU g2 (by omega)) (not_own hU g3 (by omega)), hT g2 (by omega) (Array.getElem?_eq_some_iff.1 g1.row.1).1, hT g3 (by omega) (let ⟨_, _, q⟩ := g1.map; q.lt)⟩
    msg := fun j h6 h7 => by
      by_cases e : j = i
      · subst e
        simp only [Hd.sv, Hd.at_, if_pos]
        rw [PX.adds_at x h2 h5]
        refine ⟨?_, fun g hg => by simp [own2, hg]⟩
        simp only [List.length_append, List.length_singleton, fl_app, fl_one]
        exact ho
      · simp only [Hd.sv, Hd.at_, if_neg e]
        rw [PX.adds_ne x [m] e]
        obtain ⟨g1, g2⟩ := h.msg j h6 h7
        exact ⟨owns_keep g1 kp (blk_own _ _ _ fun g hg => not_own hU (g2 g hg) (by omega)), fun g hg => hT (g2 g hg) (by omega) (owns_blk g1 g hg).2⟩
    mok := fun j q hq => by
      by_cases e : j = i
      · subst e
        rw [PX.adds_at x h2 h5] at hq
        rcases List.mem_append.1 hq with hq | hq
        · exact h.mok _ _ hq
        · rw [List.mem_singleton.1 hq]; exact hm
      · rw [PX.adds_ne x [m] e] at hq
        exact h.mok _ _ hq
    len := fun j => by
      have := h.len j
      by_cases e : j = i
      · subst e
        rw [PX.adds_at x h2 h5]
        simp only [List.length_append, List.length_singleton]
        omega
      · rw [PX.adds_ne x [m] e]
        omega }
end
end Go.Proofs.Ytgfalpiifgoonaa
