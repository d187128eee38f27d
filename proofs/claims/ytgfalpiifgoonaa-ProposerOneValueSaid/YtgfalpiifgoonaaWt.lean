/- ProposerOneValue: blocks that the law made itself; how steps follow one another. -/
import Derived.Test.YtgfalpiifgoonaaWs
import Derived.Deep.CutRange
import Derived.Deep.AppendLies
import Derived.Deep.RegionLaw
import Derived.StillTailTactics
namespace Go.Proofs.Ytgfalpiifgoonaa
open Go.RowKit Go.Sort
set_option linter.unusedVariables false
set_option linter.unusedSectionVars false
set_option linter.unusedSimpArgs false
set_option maxRecDepth 100000
section
variable {w w' w'' : World} {B xb n c d : Nat} {tg tg' tg'' : Nat → Nat} {H : Hd} {vote : ByteArray} {x : PX} {U : List Nat}
/-- only blocks that are there are asked for their owner -/
theorem Parts.retag (h : Parts w B n tg H c d x) (ht : ∀ g, g < w.heap.size → tg' g = tg g) : Parts w B n tg' H c d x where
  n1 := h.n1
  n5 := h.n5
  sA := h.sA
  sP := h.sP
  sL := h.sL
  tA := (ht _ (owns_blk h.sA _ (by simp [blk])).2).trans h.tA
  tP := (ht _ (owns_blk h.sP _ (by simp [blk])).2).trans h.tP
  tL := (ht _ (owns_blk h.sL _ (by simp [blk])).2).trans h.tL
  tab := fun k hk => let ⟨g1, g2, g3⟩ := h.tab k hk; ⟨g1, (ht _ g1.hlt).trans g2, (ht _ g1.map.lt).trans g3⟩
  pro := fun j hj => let ⟨g1, g2, g3⟩ := h.pro j hj; ⟨g1, (ht _ (RowP.lt g1.row)).trans g2, (ht _ g1.map.lt).trans g3⟩
  lea := fun j hj => let ⟨g1, g2, g3⟩ := h.lea j hj; ⟨g1, (ht _ (Array.getElem?_eq_some_iff.1 g1.row.1).1).trans g2, (ht _ (let ⟨_, _, q⟩ := g1.map; q.lt)).trans g3⟩
  msg := fun i h2 h5 => let ⟨g1, g2⟩ := h.msg i h2 h5; ⟨g1, fun g hg => (ht g (owns_blk g1 g hg).2).trans (g2 g hg)⟩
  mok := h.mok
  len := h.len
theorem WdW.retag (h : WdW w B xb n tg H c d vote x) (ht : ∀ g, g < w.heap.size → tg' g = tg g) : WdW w B xb n tg' H c d vote x :=
  ⟨h.pt.retag ht, h.row, (ht _ h.lt).trans h.xt, h.base⟩
/-- what is made from here on is the law's own -/
def ours (tg : Nat → Nat) (s : Nat) : Nat → Nat := fun g => if s ≤ g then 4 else tg g
theorem ours_lt {s g : Nat} (h : g < s) : ours tg s g = tg g := by unfold ours; rw [if_neg (by omega)]
theorem ours_ge {s g : Nat} (h : s ≤ g) : ours tg s g = 4 := by unfold ours; rw [if_pos h]
theorem WdW.ours (h : WdW w B xb n tg H c d vote x) : WdW w B xb n (ours tg w.heap.size) H c d vote x := h.retag fun g hg => ours_lt hg
theorem Trn.refl (B : Nat) (tg : Nat → Nat) (w : World) : Trn B tg tg w w := ⟨Below.refl _ _, fun g _ h => ⟨rfl, h⟩⟩
theorem Trn.trans (h : Trn B tg tg' w w') (k : Trn B tg' tg'' w' w'') : Trn B tg tg'' w w'' :=
  ⟨h.bel.trans k.bel, fun g hg ht => let ⟨h1, h2⟩ := h.own g hg ht; let ⟨k1, k2⟩ := k.own g (Nat.lt_of_lt_of_le hg h.bel.size) h2; ⟨k1.trans h1, k2⟩⟩
theorem Trn.below (b : Below w.heap.size w w') (hB : B ≤ w.heap.size) : Trn B tg tg w w' := ⟨b.mono hB, fun g hg ht => ⟨b.block g hg, ht⟩⟩
theorem Trn.keep (k : Keep U w w') (hU : ∀ g ∈ U, tg g ≠ 4) (hB : B ≤ w.heap.size) (hb : ∀ g ∈ U, B ≤ g) : Trn B tg tg w w' :=
  ⟨k.below hB hb, fun g hg ht => ⟨k.block g hg fun hm => hU g hm ht, ht⟩⟩
theorem Trn.row (h : Trn B tg tg' w w') {g : Nat} {o : Obj} (hr : w.heap[g]? = some o) (ht : tg g = 4) : w'.heap[g]? = some o ∧ tg' g = 4 :=
  let ⟨h1, h2⟩ := h.own g (Array.getElem?_eq_some_iff.1 hr).1 ht; ⟨h1.trans hr, h2⟩
/-- the beginning of a step, whose own blocks are the law's -/
theorem Trn.start (h : Trn B (ours tg w.heap.size) tg' w w') : Trn B tg tg' w w' := ⟨h.bel, fun g hg ht => h.own g hg ((ours_lt hg).trans ht)⟩
theorem WdW.trn_sent (h : WdW w B xb n tg H c d vote x) {i : Nat} (h2 : 2 ≤ i) (h5 : i ≤ 5) {ao : Option Addr} {cap k : Nat} (kp : Keep (blk (H.sl i)) w w') (hb : ∀ g ∈ blk ao, g ∈ blk (H.sl i) ∨ w.heap.size ≤ g) :
    Trn B tg (own2 tg ao (20 + i)) w (w'.setCell ⟨xb, 5 + i, none⟩ (.slice ao k cap)) := by
  obtain ⟨ho, ht⟩ := h.pt.msg i h2 h5
  have hBs : B ≤ w.heap.size := by have := h.base; have := h.lt; omega
  refine ⟨(kp.below hBs fun g hg => (owns_blk ho g hg).1).trans ((Keep.setCell w' ⟨xb, 5 + i, none⟩ _).below (Nat.le_trans hBs kp.size) fun g hg => by rw [List.mem_singleton.1 hg]; exact h.base), fun g hg h4 => ⟨?_, ?_⟩⟩
  · have n1 : g ∉ blk (H.sl i) := fun hm => by have := ht g hm; omega
    have n2 : g ∉ [(⟨xb, 5 + i, none⟩ : Addr).block] := fun hm => by
      have := List.mem_singleton.1 hm
      rw [this] at h4
      have := h.xt
      simp only at h4; omega
    exact ((Keep.setCell w' ⟨xb, 5 + i, none⟩ _).block g (Nat.lt_of_lt_of_le hg kp.size) n2).trans (kp.block g hg n1)
  · unfold own2
    rw [if_neg fun hm => ?_]
    · exact h4
    · rcases hb g hm with h1 | h1
      · have := ht g h1; omega
      · omega
/-- a table has turned, or not -/
theorem Parts.acc2 (h : Parts w B n tg H c d x) {k : Nat} (hk : k < n) (kp : Keep [H.gA k] w w') (o : Option Rw) (ht : TabW w' B (H.hA k) (H.gA k) 1 (nA o) (fA o)) : Parts w' B n tg H c d {x with A := fun i => if i = k then o else x.A i} := by
  have hU : ∀ g ∈ [H.gA k], tg g = 100 + k := fun g hg => by rw [List.mem_singleton.1 hg]; exact (h.tab k hk).2.2
  exact {
    n1 := h.n1
    n5 := h.n5
    sA := owns_keep h.sA kp (blk_own _ _ _ fun g hg => by obtain rfl : g = H.aA := by simpa [blk] using hg
                                                          exact not_own hU h.tA (by omega))
    sP := owns_keep h.sP kp (blk_own _ _ _ fun g hg => by obtain rfl : g = H.aP := by simpa [blk] using hg
                                                          exact not_own hU h.tP (by omega))
    sL := owns_keep h.sL kp (blk_own _ _ _ fun g hg => by obtain rfl : g = H.aL := by simpa [blk] using hg
                                                          exact not_own hU h.tL (by omega))
    tA := h.tA
    tP := h.tP
    tL := h.tL
    tab := fun i hi => by
      obtain ⟨h1, h2, h3⟩ := h.tab i hi
      refine ⟨?_, h2, h3⟩
      by_cases e : i = k
      · subst e
        simp only [if_pos]
        exact ht
      · simp only [if_neg e]
        exact h1.keep kp (not_own hU h2 (by omega)) (not_own hU h3 (by omega))
    pro := fun i hi => let ⟨h1, h2, h3⟩ := h.pro i hi; ⟨h1.keep kp (not_own hU h2 (by have := h.n5; omega)) (not_own hU h3 (by have := h.n5; omega)), h2, h3⟩
    lea := fun i hi => let ⟨h1, h2, h3⟩ := h.lea i hi; ⟨h1.keep kp (not_own hU h2 (by have := h.n5; omega)) (not_own hU h3 (by have := h.n5; omega)), h2, h3⟩
    msg := fun i h2 h5 => let ⟨g1, g2⟩ := h.msg i h2 h5; ⟨owns_keep g1 kp (blk_own _ _ _ fun g hg => not_own hU (g2 g hg) (by omega)), g2⟩
    mok := h.mok
    len := h.len }
theorem WdW.acc2 (h : WdW w B xb n tg H c d vote x) {k : Nat} (hk : k < n) (kp : Keep [H.gA k] w w') (o : Option Rw) (ht : TabW w' B (H.hA k) (H.gA k) 1 (nA o) (fA o)) : WdW w' B xb n tg H c d vote {x with A := fun i => if i = k then o else x.A i} :=
  ⟨h.pt.acc2 hk kp o ht, row_keep h.row kp (fun hm => by
    have h1 := (h.pt.tab k hk).2.2
    rw [← List.mem_singleton.1 hm, h.xt] at h1
    omega), h.xt, h.base⟩
theorem PX.acc_same (x : PX) (k : Nat) : ({x with A := fun i => if i = k then x.A k else x.A i} : PX) = x := by
  have : (fun i => if i = k then x.A k else x.A i) = x.A := by
    funext i
    by_cases e : i = k
    · rw [if_pos e, e]
    · rw [if_neg e]
  rw [this]
theorem WdW.trn_acc (h : WdW w B xb n tg H c d vote x) {k : Nat} (hk : k < n) (kp : Keep [H.gA k] w w') : Trn B tg tg w w' :=
  Trn.keep kp (fun g hg => by rw [List.mem_singleton.1 hg, (h.pt.tab k hk).2.2]; omega) (by have := h.base; have := h.lt; omega) (fun g hg => by rw [List.mem_singleton.1 hg]; exact (h.pt.tab k hk).1.gbase)
theorem WdW.prop (h : WdW w B xb n tg H c d vote x) {j : Nat} (hj : j < 3) (kp : Keep [H.hP j, H.gP j] w w') (s : Pst) (ht : Pr w' B (H.hP j) (H.gP j) j n s) : WdW w' B xb n tg H c d vote {x with P := upP x.P j s} :=
  ⟨h.pt.prop hj kp s ht, row_keep h.row kp (fun hm => by
    obtain ⟨_, h2, h3⟩ := h.pt.pro j hj
    have := h.xt
    simp only [List.mem_cons, List.not_mem_nil, or_false] at hm
    rcases hm with e | e
    · rw [e] at this; omega
    · rw [e] at this; omega), h.xt, h.base⟩
theorem WdW.trn_prop (h : WdW w B xb n tg H c d vote x) {j : Nat} (hj : j < 3) (kp : Keep [H.hP j, H.gP j] w w') : Trn B tg tg w w' := by
  obtain ⟨h1, h2, h3⟩ := h.pt.pro j hj
  refine Trn.keep kp (fun g hg => ?_) (by have := h.base; have := h.lt; omega) (fun g hg => ?_) <;>
  · simp only [List.mem_cons, List.not_mem_nil, or_false] at hg
    rcases hg with rfl | rfl
    · first | omega | exact h1.base
    · first | omega | exact h1.gbase
theorem Holds.keep {L : List (Addr × Value)} (h : Holds w L) (k : Keep U w w') (hn : ∀ p ∈ L, p.1.block ∉ U) : Holds w' L := fun p hp => by
  obtain ⟨h1, h2⟩ := h p hp
  exact ⟨(k.cell h2 (hn p hp)).trans h1, Nat.lt_of_lt_of_le h2 k.size⟩
theorem Holds.set {L : List (Addr × Value)} (h : Holds w L) (a : Addr) (v : Value) (hn : ∀ p ∈ L, p.1 ≠ a) : Holds (w.setCell a v) L := fun p hp => by
  obtain ⟨h1, h2⟩ := h p hp
  exact ⟨(World.cell?_setCell_other _ _ _ _ (fun e => hn p hp e.symm)).trans h1, by simpa [World.setCell] using h2⟩
theorem WdW.src_not (h : WdW w B xb n tg H c d vote x) {i g : Nat} (h2 : 2 ≤ i) (h5 : i ≤ 5) (hg : tg g = 4 ∨ tg g = 0) : g ∉ blk (H.sl i) := fun hm => by
  have := (h.pt.msg i h2 h5).2 g hm
  omega
/-- a list's own row, its parts by name -/
theorem WdW.list (h : WdW w B xb n tg H c d vote x) {i : Nat} (h2 : 2 ≤ i) (h5 : i ≤ 5) {so : Option Addr} {sn sc : Nat} (e1 : H.sl i = so) (e2 : (x.ms i).length = sn) (e3 : H.cap i = sc) :
    w.ownsRow B 105 9 (.slice so sn sc) sn (fl cM (x.ms i)) ∧ w.cell? ⟨xb, 5 + i, none⟩ = some (.slice so sn sc) ∧ w.frozen? ⟨xb, 5 + i, none⟩ = false ∧ sn ≤ d ∧ xb ∉ blk so := by
  have h1 := (h.pt.msg i h2 h5).1
  have h3 := h.l (i := i) (by omega)
  have h4 := h.pt.len i
  have h6 := h.src_not h2 h5 (g := xb) (.inr h.xt)
  unfold PX.lv at h3
  rw [if_neg (by omega)] at h3
  simp only [Hd.sv] at h1 h3
  rw [e1, e2, e3] at h1 h3
  rw [e2] at h4
  rw [e1] at h6
  exact ⟨h1, h3, h.fr _, h4, h6⟩
/-- a message is appended to a list -/
theorem WdW.push {v1 v3 : World} (h : WdW w B xb n tg H c d vote x) {i : Nat} (h2 : 2 ≤ i) (h5 : i ≤ 5) {so : Option Addr} {sn sc : Nat} (e1 : H.sl i = so) (e2 : (x.ms i).length = sn) (e3 : H.cap i = sc) {m : Mg} (hm : m.Ok n i)
    (b1 : Below w.heap.size w v1) {g cap : Nat} (own : v3.ownsRow B 105 9 (.slice (some ⟨g, 0, none⟩) (sn + 1) cap) (sn + 1) (fl cM (x.ms i) ++ cM m))
    (gr : v1.grownBy v3 (Value.slice so sn sc).ownBlock) (hat : (Value.slice so sn sc).ownBlock = some g ∨ g = v1.heap.size) :
    (∃ tg' H', WdW (v3.setCell ⟨xb, 5 + i, none⟩ (.slice (some ⟨g, 0, none⟩) (sn + 1) cap)) B xb n tg' H' c (d + 1) vote (x.adds i [m]) ∧ Trn B tg tg' w (v3.setCell ⟨xb, 5 + i, none⟩ (.slice (some ⟨g, 0, none⟩) (sn + 1) cap))) ∧
      Keep (blk so) v1 v3 ∧ v3.cell? ⟨xb, 5 + i, none⟩ = some (.slice so sn sc) ∧ v3.frozen? ⟨xb, 5 + i, none⟩ = false := by
  obtain ⟨_, l2, l3, _, l5⟩ := h.list h2 h5 e1 e2 e3
  have kg := keep_grown gr
  have kp : Keep (blk so) w v3 := (Keep.of_below b1 _).trans kg
  have hb : ∀ q ∈ blk (some (⟨g, 0, none⟩ : Addr)), q ∈ blk (H.sl i) ∨ w.heap.size ≤ q := by
    intro q hq
    have hq : q = g := by simpa [blk] using hq
    subst hq
    rw [e1]
    rcases hat with e | e
    · left
      cases so with
      | none => cases e
      | some a => simp [Value.ownBlock] at e; simp [blk, e]
    · right; rw [e]; exact b1.size
  have kp' := kp
  have own' := own
  rw [← e1] at kp'
  rw [← e2] at own'
  refine ⟨⟨_, _, e2 ▸ h.sent h2 h5 hm kp' hb own', h.trn_sent h2 h5 kp' hb⟩, kg, ?_, ?_⟩
  · exact (kp.cell (a := ⟨xb, 5 + i, none⟩) h.lt l5).trans l2
  · exact (kp.frozen (a := ⟨xb, 5 + i, none⟩) h.lt l5).trans l3
theorem WdW.ds (h : WdW w B xb n tg H c d vote x) (l : List ByteArray) : WdW w B xb n tg H c d vote {x with ds := l} :=
  ⟨⟨h.pt.n1, h.pt.n5, h.pt.sA, h.pt.sP, h.pt.sL, h.pt.tA, h.pt.tP, h.pt.tL, h.pt.tab, h.pt.pro, h.pt.lea, h.pt.msg, h.pt.mok, h.pt.len⟩, h.row, h.xt, h.base⟩
theorem b0_ok : b0.Ok := ⟨by decide, by decide⟩
theorem sent_info : (Try.prog.info? 105).map (fun i => (i.zero, i.size, i.bytes)) = some (some (.agg #[.int .i64 0, .int .i64 0, .int .u32 0, .int .u8 0, .string ⟨#[]⟩, .bool false, .int .u32 0, .int .u8 0, .string ⟨#[]⟩]), 9, 72) := by kernel_rfl
theorem cM_one (m : Mg) : ∀ u ∈ cM m, u.oneCell' = true := by
  intro u hu
  simp only [List.mem_cons, List.not_mem_nil, or_false] at hu
  rcases hu with rfl | rfl | rfl | rfl | rfl | rfl | rfl | rfl | rfl <;> rfl
/-- the cells of a message in a block of its own -/
theorem news_cM {m : Mg} {b : Nat} (h : w.heap[b]? = some (.cells ⟨cM m⟩ 105 (0, 0))) : ∀ (j : Nat) (u : Value), (cM m)[j]? = some u → w.cell? ((⟨b, 0, none⟩ : Addr).add j) = some u := by
  intro j u hu
  have hadd : (⟨b, 0, none⟩ : Addr).add j = ⟨b, j, none⟩ := by unfold Addr.add; split <;> simp_all
  rw [hadd, cell_of_row w b j _ _ (0, 0) h]
  simpa using hu
/-- what an acceptor holds behind Prepare -/
def o2P (x : PX) (k : Nat) (b : Bl) : Option Rw := if low b (x.r k).p = true then x.A k else some ⟨b, (x.r k).a⟩
def o2A (x : PX) (k : Nat) (b : Bl) (v : ByteArray) : Option Rw := if low b (x.r k).p = true then x.A k else some ⟨b, ⟨true, b, v⟩⟩
theorem prep_x (h : WdW w B xb n tg H c d vote x) {k : Nat} (hk : k < n) (b : Bl) (w' : World) (bl : Below w.heap.size w w') : Calls Try.prog 30 #[.pointer (some ⟨H.hA k, 0, none⟩), in0.ag, b.ag] w' fun e w'' =>
    e = .returned (.tuple #[(prR (some (x.r k)) b).a.ag, (prR (some (x.r k)) b).p.ag, .bool (prR (some (x.r k)) b).ok, .int .i64 (prR (some (x.r k)) b).e]) ∧ TabW w'' B (H.hA k) (H.gA k) 1 (nA (o2P x k b)) (fA (o2P x k b)) ∧ Keep [H.gA k] w' w'' := by
  have ht := (h.pt.tab k hk).1.below bl
  refine (prepare_any in0 in0_ok b w' ht).mono fun e w'' ⟨h1, h2, h3⟩ => ?_
  rw [stt_A] at h1 h2
  refine ⟨h1, ?_, h3⟩
  unfold o2P
  by_cases hl : low b (x.r k).p = true
  · simp only [prO, hl, if_true] at h2 ⊢
    exact h2
  · simp only [prO, hl, if_false, Bool.false_eq_true] at h2 ⊢
    rw [fA_put, nA_put] at h2
    exact h2
theorem acc_x (h : WdW w B xb n tg H c d vote x) {k : Nat} (hk : k < n) (b : Bl) (v : ByteArray) (hv : v.size ≤ 281474976710656) (w' : World) (bl : Below w.heap.size w w') : Calls Try.prog 31 #[.pointer (some ⟨H.hA k, 0, none⟩), in0.ag, b.ag, .string v] w' fun e w'' =>
    e = .returned (.tuple #[(acR (some (x.r k)) b).p.ag, .bool (acR (some (x.r k)) b).ok, .int .i64 (acR (some (x.r k)) b).e]) ∧ TabW w'' B (H.hA k) (H.gA k) 1 (nA (o2A x k b v)) (fA (o2A x k b v)) ∧ Keep [H.gA k] w' w'' := by
  have ht := (h.pt.tab k hk).1.below bl
  refine (accept_any in0 in0_ok b v hv w' ht).mono fun e w'' ⟨h1, h2, h3⟩ => ?_
  rw [stt_A] at h1 h2
  refine ⟨h1, ?_, h3⟩
  unfold o2A
  by_cases hl : low b (x.r k).p = true
  · simp only [acO, hl, if_true] at h2 ⊢
    exact h2
  · simp only [acO, hl, if_false, Bool.false_eq_true] at h2 ⊢
    rw [fA_put, nA_put] at h2
    exact h2
end
end Go.Proofs.Ytgfalpiifgoonaa
