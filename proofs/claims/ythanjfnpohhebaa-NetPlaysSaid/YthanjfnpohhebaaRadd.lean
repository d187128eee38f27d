/- NetPlays: the document's net: add. -/
import Derived.Test.YthanjfnpohhebaaRn
import Derived.Deep.AppendLies
import Derived.Deep.RegionHeld3
namespace Go.Proofs.Ythanjfnpohhebaa
open Go.RowKit Go.Sort
set_option linter.unusedVariables false
set_option linter.unusedSectionVars false
set_option linter.unusedSimpArgs false
set_option maxRecDepth 100000

theorem pkt_info : (Try.prog.info? 52).map (fun i => (i.zero, i.size, i.bytes)) = some (some (.agg #[.int .u64 0, .int .i64 0, .int .i64 0, .slice none 0 0]), 4, 48) := by kernel_rfl
theorem info_parts {P : Program} {e : TypeId} {z : Value} {n b : Nat} (h : (P.info? e).map (fun i => (i.zero, i.size, i.bytes)) = some (some z, n, b)) : ∃ i0, P.info? e = some i0 ∧ i0.zero = some z ∧ i0.size = n ∧ i0.bytes = b := by
  cases hq : P.info? e with
  | none => rw [hq] at h; cases h
  | some i => rw [hq] at h; simp at h; exact ⟨i, rfl, h.1, h.2.1, h.2.2⟩
theorem list_one (p : Pkt) : ∀ u ∈ p.list, u.oneCell' = true := by
  intro u hu
  simp only [List.mem_cons, List.not_mem_nil, or_false] at hu
  rcases hu with rfl | rfl | rfl | rfl <;> rfl
theorem fl_list_one (D : List Pkt) : ∀ u ∈ fl Pkt.list D, u.oneCell' = true := by
  intro u hu
  obtain ⟨p, _, h⟩ := List.mem_flatMap.1 hu
  exact list_one p u h
theorem news_pkt {w : World} {p : Pkt} {b : Nat} (h : w.heap[b]? = some (.cells ⟨p.list⟩ 52 (0, 0))) : ∀ (j : Nat) (u : Value), p.list[j]? = some u → w.cell? ((⟨b, 0, none⟩ : Addr).add j) = some u := by
  intro j u hu
  have hadd : (⟨b, 0, none⟩ : Addr).add j = ⟨b, j, none⟩ := by unfold Addr.add; split <;> simp_all
  rw [hadd, cell_of_row w b j _ _ (0, 0) h]
  simpa using hu
/-- an append of bytes, at an operation -/
theorem wp_app {w : World} {o : Oper} {a : Act} {K : Act → World → Prop} {Q : Exit → Act → World → Prop} (s x : Operand)
    (ho : o.op = .call { callee := .builtin .append, args := #[s, x], argTypes := #[39, 39] })
    {B : Nat} {ao : Option Addr} {n cap : Nat} {l : List Nat} (hs : a.eval s = .slice ao n cap) (hown : Own w B ao n cap l)
    {xo : Option Addr} {m c : Nat} {ms : List Nat} (hx : a.eval x = .slice xo m c) (hrd : Rd w xo ms) (hm : ms.length = m) (hB : B ≤ w.heap.size) (hbig : n + m ≤ 140737488355328)
    (h : ∀ ao' cap' w', Own w' B ao' (n + m) cap' (l ++ ms) → Keep (blk ao) w w' → (∀ g ∈ blk ao', g ∈ blk ao ∨ w.heap.size ≤ g) → K (a.put o.dst (.slice ao' (n + m) cap')) w') : o.wp Try.prog a w K Q := by
  obtain ⟨ao', cap', w', hr, h2, h3, h4, _⟩ := hown.run_app c hrd hm hB hbig o.type
  unfold Oper.wp execOp
  simp only [ho, resolve, invoke, builtin, Sem.run_bind, Sem.run_pure, Result.andThen_ok, List.map_toArray, List.map_cons, List.map_nil, hs, hx, hr]
  exact h ao' cap' w' h2 h3 h4
theorem Holds.keep {w w' : World} {U : List Nat} {L : List (Addr × Value)} (h : Holds w L) (k : Keep U w w') (hn : ∀ p ∈ L, p.1.block ∉ U) : Holds w' L := fun p hp => by
  obtain ⟨h1, h2⟩ := h p hp
  exact ⟨(k.cell h2 (hn p hp)).trans h1, Nat.lt_of_lt_of_le h2 k.size⟩
theorem Holds.set {w : World} {L : List (Addr × Value)} (h : Holds w L) (a : Addr) (v : Value) (hn : ∀ p ∈ L, p.1 ≠ a) : Holds (w.setCell a v) L := fun p hp => by
  obtain ⟨h1, h2⟩ := h p hp
  exact ⟨(World.cell?_setCell_other _ _ _ _ (fun e => hn p hp e.symm)).trans h1, by simpa [World.setCell] using h2⟩
theorem own_gg {ao : Option Addr} {m cap gg H : Nat} (h : (Value.slice ao m cap).ownBlock = some gg ∨ gg = H) : gg ∈ blk ao ∨ gg = H := by
  rcases h with h | h
  · cases ao with
    | none => cases h
    | some a => simp [Value.ownBlock] at h; exact .inl (by simp [blk, h])
  · exact .inr h
section
variable {w w' : World} {B nb lc room last : Nat} {lo : Option Addr} {D : List Pkt} {T : Tr} {Bs : List Nat}
theorem RnW.fr (h : RnW w B nb lo lc D room last T) (i : Nat) : w.frozen? ⟨nb, i, none⟩ = false := frozen_of_row w nb i _ _ h.row
theorem RnW.setLast (h : RnW w B nb lo lc D room last T) (m : Nat) : RnW (w.setCell ⟨nb, 1, none⟩ (.int .u64 (m : Int))) B nb lo lc D room m T := by
  have k := Keep.setCell w ⟨nb, 1, none⟩ (.int .u64 (m : Int))
  exact ⟨heap_setCell_same w nb 1 _ _ _ h.row, h.base, owns_keep h.own k (blk_own _ _ _ fun g hg e => h.n1 (by simp at e; exact e ▸ hg)), h.pk.keep k (fun g hg e => h.n2 (by simp at e; exact e ▸ hg)), h.n1, h.n2, h.n3, h.lens, h.few⟩
theorem RnW.setTr (h : RnW w B nb lo lc D room last T) (i : Nat) (v : Value) (T' : Tr) (he : (rowR room last lo D.length lc T).setIfInBounds i v = rowR room last lo D.length lc T') : RnW (w.setCell ⟨nb, i, none⟩ v) B nb lo lc D room last T' := by
  have k := Keep.setCell w ⟨nb, i, none⟩ v
  exact ⟨by rw [heap_setCell_same w nb i _ _ v h.row, he], h.base, owns_keep h.own k (blk_own _ _ _ fun g hg e => h.n1 (by simp at e; exact e ▸ hg)), h.pk.keep k (fun g hg e => h.n2 (by simp at e; exact e ▸ hg)), h.n1, h.n2, h.n3, h.lens, h.few⟩
/-- one packet more, the last -/
theorem RnW.more {wa w2 : World} {gg cap1 m H : Nat} {p : Pkt} (h : RnW w B nb lo lc D room last T) (hm : D.length = m) (hf : m < 4096) (hl : p.data.length ≤ 65546) (b : Below w.heap.size w wa)
    (ho : Own wa w.heap.size p.ao p.data.length p.cap p.data) (hgrow : wa.grownBy w2 (Value.slice lo m lc).ownBlock)
    (hown : w2.ownsRow B 52 4 (.slice (some ⟨gg, 0, none⟩) (m + 1) cap1) (m + 1) (fl Pkt.list D ++ p.list)) (hat : (Value.slice lo m lc).ownBlock = some gg ∨ gg = H) (hH : wa.heap.size = H) :
    RnW (w2.setCell ⟨nb, 2, none⟩ (.slice (some ⟨gg, 0, none⟩) (m + 1) cap1)) B nb (some ⟨gg, 0, none⟩) cap1 (D ++ [p]) room last T ∧
      Turned (rnB nb lo D) (rnB nb (some ⟨gg, 0, none⟩) (D ++ [p])) w (w2.setCell ⟨nb, 2, none⟩ (.slice (some ⟨gg, 0, none⟩) (m + 1) cap1)) := by
  have hbl := h.blocks
  have hB : B ≤ w.heap.size := by have := h.base; have := h.lt; omega
  have kg : Keep (blk lo) w w2 := (Keep.of_below b (blk lo)).trans (keep_grown hgrow)
  have ka : Keep (blk lo) wa w2 := keep_grown hgrow
  have ks := Keep.setCell w2 ⟨nb, 2, none⟩ (.slice (some ⟨gg, 0, none⟩) (m + 1) cap1)
  have hg := own_gg hat
  have hsz := b.size
  have hnew : ∀ g ∈ blk p.ao, w.heap.size ≤ g ∧ g < wa.heap.size := ho.lt_size
  have hgb : gg ≠ nb := by
    rintro rfl
    rcases hg with hg | hg
    · exact h.n1 hg
    · have := h.lt; omega
  have hgl : ∀ q ∈ bs D, gg ≠ q := by
    intro q hq e
    subst e
    rcases hg with hg | hg
    · exact h.n3 _ hg hq
    · have := (h.pk.lt _ hq).2; omega
  have hgp : gg ∉ blk p.ao := by
    intro e
    have := hnew gg e
    rcases hg with hg | hg
    · have := (owns_blk h.own gg hg).2; omega
    · omega
  have hnp : nb ∉ blk p.ao := fun e => by have := hnew nb e; have := h.lt; omega
  have hlen : (D ++ [p]).length = m + 1 := by rw [List.length_append, hm]; rfl
  have hbs : bs (D ++ [p]) = bs D ++ blk p.ao := by simp [bs]
  have r2 : w2.heap[nb]? = some (.cells (rowR room last lo D.length lc T) 35 (0, 0)) := (kg.block nb h.lt h.n1).trans h.row
  have hpl : ∀ g ∈ blk p.ao, g ∉ blk lo := fun g hg hl => by have := hnew g hg; have := (owns_blk h.own g hl).2; omega
  have ho2 : Own w2 B p.ao p.data.length p.cap p.data := (ho.keep ka (fun g hg => hpl g hg)).base hB
  have hp2 : PkW w2 B (D ++ [p]) := (h.pk.keep kg (fun g hg hl => h.n3 g hl hg)).app ho2 (fun g hg hd => by have := hnew g hg; have := (h.pk.lt g hd).2; omega)
  refine ⟨⟨?_, h.base, ?_, ?_, by simpa [blk] using Ne.symm hgb, ?_, ?_, ?_, by rw [hlen]; omega⟩, (kg.mono (T := rnB nb lo D) (by intro q hq; simp [hq])).trans (ks.mono (by simp)), ?_⟩
  · rw [hlen]
    exact heap_setCell_same w2 nb 2 _ _ _ r2
  · rw [hlen, show fl Pkt.list (D ++ [p]) = fl Pkt.list D ++ p.list by rw [fl_app, fl_one]]
    exact owns_keep hown ks (by intro q hq; simp [Value.ownBlock] at hq; subst hq; simpa using hgb)
  · exact hp2.keep ks (by rw [hbs]; intro g hg e; simp at e; subst e; rcases List.mem_append.1 hg with hg | hg; exact h.n2 hg; exact hnp hg)
  · rw [hbs, List.mem_append]; rintro (e | e); exact h.n2 e; exact hnp e
  · intro q hq
    simp [blk] at hq
    subst hq
    rw [hbs, List.mem_append]
    rintro (e | e)
    · exact hgl _ e rfl
    · exact hgp e
  · intro q hq
    rcases List.mem_append.1 hq with hq | hq
    · exact h.lens q hq
    · rw [List.mem_singleton] at hq; subst hq; exact hl
  · intro q hq
    simp only [rnB, hbs, List.mem_cons, List.mem_append] at hq ⊢
    rcases hq with rfl | hq | hq | hq
    · exact .inl (.inl rfl)
    · simp [blk] at hq
      subst hq
      rcases hg with hg | hg
      · exact .inl (.inr (.inl hg))
      · right; omega
    · exact .inl (.inr (.inr hq))
    · exact .inr (hnew q hq).1
end
theorem Rd.keepE {w w' : World} {ao : Option Addr} {l : List Nat} {S : List Nat} (h : Rd w ao l) (k : Keep S w w') (hn : l ≠ [] → ∀ g ∈ blk ao, g ∉ S) : Rd w' ao l := by
  by_cases e : l = []
  · rw [e]; exact Rd.nil _ _
  · exact h.keep k (hn e)
/-- what add ends in -/
def RaddEnd (w : World) (B nb : Nat) (lo : Option Addr) (D : List Pkt) (room : Nat) (T : Tr) (M : Nat) (fr dn : Int) (l : List Nat) (e : Ending) (w' : World) : Prop :=
  e = .returned (.int .u64 (M : Int)) ∧ ∃ ao' cap' lo' lc', RnW w' B nb lo' lc' (D ++ [⟨M, fr, dn, ao', cap', l⟩]) room M T ∧ Turned (rnB nb lo D) (rnB nb lo' (D ++ [⟨M, fr, dn, ao', cap', l⟩])) w w'
set_option maxHeartbeats 6400000 in
theorem radd_any {B nb lc room last : Nat} {lo : Option Addr} {D : List Pkt} {T : Tr} (w : World) (fr dn : Int) {xo : Option Addr} {xc n M : Nat} {l : List Nat} (hr : Rd w xo l) (hln : l.length = n) (hl : n ≤ 65546) (hf : D.length < 4096) (hM : M = last + 1) (hm : M < 18446744073709551616) (h : RnW w B nb lo lc D room last T) (hxo : l ≠ [] → ∀ g ∈ blk xo, g ≠ nb) :
    Calls Try.prog 39 #[.pointer (some ⟨nb, 0, none⟩), .int .i64 fr, .int .i64 dn, .slice xo n xc] w (RaddEnd w B nb lo D room T M fr dn l) := by
  have c1 := h.at_ 1; have f1 := h.fr 1
  simp only [rowR, List.getElem?_toArray, List.getElem?_cons_succ, List.getElem?_cons_zero] at c1
  have k1 := Keep.setCell w ⟨nb, 1, none⟩ (.int .u64 (M : Int))
  have HN := Lib.hid (h.setLast M)
  have hr1 := hr.keepE k1 (by simpa using hxo)
  have HMc := Lib.hid (show (last : Int) + 1 = (M : Int) by omega)
  have hm1 : last + 1 < 18446744073709551616 := by omega
  have K1 := Lib.hid k1
  have HLN := Lib.hid hln
  obtain ⟨sn, hsn⟩ : ∃ q, D.length = q := ⟨_, rfl⟩
  rw [hsn] at hf
  have HSN := Lib.hid hsn
  clear h hr k1 hxo hM hln hsn
  go_enter Try.func39, Try.ntmps39
  go_upto_region 2 with (fail)
  rw [HMc.out]
  generalize hw1 : w.setCell ⟨nb, 1, none⟩ (.int .u64 (M : Int)) = w1 at *
  have hs1 : w1.heap.size = w.heap.size := by rw [← hw1]; simp [World.setCell]
  have HS1 := Lib.hid hs1
  have HR := Lib.hid hr1
  clear hr1 f1 hw1 hs1 c1
  obtain ⟨i0, hi0, hz0, hz1, hz2⟩ := info_parts pkt_info
  have HI := Lib.hid hi0; have HZ0 := Lib.hid hz0; have HZ1 := Lib.hid hz1; have HZ2 := Lib.hid hz2
  clear hi0 hz0 hz1 hz2
  have c1 := HN.out.at_ 1
  simp only [rowR, List.getElem?_toArray, List.getElem?_cons_succ, List.getElem?_cons_zero] at c1
  have HL : Hid (Holds w1 [(⟨nb, 1, none⟩, .int .u64 (M : Int))]) := Lib.hid (.cons c1 HN.out.lt (.nil _))
  clear c1
  refine wp_region_held_drew (S := fun w' => Holds w' [(⟨nb, 1, none⟩, .int .u64 (M : Int))]) (by kernel_rfl) (HL.out.drew) (fun s0 => ?_)
  have BD : Hid (Below w1.heap.size w1 w1.drew) := Lib.hid (Below.refl _ _).drew
  generalize w1.drew = wd at *
  have ND := Lib.hid (HN.out.below BD.out)
  have y0 := ND.out.at_ 2
  simp only [rowR, List.getElem?_toArray, List.getElem?_cons_succ, List.getElem?_cons_zero] at y0
  rw [HSN.out] at y0
  have RD := Lib.hid (HR.out.below BD.out)
  have NLT := Lib.hid (show nb < wd.heap.size from ND.out.lt)
  refine wpAnyH_take (i := 0) (v := .pointer (some ⟨nb, 0, none⟩)) rfl (by kernel_rfl) (by kernel_rfl) (by kernel_rfl) (fun _ _ _ h => h) (Or.inl ⟨by rfl, fun w' hw' => by go_simp⟩) s0 ?_
  try simp only [Act.put, List.getElem_toArray, List.getElem_cons_succ, List.getElem_cons_zero, List.setIfInBounds_toArray, List.set_cons_zero, List.set_cons_succ, Nat.zero_add, List.nil_append]
  refine wpAnyH_take (i := 1) (v := .pointer (some ⟨nb, 0, none⟩)) rfl (by kernel_rfl) (by kernel_rfl) (by kernel_rfl) (fun _ _ _ h => h) (Or.inl ⟨by rfl, fun w' hw' => by go_simp⟩) s0 ?_
  try simp only [Act.put, List.getElem_toArray, List.getElem_cons_succ, List.getElem_cons_zero, List.setIfInBounds_toArray, List.set_cons_zero, List.set_cons_succ, Nat.zero_add, List.nil_append]
  refine wpAnyH_take (i := 2) (v := .pointer (some ⟨nb, 0, none⟩)) rfl (by kernel_rfl) (by kernel_rfl) (by kernel_rfl) (fun _ _ _ h => h) (Or.inl ⟨by rfl, fun w' hw' => by go_simp⟩) s0 ?_
  try simp only [Act.put, List.getElem_toArray, List.getElem_cons_succ, List.getElem_cons_zero, List.setIfInBounds_toArray, List.set_cons_zero, List.set_cons_succ, Nat.zero_add, List.nil_append]
  refine wpAnyH_take (i := 3) (v := .pointer (some ⟨nb, 2, none⟩)) rfl (by kernel_rfl) (by kernel_rfl) (by kernel_rfl) (fun _ _ _ h => h) (Or.inl ⟨by rfl, fun w' hw' => by go_simp⟩) s0 ?_
  try simp only [Act.put, List.getElem_toArray, List.getElem_cons_succ, List.getElem_cons_zero, List.setIfInBounds_toArray, List.set_cons_zero, List.set_cons_succ, Nat.zero_add, List.nil_append]
  refine wpAnyH_take (i := 5) (v := .pointer (some ⟨nb, 0, none⟩)) rfl (by kernel_rfl) (by kernel_rfl) (by kernel_rfl) (fun _ _ _ h => h) (Or.inl ⟨by rfl, fun w' hw' => by go_simp⟩) s0 ?_
  try simp only [Act.put, List.getElem_toArray, List.getElem_cons_succ, List.getElem_cons_zero, List.setIfInBounds_toArray, List.set_cons_zero, List.set_cons_succ, Nat.zero_add, List.nil_append]
  refine wpAnyH_take (i := 6) (v := .pointer (some ⟨nb, 0, none⟩)) rfl (by kernel_rfl) (by kernel_rfl) (by kernel_rfl) (fun _ _ _ h => h) (Or.inl ⟨by rfl, fun w' hw' => by go_simp⟩) s0 ?_
  try simp only [Act.put, List.getElem_toArray, List.getElem_cons_succ, List.getElem_cons_zero, List.setIfInBounds_toArray, List.set_cons_zero, List.set_cons_succ, Nat.zero_add, List.nil_append]
  refine wpAnyH_take (i := 7) (v := .pointer (some ⟨nb, 1, none⟩)) rfl (by kernel_rfl) (by kernel_rfl) (by kernel_rfl) (fun _ _ _ h => h) (Or.inl ⟨by rfl, fun w' hw' => by go_simp⟩) s0 ?_
  try simp only [Act.put, List.getElem_toArray, List.getElem_cons_succ, List.getElem_cons_zero, List.setIfInBounds_toArray, List.set_cons_zero, List.set_cons_succ, Nat.zero_add, List.nil_append]
  refine wpAnyH_take (i := 8) (v := .int .u64 (M : Int)) rfl (by kernel_rfl) (by kernel_rfl) (by kernel_rfl) (fun _ _ _ h => h) (Or.inl ⟨by rfl, fun w' hw' => by have q0 := hw'.head; go_simp⟩) s0 ?_
  try simp only [Act.put, List.getElem_toArray, List.getElem_cons_succ, List.getElem_cons_zero, List.setIfInBounds_toArray, List.set_cons_zero, List.set_cons_succ, Nat.zero_add, List.nil_append]
  refine wpAnyH_take (i := 9) (v := .int .i64 fr) rfl (by kernel_rfl) (by kernel_rfl) (by kernel_rfl) (fun _ _ _ h => h) (Or.inl ⟨by rfl, fun w' hw' => by go_simp⟩) s0 ?_
  try simp only [Act.put, List.getElem_toArray, List.getElem_cons_succ, List.getElem_cons_zero, List.setIfInBounds_toArray, List.set_cons_zero, List.set_cons_succ, Nat.zero_add, List.nil_append]
  refine wpAnyH_take (i := 10) (v := .int .i64 dn) rfl (by kernel_rfl) (by kernel_rfl) (by kernel_rfl) (fun _ _ _ h => h) (Or.inl ⟨by rfl, fun w' hw' => by go_simp⟩) s0 ?_
  try simp only [Act.put, List.getElem_toArray, List.getElem_cons_succ, List.getElem_cons_zero, List.setIfInBounds_toArray, List.set_cons_zero, List.set_cons_succ, Nat.zero_add, List.nil_append]
  refine wpAnyH_take (i := 12) (v := .slice xo n xc) rfl (by kernel_rfl) (by kernel_rfl) (by kernel_rfl) (fun _ _ _ h => h) (Or.inl ⟨by rfl, fun w' hw' => by go_simp⟩) s0 ?_
  try simp only [Act.put, List.getElem_toArray, List.getElem_cons_succ, List.getElem_cons_zero, List.setIfInBounds_toArray, List.set_cons_zero, List.set_cons_succ, Nat.zero_add, List.nil_append]
  refine wpAnyH_ready (rs := [4, 11]) (by kernel_rfl) (by simp) ?_
  refine AllReadyH.cons rfl (fun K hK => ?_) (AllReadyH.cons rfl (fun K hK => ?_) AllReadyH.nil)
  · skip
    rw [if_pos (by rfl)]
    go_simp
    refine hK.out _ _ s0 (fun _ => ?_)
    clear hK K
    try simp only [Act.put, List.getElem_toArray, List.getElem_cons_succ, List.getElem_cons_zero, List.setIfInBounds_toArray, List.set_cons_zero, List.set_cons_succ, Nat.zero_add, List.nil_append]
    refine wpAnyH_ready (rs := [11]) (by kernel_rfl) (by simp) ?_
    refine AllReadyH.cons rfl (fun K hK => ?_) AllReadyH.nil
    rw [if_pos (by rfl)]
    go_simp
    have b1 : Below wd.heap.size wd (wd.alloc (.cells #[] 5)) := below_alloc (Below.refl _ _) _
    have O0 := Lib.hid (Own.none' wd wd.heap.size (Nat.le_refl _))
    have y1 := (b1.cell (p := ⟨nb, 2, none⟩) NLT.out).trans y0
    have s1 := s0.below b1
    obtain ⟨zb, hzb⟩ : ∃ q, q = wd.heap.size := ⟨_, rfl⟩
    have HZB := Lib.hid hzb
    have O0 : Hid (Own (wd.alloc (.cells #[] 5)) wd.heap.size (some ⟨zb, 0, none⟩) 0 0 []) := Lib.hid (by rw [hzb]; exact O0.out)
    rw [← hzb]
    generalize wd.alloc (.cells #[] 5) = v1 at *
    have B1 := Lib.hid b1
    clear b1 hzb
    refine hK.out _ _ s1 (fun _ => ?_)
    clear hK K
    try simp only [Act.put, List.getElem_toArray, List.getElem_cons_succ, List.getElem_cons_zero, List.setIfInBounds_toArray, List.set_cons_zero, List.set_cons_succ, Nat.zero_add, List.nil_append]
    refine wpAnyH_ready (rs := [13]) (by kernel_rfl) (by simp) ?_
    refine AllReadyH.cons rfl (fun K hK => ?_) AllReadyH.nil
    rw [if_pos (by rfl)]
    refine wp_app (.tmp 27) (.tmp 28) rfl rfl O0.out rfl (RD.out.below B1.out) HLN.out B1.out.size (by omega) ?_
    intro ao2 cap2 v2 own2 kp2 nb2
    simp only [Nat.zero_add, List.nil_append] at own2 ⊢
    have b2 : Below wd.heap.size wd v2 := B1.out.trans (kp2.below B1.out.size (by intro g hg; simp [blk] at hg; have := HZB.out; omega))
    have s2 := s0.below b2
    have B2 := Lib.hid b2
    have y2 := (b2.cell (p := ⟨nb, 2, none⟩) NLT.out).trans y0
    have O2 := Lib.hid own2
    clear own2 kp2 nb2 b2 y1
    refine hK.out _ _ s2 (fun _ => ?_)
    clear hK K
    try simp only [Act.put, List.getElem_toArray, List.getElem_cons_succ, List.getElem_cons_zero, List.setIfInBounds_toArray, List.set_cons_zero, List.set_cons_succ, Nat.zero_add, List.nil_append]
    refine wpAnyH_take (i := 14) (v := .agg #[.int .u64 (M : Int), .int .i64 fr, .int .i64 dn, .slice ao2 n cap2]) rfl (by kernel_rfl) (by kernel_rfl) (by kernel_rfl) (fun _ _ _ h => h) (Or.inl ⟨by rfl, fun w' hw' => by go_simp⟩) s2 ?_
    try simp only [Act.put, List.getElem_toArray, List.getElem_cons_succ, List.getElem_cons_zero, List.setIfInBounds_toArray, List.set_cons_zero, List.set_cons_succ, Nat.zero_add, List.nil_append]
    refine wpAnyH_ready (rs := [15]) (by kernel_rfl) (by simp) ?_
    refine AllReadyH.cons rfl (fun K hK => ?_) AllReadyH.nil
    rw [if_pos (by rfl)]
    go_simp
    have b3 : Below v2.heap.size v2 (v2.alloc (.cells #[.int .u64 (M : Int), .int .i64 fr, .int .i64 dn, .slice ao2 n cap2] 52)) := below_alloc (Below.refl _ _) _
    have r3 := heap_alloc_new v2 (.cells #[.int .u64 (M : Int), .int .i64 fr, .int .i64 dn, .slice ao2 n cap2] 52)
    have s3 := s2.below b3
    have y3 := (b3.cell (p := ⟨nb, 2, none⟩) (Nat.lt_of_lt_of_le NLT.out B2.out.size)).trans y2
    generalize v2.alloc (.cells #[.int .u64 (M : Int), .int .i64 fr, .int .i64 dn, .slice ao2 n cap2] 52) = v3 at *
    obtain ⟨pb, hpb⟩ : ∃ q, q = v2.heap.size := ⟨_, rfl⟩
    rw [← hpb] at r3 ⊢
    have B3 := Lib.hid (B2.out.trans (b3.mono B2.out.size))
    have O3 := Lib.hid (O2.out.below b3)
    have R3 := Lib.hid r3
    clear b3 r3 hpb
    refine hK.out _ _ s3 (fun _ => ?_)
    clear hK K
    try simp only [Act.put, List.getElem_toArray, List.getElem_cons_succ, List.getElem_cons_zero, List.setIfInBounds_toArray, List.set_cons_zero, List.set_cons_succ, Nat.zero_add, List.nil_append]
    refine wpAnyH_ready (rs := [16]) (by kernel_rfl) (by simp) ?_
    refine AllReadyH.cons rfl (fun K hK => ?_) AllReadyH.nil
    rw [if_pos (by rfl)]
    have hBv : B ≤ v3.heap.size := by have := ND.out.base; have := ND.out.lt; have := B3.out.size; omega
    have hxown : v3.ownsRow B 52 4 (.slice lo sn lc) sn (fl Pkt.list D) := by have := owns_keep ND.out.own (Keep.of_below B3.out []) (by simp); rwa [HSN.out] at this
    refine wp_append_lies _ (.tmp 20) (.tmp 31) 31 rfl B 52 i0 _ 4 48 Try.underlying31 HI.out HZ0.out HZ1.out HZ2.out rfl (by decide) (.slice lo sn lc) sn (fl Pkt.list D) rfl hxown ⟨pb, 0, none⟩ 1 1 (Pkt.list ⟨M, fr, dn, ao2, cap2, l⟩) rfl rfl (news_pkt (p := ⟨M, fr, dn, ao2, cap2, l⟩) (by have := R3.out; have e := HLN.out; subst e; exact this)) (list_one _) (by decide) (by unfold maxLen; omega) (by omega) hBv _ rfl ?_
    intro ga ca v4 own4 gr4 at4 lt4
    have kg := keep_grown gr4
    have z0 := (kg.cell (a := ⟨nb, 2, none⟩) (Nat.lt_of_lt_of_le NLT.out B3.out.size) ND.out.n1).trans y3
    have z1 := (kg.frozen (a := ⟨nb, 2, none⟩) (Nat.lt_of_lt_of_le NLT.out B3.out.size) ND.out.n1).trans ((ND.out.below B3.out).fr 2)
    have s4 := s3.keep kg (by intro p hp; simp only [List.mem_cons, List.not_mem_nil, or_false] at hp; subst hp; exact ND.out.n1)
    have PU := Lib.hid (ND.out.more (p := ⟨M, fr, dn, ao2, cap2, l⟩) HSN.out hf (by show l.length ≤ 65546; rw [HLN.out]; exact hl) B3.out (by show Own v3 _ ao2 l.length cap2 l; rw [HLN.out]; exact O3.out) gr4 own4 at4 rfl)
    clear own4 gr4 at4 lt4 kg y3
    refine hK.out _ _ s4 (fun _ => ?_)
    clear hK K
    try simp only [Act.put, List.getElem_toArray, List.getElem_cons_succ, List.getElem_cons_zero, List.setIfInBounds_toArray, List.set_cons_zero, List.set_cons_succ, Nat.zero_add, List.nil_append]
    refine wpAnyH_take (i := 17) (v := .pointer (some ⟨nb, 0, none⟩)) rfl (by kernel_rfl) (by kernel_rfl) (by kernel_rfl) (fun _ _ _ h => h) (Or.inl ⟨by rfl, fun w' hw' => by go_simp⟩) s4 ?_
    try simp only [Act.put, List.getElem_toArray, List.getElem_cons_succ, List.getElem_cons_zero, List.setIfInBounds_toArray, List.set_cons_zero, List.set_cons_succ, Nat.zero_add, List.nil_append]
    refine wpAnyH_take (i := 18) (v := .pointer (some ⟨nb, 2, none⟩)) rfl (by kernel_rfl) (by kernel_rfl) (by kernel_rfl) (fun _ _ _ h => h) (Or.inl ⟨by rfl, fun w' hw' => by go_simp⟩) s4 ?_
    try simp only [Act.put, List.getElem_toArray, List.getElem_cons_succ, List.getElem_cons_zero, List.setIfInBounds_toArray, List.set_cons_zero, List.set_cons_succ, Nat.zero_add, List.nil_append]
    refine wpAnyH_ready (rs := [19]) (by kernel_rfl) (by simp) ?_
    refine AllReadyH.cons rfl (fun K hK => ?_) AllReadyH.nil
    rw [if_pos (by rfl)]
    go_simp
    have s5 := s4.set ⟨nb, 2, none⟩ (.slice (some ⟨ga, 0, none⟩) (sn + 1) ca) (by intro p hp; simp only [List.mem_cons, List.not_mem_nil, or_false] at hp; subst hp; intro e; simp only [Addr.mk.injEq] at e; exact absurd e.2.1 (by decide))
    refine hK.out _ _ s5 (fun _ => ?_)
    clear hK K
    try simp only [Act.put, List.getElem_toArray, List.getElem_cons_succ, List.getElem_cons_zero, List.setIfInBounds_toArray, List.set_cons_zero, List.set_cons_succ, Nat.zero_add, List.nil_append]
    refine wpAnyH_done (by kernel_rfl) ?_ _
    clear s0 s1 s2 s3 s4 s5 z0 z1 y0 y2
    generalize v4.setCell ⟨nb, 2, none⟩ (.slice (some ⟨ga, 0, none⟩) (sn + 1) ca) = w9 at *
    have c9 := PU.out.1.at_ 1
    simp only [rowR, List.getElem?_toArray, List.getElem?_cons_succ, List.getElem?_cons_zero] at c9
    go_wp2_with fail
    go_ret
    have hs := HS1.out
    have t1 : Turned (rnB nb lo D) (rnB nb lo D) w w1 := ⟨K1.out.mono (by simp), fun q hq => .inl hq⟩
    have t2 : Turned (rnB nb lo D) (rnB nb lo D) w1 wd := Turned.of_below _ BD.out
    exact ⟨rfl, ao2, cap2, _, _, PU.out.1, (t1.trans t2).trans PU.out.2⟩
  · skip
    rw [if_pos (by rfl)]
    go_simp
    have b1 : Below wd.heap.size wd (wd.alloc (.cells #[] 5)) := below_alloc (Below.refl _ _) _
    have O0 := Lib.hid (Own.none' wd wd.heap.size (Nat.le_refl _))
    have y1 := (b1.cell (p := ⟨nb, 2, none⟩) NLT.out).trans y0
    have s1 := s0.below b1
    obtain ⟨zb, hzb⟩ : ∃ q, q = wd.heap.size := ⟨_, rfl⟩
    have HZB := Lib.hid hzb
    have O0 : Hid (Own (wd.alloc (.cells #[] 5)) wd.heap.size (some ⟨zb, 0, none⟩) 0 0 []) := Lib.hid (by rw [hzb]; exact O0.out)
    rw [← hzb]
    generalize wd.alloc (.cells #[] 5) = v1 at *
    have B1 := Lib.hid b1
    clear b1 hzb
    refine hK.out _ _ s1 (fun _ => ?_)
    clear hK K
    try simp only [Act.put, List.getElem_toArray, List.getElem_cons_succ, List.getElem_cons_zero, List.setIfInBounds_toArray, List.set_cons_zero, List.set_cons_succ, Nat.zero_add, List.nil_append]
    refine wpAnyH_ready (rs := [4, 13]) (by kernel_rfl) (by simp) ?_
    refine AllReadyH.cons rfl (fun K hK => ?_) (AllReadyH.cons rfl (fun K hK => ?_) AllReadyH.nil)
    · skip
      rw [if_pos (by rfl)]
      go_simp
      refine hK.out _ _ s1 (fun _ => ?_)
      clear hK K
      try simp only [Act.put, List.getElem_toArray, List.getElem_cons_succ, List.getElem_cons_zero, List.setIfInBounds_toArray, List.set_cons_zero, List.set_cons_succ, Nat.zero_add, List.nil_append]
      refine wpAnyH_ready (rs := [13]) (by kernel_rfl) (by simp) ?_
      refine AllReadyH.cons rfl (fun K hK => ?_) AllReadyH.nil
      rw [if_pos (by rfl)]
      refine wp_app (.tmp 27) (.tmp 28) rfl rfl O0.out rfl (RD.out.below B1.out) HLN.out B1.out.size (by omega) ?_
      intro ao2 cap2 v2 own2 kp2 nb2
      simp only [Nat.zero_add, List.nil_append] at own2 ⊢
      have b2 : Below wd.heap.size wd v2 := B1.out.trans (kp2.below B1.out.size (by intro g hg; simp [blk] at hg; have := HZB.out; omega))
      have s2 := s0.below b2
      have B2 := Lib.hid b2
      have y2 := (b2.cell (p := ⟨nb, 2, none⟩) NLT.out).trans y0
      have O2 := Lib.hid own2
      clear own2 kp2 nb2 b2 y1
      refine hK.out _ _ s2 (fun _ => ?_)
      clear hK K
      try simp only [Act.put, List.getElem_toArray, List.getElem_cons_succ, List.getElem_cons_zero, List.setIfInBounds_toArray, List.set_cons_zero, List.set_cons_succ, Nat.zero_add, List.nil_append]
      refine wpAnyH_take (i := 14) (v := .agg #[.int .u64 (M : Int), .int .i64 fr, .int .i64 dn, .slice ao2 n cap2]) rfl (by kernel_rfl) (by kernel_rfl) (by kernel_rfl) (fun _ _ _ h => h) (Or.inl ⟨by rfl, fun w' hw' => by go_simp⟩) s2 ?_
      try simp only [Act.put, List.getElem_toArray, List.getElem_cons_succ, List.getElem_cons_zero, List.setIfInBounds_toArray, List.set_cons_zero, List.set_cons_succ, Nat.zero_add, List.nil_append]
      refine wpAnyH_ready (rs := [15]) (by kernel_rfl) (by simp) ?_
      refine AllReadyH.cons rfl (fun K hK => ?_) AllReadyH.nil
      rw [if_pos (by rfl)]
      go_simp
      have b3 : Below v2.heap.size v2 (v2.alloc (.cells #[.int .u64 (M : Int), .int .i64 fr, .int .i64 dn, .slice ao2 n cap2] 52)) := below_alloc (Below.refl _ _) _
      have r3 := heap_alloc_new v2 (.cells #[.int .u64 (M : Int), .int .i64 fr, .int .i64 dn, .slice ao2 n cap2] 52)
      have s3 := s2.below b3
      have y3 := (b3.cell (p := ⟨nb, 2, none⟩) (Nat.lt_of_lt_of_le NLT.out B2.out.size)).trans y2
      generalize v2.alloc (.cells #[.int .u64 (M : Int), .int .i64 fr, .int .i64 dn, .slice ao2 n cap2] 52) = v3 at *
      obtain ⟨pb, hpb⟩ : ∃ q, q = v2.heap.size := ⟨_, rfl⟩
      rw [← hpb] at r3 ⊢
      have B3 := Lib.hid (B2.out.trans (b3.mono B2.out.size))
      have O3 := Lib.hid (O2.out.below b3)
      have R3 := Lib.hid r3
      clear b3 r3 hpb
      refine hK.out _ _ s3 (fun _ => ?_)
      clear hK K
      try simp only [Act.put, List.getElem_toArray, List.getElem_cons_succ, List.getElem_cons_zero, List.setIfInBounds_toArray, List.set_cons_zero, List.set_cons_succ, Nat.zero_add, List.nil_append]
      refine wpAnyH_ready (rs := [16]) (by kernel_rfl) (by simp) ?_
      refine AllReadyH.cons rfl (fun K hK => ?_) AllReadyH.nil
      rw [if_pos (by rfl)]
      have hBv : B ≤ v3.heap.size := by have := ND.out.base; have := ND.out.lt; have := B3.out.size; omega
      have hxown : v3.ownsRow B 52 4 (.slice lo sn lc) sn (fl Pkt.list D) := by have := owns_keep ND.out.own (Keep.of_below B3.out []) (by simp); rwa [HSN.out] at this
      refine wp_append_lies _ (.tmp 20) (.tmp 31) 31 rfl B 52 i0 _ 4 48 Try.underlying31 HI.out HZ0.out HZ1.out HZ2.out rfl (by decide) (.slice lo sn lc) sn (fl Pkt.list D) rfl hxown ⟨pb, 0, none⟩ 1 1 (Pkt.list ⟨M, fr, dn, ao2, cap2, l⟩) rfl rfl (news_pkt (p := ⟨M, fr, dn, ao2, cap2, l⟩) (by have := R3.out; have e := HLN.out; subst e; exact this)) (list_one _) (by decide) (by unfold maxLen; omega) (by omega) hBv _ rfl ?_
      intro ga ca v4 own4 gr4 at4 lt4
      have kg := keep_grown gr4
      have z0 := (kg.cell (a := ⟨nb, 2, none⟩) (Nat.lt_of_lt_of_le NLT.out B3.out.size) ND.out.n1).trans y3
      have z1 := (kg.frozen (a := ⟨nb, 2, none⟩) (Nat.lt_of_lt_of_le NLT.out B3.out.size) ND.out.n1).trans ((ND.out.below B3.out).fr 2)
      have s4 := s3.keep kg (by intro p hp; simp only [List.mem_cons, List.not_mem_nil, or_false] at hp; subst hp; exact ND.out.n1)
      have PU := Lib.hid (ND.out.more (p := ⟨M, fr, dn, ao2, cap2, l⟩) HSN.out hf (by show l.length ≤ 65546; rw [HLN.out]; exact hl) B3.out (by show Own v3 _ ao2 l.length cap2 l; rw [HLN.out]; exact O3.out) gr4 own4 at4 rfl)
      clear own4 gr4 at4 lt4 kg y3
      refine hK.out _ _ s4 (fun _ => ?_)
      clear hK K
      try simp only [Act.put, List.getElem_toArray, List.getElem_cons_succ, List.getElem_cons_zero, List.setIfInBounds_toArray, List.set_cons_zero, List.set_cons_succ, Nat.zero_add, List.nil_append]
      refine wpAnyH_take (i := 17) (v := .pointer (some ⟨nb, 0, none⟩)) rfl (by kernel_rfl) (by kernel_rfl) (by kernel_rfl) (fun _ _ _ h => h) (Or.inl ⟨by rfl, fun w' hw' => by go_simp⟩) s4 ?_
      try simp only [Act.put, List.getElem_toArray, List.getElem_cons_succ, List.getElem_cons_zero, List.setIfInBounds_toArray, List.set_cons_zero, List.set_cons_succ, Nat.zero_add, List.nil_append]
      refine wpAnyH_take (i := 18) (v := .pointer (some ⟨nb, 2, none⟩)) rfl (by kernel_rfl) (by kernel_rfl) (by kernel_rfl) (fun _ _ _ h => h) (Or.inl ⟨by rfl, fun w' hw' => by go_simp⟩) s4 ?_
      try simp only [Act.put, List.getElem_toArray, List.getElem_cons_succ, List.getElem_cons_zero, List.setIfInBounds_toArray, List.set_cons_zero, List.set_cons_succ, Nat.zero_add, List.nil_append]
      refine wpAnyH_ready (rs := [19]) (by kernel_rfl) (by simp) ?_
      refine AllReadyH.cons rfl (fun K hK => ?_) AllReadyH.nil
      rw [if_pos (by rfl)]
      go_simp
      have s5 := s4.set ⟨nb, 2, none⟩ (.slice (some ⟨ga, 0, none⟩) (sn + 1) ca) (by intro p hp; simp only [List.mem_cons, List.not_mem_nil, or_false] at hp; subst hp; intro e; simp only [Addr.mk.injEq] at e; exact absurd e.2.1 (by decide))
      refine hK.out _ _ s5 (fun _ => ?_)
      clear hK K
      try simp only [Act.put, List.getElem_toArray, List.getElem_cons_succ, List.getElem_cons_zero, List.setIfInBounds_toArray, List.set_cons_zero, List.set_cons_succ, Nat.zero_add, List.nil_append]
      refine wpAnyH_done (by kernel_rfl) ?_ _
      clear s0 s1 s2 s3 s4 s5 z0 z1 y0 y2
      generalize v4.setCell ⟨nb, 2, none⟩ (.slice (some ⟨ga, 0, none⟩) (sn + 1) ca) = w9 at *
      have c9 := PU.out.1.at_ 1
      simp only [rowR, List.getElem?_toArray, List.getElem?_cons_succ, List.getElem?_cons_zero] at c9
      go_wp2_with fail
      go_ret
      have hs := HS1.out
      have t1 : Turned (rnB nb lo D) (rnB nb lo D) w w1 := ⟨K1.out.mono (by simp), fun q hq => .inl hq⟩
      have t2 : Turned (rnB nb lo D) (rnB nb lo D) w1 wd := Turned.of_below _ BD.out
      exact ⟨rfl, ao2, cap2, _, _, PU.out.1, (t1.trans t2).trans PU.out.2⟩
    · skip
      rw [if_pos (by rfl)]
      refine wp_app (.tmp 27) (.tmp 28) rfl rfl O0.out rfl (RD.out.below B1.out) HLN.out B1.out.size (by omega) ?_
      intro ao2 cap2 v2 own2 kp2 nb2
      simp only [Nat.zero_add, List.nil_append] at own2 ⊢
      have b2 : Below wd.heap.size wd v2 := B1.out.trans (kp2.below B1.out.size (by intro g hg; simp [blk] at hg; have := HZB.out; omega))
      have s2 := s0.below b2
      have B2 := Lib.hid b2
      have y2 := (b2.cell (p := ⟨nb, 2, none⟩) NLT.out).trans y0
      have O2 := Lib.hid own2
      clear own2 kp2 nb2 b2 y1
      refine hK.out _ _ s2 (fun _ => ?_)
      clear hK K
      try simp only [Act.put, List.getElem_toArray, List.getElem_cons_succ, List.getElem_cons_zero, List.setIfInBounds_toArray, List.set_cons_zero, List.set_cons_succ, Nat.zero_add, List.nil_append]
      refine wpAnyH_take (i := 14) (v := .agg #[.int .u64 (M : Int), .int .i64 fr, .int .i64 dn, .slice ao2 n cap2]) rfl (by kernel_rfl) (by kernel_rfl) (by kernel_rfl) (fun _ _ _ h => h) (Or.inl ⟨by rfl, fun w' hw' => by go_simp⟩) s2 ?_
      try simp only [Act.put, List.getElem_toArray, List.getElem_cons_succ, List.getElem_cons_zero, List.setIfInBounds_toArray, List.set_cons_zero, List.set_cons_succ, Nat.zero_add, List.nil_append]
      refine wpAnyH_ready (rs := [4, 15]) (by kernel_rfl) (by simp) ?_
      refine AllReadyH.cons rfl (fun K hK => ?_) (AllReadyH.cons rfl (fun K hK => ?_) AllReadyH.nil)
      · skip
        rw [if_pos (by rfl)]
        go_simp
        refine hK.out _ _ s2 (fun _ => ?_)
        clear hK K
        try simp only [Act.put, List.getElem_toArray, List.getElem_cons_succ, List.getElem_cons_zero, List.setIfInBounds_toArray, List.set_cons_zero, List.set_cons_succ, Nat.zero_add, List.nil_append]
        refine wpAnyH_ready (rs := [15]) (by kernel_rfl) (by simp) ?_
        refine AllReadyH.cons rfl (fun K hK => ?_) AllReadyH.nil
        rw [if_pos (by rfl)]
        go_simp
        have b3 : Below v2.heap.size v2 (v2.alloc (.cells #[.int .u64 (M : Int), .int .i64 fr, .int .i64 dn, .slice ao2 n cap2] 52)) := below_alloc (Below.refl _ _) _
        have r3 := heap_alloc_new v2 (.cells #[.int .u64 (M : Int), .int .i64 fr, .int .i64 dn, .slice ao2 n cap2] 52)
        have s3 := s2.below b3
        have y3 := (b3.cell (p := ⟨nb, 2, none⟩) (Nat.lt_of_lt_of_le NLT.out B2.out.size)).trans y2
        generalize v2.alloc (.cells #[.int .u64 (M : Int), .int .i64 fr, .int .i64 dn, .slice ao2 n cap2] 52) = v3 at *
        obtain ⟨pb, hpb⟩ : ∃ q, q = v2.heap.size := ⟨_, rfl⟩
        rw [← hpb] at r3 ⊢
        have B3 := Lib.hid (B2.out.trans (b3.mono B2.out.size))
        have O3 := Lib.hid (O2.out.below b3)
        have R3 := Lib.hid r3
        clear b3 r3 hpb
        refine hK.out _ _ s3 (fun _ => ?_)
        clear hK K
        try simp only [Act.put, List.getElem_toArray, List.getElem_cons_succ, List.getElem_cons_zero, List.setIfInBounds_toArray, List.set_cons_zero, List.set_cons_succ, Nat.zero_add, List.nil_append]
        refine wpAnyH_ready (rs := [16]) (by kernel_rfl) (by simp) ?_
        refine AllReadyH.cons rfl (fun K hK => ?_) AllReadyH.nil
        rw [if_pos (by rfl)]
        have hBv : B ≤ v3.heap.size := by have := ND.out.base; have := ND.out.lt; have := B3.out.size; omega
        have hxown : v3.ownsRow B 52 4 (.slice lo sn lc) sn (fl Pkt.list D) := by have := owns_keep ND.out.own (Keep.of_below B3.out []) (by simp); rwa [HSN.out] at this
        refine wp_append_lies _ (.tmp 20) (.tmp 31) 31 rfl B 52 i0 _ 4 48 Try.underlying31 HI.out HZ0.out HZ1.out HZ2.out rfl (by decide) (.slice lo sn lc) sn (fl Pkt.list D) rfl hxown ⟨pb, 0, none⟩ 1 1 (Pkt.list ⟨M, fr, dn, ao2, cap2, l⟩) rfl rfl (news_pkt (p := ⟨M, fr, dn, ao2, cap2, l⟩) (by have := R3.out; have e := HLN.out; subst e; exact this)) (list_one _) (by decide) (by unfold maxLen; omega) (by omega) hBv _ rfl ?_
        intro ga ca v4 own4 gr4 at4 lt4
        have kg := keep_grown gr4
        have z0 := (kg.cell (a := ⟨nb, 2, none⟩) (Nat.lt_of_lt_of_le NLT.out B3.out.size) ND.out.n1).trans y3
        have z1 := (kg.frozen (a := ⟨nb, 2, none⟩) (Nat.lt_of_lt_of_le NLT.out B3.out.size) ND.out.n1).trans ((ND.out.below B3.out).fr 2)
        have s4 := s3.keep kg (by intro p hp; simp only [List.mem_cons, List.not_mem_nil, or_false] at hp; subst hp; exact ND.out.n1)
        have PU := Lib.hid (ND.out.more (p := ⟨M, fr, dn, ao2, cap2, l⟩) HSN.out hf (by show l.length ≤ 65546; rw [HLN.out]; exact hl) B3.out (by show Own v3 _ ao2 l.length cap2 l; rw [HLN.out]; exact O3.out) gr4 own4 at4 rfl)
        clear own4 gr4 at4 lt4 kg y3
        refine hK.out _ _ s4 (fun _ => ?_)
        clear hK K
        try simp only [Act.put, List.getElem_toArray, List.getElem_cons_succ, List.getElem_cons_zero, List.setIfInBounds_toArray, List.set_cons_zero, List.set_cons_succ, Nat.zero_add, List.nil_append]
        refine wpAnyH_take (i := 17) (v := .pointer (some ⟨nb, 0, none⟩)) rfl (by kernel_rfl) (by kernel_rfl) (by kernel_rfl) (fun _ _ _ h => h) (Or.inl ⟨by rfl, fun w' hw' => by go_simp⟩) s4 ?_
        try simp only [Act.put, List.getElem_toArray, List.getElem_cons_succ, List.getElem_cons_zero, List.setIfInBounds_toArray, List.set_cons_zero, List.set_cons_succ, Nat.zero_add, List.nil_append]
        refine wpAnyH_take (i := 18) (v := .pointer (some ⟨nb, 2, none⟩)) rfl (by kernel_rfl) (by kernel_rfl) (by kernel_rfl) (fun _ _ _ h => h) (Or.inl ⟨by rfl, fun w' hw' => by go_simp⟩) s4 ?_
        try simp only [Act.put, List.getElem_toArray, List.getElem_cons_succ, List.getElem_cons_zero, List.setIfInBounds_toArray, List.set_cons_zero, List.set_cons_succ, Nat.zero_add, List.nil_append]
        refine wpAnyH_ready (rs := [19]) (by kernel_rfl) (by simp) ?_
        refine AllReadyH.cons rfl (fun K hK => ?_) AllReadyH.nil
        rw [if_pos (by rfl)]
        go_simp
        have s5 := s4.set ⟨nb, 2, none⟩ (.slice (some ⟨ga, 0, none⟩) (sn + 1) ca) (by intro p hp; simp only [List.mem_cons, List.not_mem_nil, or_false] at hp; subst hp; intro e; simp only [Addr.mk.injEq] at e; exact absurd e.2.1 (by decide))
        refine hK.out _ _ s5 (fun _ => ?_)
        clear hK K
        try simp only [Act.put, List.getElem_toArray, List.getElem_cons_succ, List.getElem_cons_zero, List.setIfInBounds_toArray, List.set_cons_zero, List.set_cons_succ, Nat.zero_add, List.nil_append]
        refine wpAnyH_done (by kernel_rfl) ?_ _
        clear s0 s1 s2 s3 s4 s5 z0 z1 y0 y2
        generalize v4.setCell ⟨nb, 2, none⟩ (.slice (some ⟨ga, 0, none⟩) (sn + 1) ca) = w9 at *
        have c9 := PU.out.1.at_ 1
        simp only [rowR, List.getElem?_toArray, List.getElem?_cons_succ, List.getElem?_cons_zero] at c9
        go_wp2_with fail
        go_ret
        have hs := HS1.out
        have t1 : Turned (rnB nb lo D) (rnB nb lo D) w w1 := ⟨K1.out.mono (by simp), fun q hq => .inl hq⟩
        have t2 : Turned (rnB nb lo D) (rnB nb lo D) w1 wd := Turned.of_below _ BD.out
        exact ⟨rfl, ao2, cap2, _, _, PU.out.1, (t1.trans t2).trans PU.out.2⟩
      · skip
        rw [if_pos (by rfl)]
        go_simp
        have b3 : Below v2.heap.size v2 (v2.alloc (.cells #[.int .u64 (M : Int), .int .i64 fr, .int .i64 dn, .slice ao2 n cap2] 52)) := below_alloc (Below.refl _ _) _
        have r3 := heap_alloc_new v2 (.cells #[.int .u64 (M : Int), .int .i64 fr, .int .i64 dn, .slice ao2 n cap2] 52)
        have s3 := s2.below b3
        have y3 := (b3.cell (p := ⟨nb, 2, none⟩) (Nat.lt_of_lt_of_le NLT.out B2.out.size)).trans y2
        generalize v2.alloc (.cells #[.int .u64 (M : Int), .int .i64 fr, .int .i64 dn, .slice ao2 n cap2] 52) = v3 at *
        obtain ⟨pb, hpb⟩ : ∃ q, q = v2.heap.size := ⟨_, rfl⟩
        rw [← hpb] at r3 ⊢
        have B3 := Lib.hid (B2.out.trans (b3.mono B2.out.size))
        have O3 := Lib.hid (O2.out.below b3)
        have R3 := Lib.hid r3
        clear b3 r3 hpb
        refine hK.out _ _ s3 (fun _ => ?_)
        clear hK K
        try simp only [Act.put, List.getElem_toArray, List.getElem_cons_succ, List.getElem_cons_zero, List.setIfInBounds_toArray, List.set_cons_zero, List.set_cons_succ, Nat.zero_add, List.nil_append]
        refine wpAnyH_ready (rs := [4]) (by kernel_rfl) (by simp) ?_
        refine AllReadyH.cons rfl (fun K hK => ?_) AllReadyH.nil
        rw [if_pos (by rfl)]
        go_simp
        refine hK.out _ _ s3 (fun _ => ?_)
        clear hK K
        try simp only [Act.put, List.getElem_toArray, List.getElem_cons_succ, List.getElem_cons_zero, List.setIfInBounds_toArray, List.set_cons_zero, List.set_cons_succ, Nat.zero_add, List.nil_append]
        refine wpAnyH_ready (rs := [16]) (by kernel_rfl) (by simp) ?_
        refine AllReadyH.cons rfl (fun K hK => ?_) AllReadyH.nil
        rw [if_pos (by rfl)]
        have hBv : B ≤ v3.heap.size := by have := ND.out.base; have := ND.out.lt; have := B3.out.size; omega
        have hxown : v3.ownsRow B 52 4 (.slice lo sn lc) sn (fl Pkt.list D) := by have := owns_keep ND.out.own (Keep.of_below B3.out []) (by simp); rwa [HSN.out] at this
        refine wp_append_lies _ (.tmp 20) (.tmp 31) 31 rfl B 52 i0 _ 4 48 Try.underlying31 HI.out HZ0.out HZ1.out HZ2.out rfl (by decide) (.slice lo sn lc) sn (fl Pkt.list D) rfl hxown ⟨pb, 0, none⟩ 1 1 (Pkt.list ⟨M, fr, dn, ao2, cap2, l⟩) rfl rfl (news_pkt (p := ⟨M, fr, dn, ao2, cap2, l⟩) (by have := R3.out; have e := HLN.out; subst e; exact this)) (list_one _) (by decide) (by unfold maxLen; omega) (by omega) hBv _ rfl ?_
        intro ga ca v4 own4 gr4 at4 lt4
        have kg := keep_grown gr4
        have z0 := (kg.cell (a := ⟨nb, 2, none⟩) (Nat.lt_of_lt_of_le NLT.out B3.out.size) ND.out.n1).trans y3
        have z1 := (kg.frozen (a := ⟨nb, 2, none⟩) (Nat.lt_of_lt_of_le NLT.out B3.out.size) ND.out.n1).trans ((ND.out.below B3.out).fr 2)
        have s4 := s3.keep kg (by intro p hp; simp only [List.mem_cons, List.not_mem_nil, or_false] at hp; subst hp; exact ND.out.n1)
        have PU := Lib.hid (ND.out.more (p := ⟨M, fr, dn, ao2, cap2, l⟩) HSN.out hf (by show l.length ≤ 65546; rw [HLN.out]; exact hl) B3.out (by show Own v3 _ ao2 l.length cap2 l; rw [HLN.out]; exact O3.out) gr4 own4 at4 rfl)
        clear own4 gr4 at4 lt4 kg y3
        refine hK.out _ _ s4 (fun _ => ?_)
        clear hK K
        try simp only [Act.put, List.getElem_toArray, List.getElem_cons_succ, List.getElem_cons_zero, List.setIfInBounds_toArray, List.set_cons_zero, List.set_cons_succ, Nat.zero_add, List.nil_append]
        refine wpAnyH_take (i := 17) (v := .pointer (some ⟨nb, 0, none⟩)) rfl (by kernel_rfl) (by kernel_rfl) (by kernel_rfl) (fun _ _ _ h => h) (Or.inl ⟨by rfl, fun w' hw' => by go_simp⟩) s4 ?_
        try simp only [Act.put, List.getElem_toArray, List.getElem_cons_succ, List.getElem_cons_zero, List.setIfInBounds_toArray, List.set_cons_zero, List.set_cons_succ, Nat.zero_add, List.nil_append]
        refine wpAnyH_take (i := 18) (v := .pointer (some ⟨nb, 2, none⟩)) rfl (by kernel_rfl) (by kernel_rfl) (by kernel_rfl) (fun _ _ _ h => h) (Or.inl ⟨by rfl, fun w' hw' => by go_simp⟩) s4 ?_
        try simp only [Act.put, List.getElem_toArray, List.getElem_cons_succ, List.getElem_cons_zero, List.setIfInBounds_toArray, List.set_cons_zero, List.set_cons_succ, Nat.zero_add, List.nil_append]
        refine wpAnyH_ready (rs := [19]) (by kernel_rfl) (by simp) ?_
        refine AllReadyH.cons rfl (fun K hK => ?_) AllReadyH.nil
        rw [if_pos (by rfl)]
        go_simp
        have s5 := s4.set ⟨nb, 2, none⟩ (.slice (some ⟨ga, 0, none⟩) (sn + 1) ca) (by intro p hp; simp only [List.mem_cons, List.not_mem_nil, or_false] at hp; subst hp; intro e; simp only [Addr.mk.injEq] at e; exact absurd e.2.1 (by decide))
        refine hK.out _ _ s5 (fun _ => ?_)
        clear hK K
        try simp only [Act.put, List.getElem_toArray, List.getElem_cons_succ, List.getElem_cons_zero, List.setIfInBounds_toArray, List.set_cons_zero, List.set_cons_succ, Nat.zero_add, List.nil_append]
        refine wpAnyH_done (by kernel_rfl) ?_ _
        clear s0 s1 s2 s3 s4 s5 z0 z1 y0 y2
        generalize v4.setCell ⟨nb, 2, none⟩ (.slice (some ⟨ga, 0, none⟩) (sn + 1) ca) = w9 at *
        have c9 := PU.out.1.at_ 1
        simp only [rowR, List.getElem?_toArray, List.getElem?_cons_succ, List.getElem?_cons_zero] at c9
        go_wp2_with fail
        go_ret
        have hs := HS1.out
        have t1 : Turned (rnB nb lo D) (rnB nb lo D) w w1 := ⟨K1.out.mono (by simp), fun q hq => .inl hq⟩
        have t2 : Turned (rnB nb lo D) (rnB nb lo D) w1 wd := Turned.of_below _ BD.out
        exact ⟨rfl, ao2, cap2, _, _, PU.out.1, (t1.trans t2).trans PU.out.2⟩
end Go.Proofs.Ythanjfnpohhebaa
