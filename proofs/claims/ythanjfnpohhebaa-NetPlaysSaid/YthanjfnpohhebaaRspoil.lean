/- NetPlays: the document's net: Spoil. -/
import Derived.Test.YthanjfnpohhebaaRtake
namespace Go.Proofs.Ythanjfnpohhebaa
open Go.RowKit Go.Sort
set_option linter.unusedVariables false
set_option linter.unusedSectionVars false
set_option linter.unusedSimpArgs false
set_option maxRecDepth 100000
section
variable {w w' : World} {B nb lc room last : Nat} {lo : Option Addr} {D : List Pkt} {T : Tr}
theorem setB_list (id at_ z : Nat) (p : Pkt) : (setB id at_ z p).list = p.list := by unfold setB; split <;> simp [Pkt.list, Pkt.sl]
theorem fl_sp (S : List Pkt) (id at_ z : Nat) : fl Pkt.list (spS S id at_ z) = fl Pkt.list S := by
  unfold fl spS
  rw [List.flatMap_map]
  congr 1
  funext p
  exact setB_list id at_ z p
theorem len_sp (S : List Pkt) (id at_ z : Nat) : (spS S id at_ z).length = S.length := by simp [spS]
theorem RnW.spoil (h : RnW w B nb lo lc D room last T) (hi : Inc D) {p : Pkt} (hp : p ∈ D) {g o : Nat} (hao : p.ao = some ⟨g, o, none⟩) (at_ z : Nat) (ha : at_ < p.data.length) (hz : z < 256) :
    RnW (w.setCell ⟨g, o + at_, none⟩ (u8v z)) B nb lo lc (spS D p.id at_ z) room last T := by
  have k := Keep.setCell w ⟨g, o + at_, none⟩ (u8v z)
  have hg : g ∈ bs D := bs_mem.2 ⟨p, hp, by simp [hao, blk]⟩
  have hn : nb ≠ g := fun e => h.n2 (e ▸ hg)
  have hl : ∀ q ∈ blk lo, q ≠ g := fun q hq e => h.n3 q hq (e ▸ hg)
  refine ⟨by rw [len_sp]; exact row_keep h.row k (by simpa using hn), h.base, by rw [len_sp, fl_sp]; exact owns_keep h.own k (blk_own _ _ _ fun q hq => by simpa using hl q hq), h.pk.spoil hi hp hao at_ z ha hz, h.n1, by rw [bs_sp]; exact h.n2, fun q hq => by rw [bs_sp]; exact h.n3 q hq, fun q hq => ?_, by rw [len_sp]; exact h.few⟩
  obtain ⟨x, hx, rfl⟩ := List.mem_map.1 hq
  rw [setB_len]
  exact h.lens x hx
set_option maxHeartbeats 800000 in
theorem rspoil_none (w : World) (id : Nat) (at_ b : Int) (h : RnW w B nb lo lc D room last T) (hat : Nowhere D id) :
    Calls Try.prog 27 #[.pointer (some ⟨nb, 0, none⟩), .int .u64 (id : Int), .int .i64 at_, .int .u8 b] w fun e w' => e = .returned (.int .i64 72) ∧ w = w' := by
  have C := Lib.hid (place_no h hat)
  clear h hat
  go_enter Try.func27, Try.ntmps27
  go_wp2_with fail
  refine C.out.mono ?_; rintro e w1 ⟨rfl, rfl⟩
  go_wp2_with fail
  go_ret
  exact ⟨rfl, rfl⟩
set_option maxHeartbeats 1600000 in
theorem rspoil_out (w : World) (id : Nat) {k : Nat} {p : Pkt} (h : RnW w B nb lo lc D room last T) (hat : At D id k p) (at_ b : Int) (ha : at_ < 0 ∨ (p.data.length : Int) ≤ at_) :
    Calls Try.prog 27 #[.pointer (some ⟨nb, 0, none⟩), .int .u64 (id : Int), .int .i64 at_, .int .u8 b] w fun e w' => e = .returned (.int .i64 1) ∧ w = w' := by
  have C := Lib.hid (place_yes h hat)
  obtain ⟨g, rfl, hg, hc⟩ := h.pkt hat.1
  have c2 := h.at_ 2
  simp only [rowR, List.getElem?_toArray, List.getElem?_cons_succ, List.getElem?_cons_zero] at c2
  have hkl := (List.getElem?_eq_some_iff.1 hat.1).1
  have hfew := h.few
  have hlen := h.lens p (List.mem_of_getElem? hat.1)
  have d3 := hc 3 (by omega)
  simp only [List.getElem?_cons_succ, List.getElem?_cons_zero] at d3
  obtain ⟨m, hm⟩ : ∃ m, D.length = m := ⟨_, rfl⟩
  obtain ⟨n, hn⟩ : ∃ n, p.data.length = n := ⟨_, rfl⟩
  rw [show p.sl = .slice p.ao n p.cap by rw [← hn]] at d3
  rw [hm] at c2 hkl hfew
  rw [hn] at ha hlen
  have hk0 : (0 : Int) ≤ (k : Int) := by omega
  have hkm : (k : Int) < (m : Int) := by omega
  have hki : ¬ ((k : Int) < 0) := by omega
  obtain ⟨pid, fr, dn, ao, cap, l⟩ := p
  simp only at d3
  clear h hat hc hm hn
  by_cases h0 : at_ < 0
  all_goals
    go_enter Try.func27, Try.ntmps27
    go_wp2_with fail
    refine C.out.mono ?_; rintro e w1 ⟨rfl, rfl⟩
    have hge : (n : Int) ≤ at_ ∨ at_ < 0 := by omega
    go_wp2_with fail
    go_ret
    exact ⟨rfl, rfl⟩
/-- what Spoil ends in, where a byte is turned -/
def RspEnd (w : World) (B nb : Nat) (lo : Option Addr) (lc : Nat) (D : List Pkt) (room last : Nat) (T : Tr) (id at_ z : Nat) (e : Ending) (w' : World) : Prop := e = .returned (.int .i64 0) ∧ RnW w' B nb lo lc (spS D id at_ z) room last T ∧ Keep (rnB nb lo D) w w'
set_option maxHeartbeats 3200000 in
theorem rspoil_yes (w : World) (id : Nat) {k : Nat} {p : Pkt} (h : RnW w B nb lo lc D room last T) (hi : Inc D) (hat : At D id k p) (at_ b : Nat) (ha : at_ < p.data.length) (hb : b < 256) (hT : T.spoilt < 4611686018427387904) :
    Calls Try.prog 27 #[.pointer (some ⟨nb, 0, none⟩), .int .u64 (id : Int), .int .i64 (at_ : Int), .int .u8 (b : Int)] w (RspEnd w B nb lo lc D room last T.addSpoilt id at_ (bt p.data at_ ^^^ b)) := by
  have C := Lib.hid (place_yes h hat)
  have hp := List.mem_of_getElem? hat.1
  have HP := Lib.hid (show p ∈ D ∧ p.id = id from ⟨hp, hat.2.1⟩)
  have HOWN := Lib.hid (h.pk.own p hp)
  obtain ⟨gr, rfl, hg, hc⟩ := h.pkt hat.1
  have c2 := h.at_ 2
  simp only [rowR, List.getElem?_toArray, List.getElem?_cons_succ, List.getElem?_cons_zero] at c2
  have hkl := (List.getElem?_eq_some_iff.1 hat.1).1
  have hfew := h.few
  have hlen := h.lens p hp
  have d3 := hc 3 (by omega)
  simp only [List.getElem?_cons_succ, List.getElem?_cons_zero] at d3
  obtain ⟨m, hm⟩ : ∃ m, D.length = m := ⟨_, rfl⟩
  rw [hm] at c2 hkl hfew
  have H := Lib.hid h; have HINC := Lib.hid hi
  have hnl := h.lt
  obtain ⟨pid, fr, dn, ao, cap, l⟩ := p
  simp only [Pkt.sl] at d3 ha hlen HOWN ⊢
  obtain ⟨n, hln⟩ : ∃ n, l.length = n := ⟨_, rfl⟩
  rw [hln] at d3 ha hlen HOWN
  have HL := Lib.hid hln
  obtain ⟨g, o, rfl, hBg, hgl, hcg, hfg⟩ := HOWN.out.at_ at_ ha
  have hgb : g ∈ bs D := bs_mem.2 ⟨_, hp, by simp [blk]⟩
  have hng : nb ≠ g := fun e => h.n2 (e ▸ hgb)
  have hrg : gr ≠ g := fun e => h.n3 gr (by simp [blk]) (e ▸ hgb)
  have hle := HOWN.out.le
  have hmax := HOWN.out.max
  have hby := HOWN.out.rd.byte at_
  have e1 := u8_xor_nat (bt l at_) b hby hb
  have hzl : bt l at_ ^^^ b < 256 := Nat.xor_lt_two_pow (n := 8) hby hb
  obtain ⟨z, hz⟩ : ∃ z, bt l at_ ^^^ b = z := ⟨_, rfl⟩
  rw [hz] at e1 hzl
  have HZV := Lib.hid hz
  obtain ⟨v, hv⟩ : ∃ v, bt l at_ = v := ⟨_, rfl⟩
  rw [hv] at e1 hcg hby
  have hk0 : (0 : Int) ≤ (k : Int) := by omega
  have hkm : (k : Int) < (m : Int) := by omega
  have hki : ¬ ((k : Int) < 0) := by omega
  have hai : (at_ : Int) < (n : Int) := by omega
  have ha0 : (0 : Int) ≤ (at_ : Int) := by omega
  have HGL := Lib.hid hgl
  have HTT := Lib.hid hT
  have HL2 : Hid (Holds w [(⟨nb, 2, none⟩, .slice (some ⟨gr, 0, none⟩) m lc), (⟨gr, k * 4 + 3, none⟩, .slice (some ⟨g, o, none⟩) n cap)]) := Lib.hid (.cons c2 hnl (.cons d3 hg (.nil _)))
  rw [hz]
  have CG := Lib.hid hcg; have FG := Lib.hid hfg
  clear h hat hc hm hln hv hz hp hgb hi hT
  go_enter Try.func27, Try.ntmps27
  go_wp2_with fail
  refine C.out.mono ?_; rintro e w1 ⟨rfl, rfl⟩
  go_upto_region 6 with (fail)
  refine wp_region_held_drew (S := fun w' => Holds w' [(⟨nb, 2, none⟩, .slice (some ⟨gr, 0, none⟩) m lc), (⟨gr, k * 4 + 3, none⟩, .slice (some ⟨g, o, none⟩) n cap)]) (by kernel_rfl) (HL2.out.drew) (fun s0 => ?_)
  have BD : Hid (Below w.heap.size w w.drew) := Lib.hid (Below.refl _ _).drew
  generalize w.drew = wd at *
  have y0 := (BD.out.cell (p := ⟨g, o + at_, none⟩) HGL.out).trans CG.out
  have y1 := (BD.out.frozen (p := ⟨g, o + at_, none⟩) HGL.out).trans FG.out
  refine wpAnyH_take (i := 0) (v := .pointer (some ⟨nb, 0, none⟩)) rfl (by kernel_rfl) (by kernel_rfl) (by kernel_rfl) (fun _ _ _ h => h) (Or.inl ⟨by rfl, fun w' hw' => by go_simp⟩) s0 ?_
  try simp only [Act.put, List.getElem_toArray, List.getElem_cons_succ, List.getElem_cons_zero, List.setIfInBounds_toArray, List.set_cons_zero, List.set_cons_succ, Nat.zero_add, List.nil_append]
  refine wpAnyH_take (i := 1) (v := .pointer (some ⟨nb, 0, none⟩)) rfl (by kernel_rfl) (by kernel_rfl) (by kernel_rfl) (fun _ _ _ h => h) (Or.inl ⟨by rfl, fun w' hw' => by go_simp⟩) s0 ?_
  try simp only [Act.put, List.getElem_toArray, List.getElem_cons_succ, List.getElem_cons_zero, List.setIfInBounds_toArray, List.set_cons_zero, List.set_cons_succ, Nat.zero_add, List.nil_append]
  refine wpAnyH_take (i := 2) (v := .pointer (some ⟨nb, 2, none⟩)) rfl (by kernel_rfl) (by kernel_rfl) (by kernel_rfl) (fun _ _ _ h => h) (Or.inl ⟨by rfl, fun w' hw' => by go_simp⟩) s0 ?_
  try simp only [Act.put, List.getElem_toArray, List.getElem_cons_succ, List.getElem_cons_zero, List.setIfInBounds_toArray, List.set_cons_zero, List.set_cons_succ, Nat.zero_add, List.nil_append]
  refine wpAnyH_take (i := 3) (v := .slice (some ⟨gr, 0, none⟩) m lc) rfl (by kernel_rfl) (by kernel_rfl) (by kernel_rfl) (fun _ _ _ h => h) (Or.inl ⟨by rfl, fun w' hw' => by have q0 := hw'.head; have q1 := hw'.tail.head; go_simp⟩) s0 ?_
  try simp only [Act.put, List.getElem_toArray, List.getElem_cons_succ, List.getElem_cons_zero, List.setIfInBounds_toArray, List.set_cons_zero, List.set_cons_succ, Nat.zero_add, List.nil_append]
  refine wpAnyH_take (i := 4) (v := .int .i64 (k : Int)) rfl (by kernel_rfl) (by kernel_rfl) (by kernel_rfl) (fun _ _ _ h => h) (Or.inl ⟨by rfl, fun w' hw' => by go_simp⟩) s0 ?_
  try simp only [Act.put, List.getElem_toArray, List.getElem_cons_succ, List.getElem_cons_zero, List.setIfInBounds_toArray, List.set_cons_zero, List.set_cons_succ, Nat.zero_add, List.nil_append]
  refine wpAnyH_take (i := 5) (v := .pointer (some ⟨gr, k * 4, none⟩)) rfl (by kernel_rfl) (by kernel_rfl) (by kernel_rfl) (fun _ _ _ h => h) (Or.inl ⟨by rfl, fun w' hw' => by go_simp⟩) s0 ?_
  try simp only [Act.put, List.getElem_toArray, List.getElem_cons_succ, List.getElem_cons_zero, List.setIfInBounds_toArray, List.set_cons_zero, List.set_cons_succ, Nat.zero_add, List.nil_append]
  refine wpAnyH_take (i := 6) (v := .pointer (some ⟨gr, k * 4 + 3, none⟩)) rfl (by kernel_rfl) (by kernel_rfl) (by kernel_rfl) (fun _ _ _ h => h) (Or.inl ⟨by rfl, fun w' hw' => by go_simp⟩) s0 ?_
  try simp only [Act.put, List.getElem_toArray, List.getElem_cons_succ, List.getElem_cons_zero, List.setIfInBounds_toArray, List.set_cons_zero, List.set_cons_succ, Nat.zero_add, List.nil_append]
  refine wpAnyH_take (i := 7) (v := .slice (some ⟨g, o, none⟩) n cap) rfl (by kernel_rfl) (by kernel_rfl) (by kernel_rfl) (fun _ _ _ h => h) (Or.inl ⟨by rfl, fun w' hw' => by have q0 := hw'.head; have q1 := hw'.tail.head; go_simp⟩) s0 ?_
  try simp only [Act.put, List.getElem_toArray, List.getElem_cons_succ, List.getElem_cons_zero, List.setIfInBounds_toArray, List.set_cons_zero, List.set_cons_succ, Nat.zero_add, List.nil_append]
  refine wpAnyH_take (i := 8) (v := .int .i64 (at_ : Int)) rfl (by kernel_rfl) (by kernel_rfl) (by kernel_rfl) (fun _ _ _ h => h) (Or.inl ⟨by rfl, fun w' hw' => by go_simp⟩) s0 ?_
  try simp only [Act.put, List.getElem_toArray, List.getElem_cons_succ, List.getElem_cons_zero, List.setIfInBounds_toArray, List.set_cons_zero, List.set_cons_succ, Nat.zero_add, List.nil_append]
  refine wpAnyH_take (i := 9) (v := .pointer (some ⟨nb, 0, none⟩)) rfl (by kernel_rfl) (by kernel_rfl) (by kernel_rfl) (fun _ _ _ h => h) (Or.inl ⟨by rfl, fun w' hw' => by go_simp⟩) s0 ?_
  try simp only [Act.put, List.getElem_toArray, List.getElem_cons_succ, List.getElem_cons_zero, List.setIfInBounds_toArray, List.set_cons_zero, List.set_cons_succ, Nat.zero_add, List.nil_append]
  refine wpAnyH_take (i := 10) (v := .pointer (some ⟨nb, 0, none⟩)) rfl (by kernel_rfl) (by kernel_rfl) (by kernel_rfl) (fun _ _ _ h => h) (Or.inl ⟨by rfl, fun w' hw' => by go_simp⟩) s0 ?_
  try simp only [Act.put, List.getElem_toArray, List.getElem_cons_succ, List.getElem_cons_zero, List.setIfInBounds_toArray, List.set_cons_zero, List.set_cons_succ, Nat.zero_add, List.nil_append]
  refine wpAnyH_take (i := 11) (v := .pointer (some ⟨nb, 2, none⟩)) rfl (by kernel_rfl) (by kernel_rfl) (by kernel_rfl) (fun _ _ _ h => h) (Or.inl ⟨by rfl, fun w' hw' => by go_simp⟩) s0 ?_
  try simp only [Act.put, List.getElem_toArray, List.getElem_cons_succ, List.getElem_cons_zero, List.setIfInBounds_toArray, List.set_cons_zero, List.set_cons_succ, Nat.zero_add, List.nil_append]
  refine wpAnyH_take (i := 12) (v := .slice (some ⟨gr, 0, none⟩) m lc) rfl (by kernel_rfl) (by kernel_rfl) (by kernel_rfl) (fun _ _ _ h => h) (Or.inl ⟨by rfl, fun w' hw' => by have q0 := hw'.head; have q1 := hw'.tail.head; go_simp⟩) s0 ?_
  try simp only [Act.put, List.getElem_toArray, List.getElem_cons_succ, List.getElem_cons_zero, List.setIfInBounds_toArray, List.set_cons_zero, List.set_cons_succ, Nat.zero_add, List.nil_append]
  refine wpAnyH_take (i := 13) (v := .int .i64 (k : Int)) rfl (by kernel_rfl) (by kernel_rfl) (by kernel_rfl) (fun _ _ _ h => h) (Or.inl ⟨by rfl, fun w' hw' => by go_simp⟩) s0 ?_
  try simp only [Act.put, List.getElem_toArray, List.getElem_cons_succ, List.getElem_cons_zero, List.setIfInBounds_toArray, List.set_cons_zero, List.set_cons_succ, Nat.zero_add, List.nil_append]
  refine wpAnyH_take (i := 14) (v := .pointer (some ⟨gr, k * 4, none⟩)) rfl (by kernel_rfl) (by kernel_rfl) (by kernel_rfl) (fun _ _ _ h => h) (Or.inl ⟨by rfl, fun w' hw' => by go_simp⟩) s0 ?_
  try simp only [Act.put, List.getElem_toArray, List.getElem_cons_succ, List.getElem_cons_zero, List.setIfInBounds_toArray, List.set_cons_zero, List.set_cons_succ, Nat.zero_add, List.nil_append]
  refine wpAnyH_take (i := 15) (v := .pointer (some ⟨gr, k * 4 + 3, none⟩)) rfl (by kernel_rfl) (by kernel_rfl) (by kernel_rfl) (fun _ _ _ h => h) (Or.inl ⟨by rfl, fun w' hw' => by go_simp⟩) s0 ?_
  try simp only [Act.put, List.getElem_toArray, List.getElem_cons_succ, List.getElem_cons_zero, List.setIfInBounds_toArray, List.set_cons_zero, List.set_cons_succ, Nat.zero_add, List.nil_append]
  refine wpAnyH_take (i := 16) (v := .slice (some ⟨g, o, none⟩) n cap) rfl (by kernel_rfl) (by kernel_rfl) (by kernel_rfl) (fun _ _ _ h => h) (Or.inl ⟨by rfl, fun w' hw' => by have q0 := hw'.head; have q1 := hw'.tail.head; go_simp⟩) s0 ?_
  try simp only [Act.put, List.getElem_toArray, List.getElem_cons_succ, List.getElem_cons_zero, List.setIfInBounds_toArray, List.set_cons_zero, List.set_cons_succ, Nat.zero_add, List.nil_append]
  refine wpAnyH_take (i := 17) (v := .int .i64 (at_ : Int)) rfl (by kernel_rfl) (by kernel_rfl) (by kernel_rfl) (fun _ _ _ h => h) (Or.inl ⟨by rfl, fun w' hw' => by go_simp⟩) s0 ?_
  try simp only [Act.put, List.getElem_toArray, List.getElem_cons_succ, List.getElem_cons_zero, List.setIfInBounds_toArray, List.set_cons_zero, List.set_cons_succ, Nat.zero_add, List.nil_append]
  refine wpAnyH_take (i := 18) (v := .pointer (some ⟨g, o + at_, none⟩)) rfl (by kernel_rfl) (by kernel_rfl) (by kernel_rfl) (fun _ _ _ h => h) (Or.inl ⟨by rfl, fun w' hw' => by go_simp⟩) s0 ?_
  try simp only [Act.put, List.getElem_toArray, List.getElem_cons_succ, List.getElem_cons_zero, List.setIfInBounds_toArray, List.set_cons_zero, List.set_cons_succ, Nat.zero_add, List.nil_append]
  refine wpAnyH_take (i := 20) (v := .int .u8 (b : Int)) rfl (by kernel_rfl) (by kernel_rfl) (by kernel_rfl) (fun _ _ _ h => h) (Or.inl ⟨by rfl, fun w' hw' => by go_simp⟩) s0 ?_
  try simp only [Act.put, List.getElem_toArray, List.getElem_cons_succ, List.getElem_cons_zero, List.setIfInBounds_toArray, List.set_cons_zero, List.set_cons_succ, Nat.zero_add, List.nil_append]
  refine wpAnyH_ready (rs := [19]) (by kernel_rfl) (by simp) ?_
  refine AllReadyH.cons rfl (fun K hK => ?_) AllReadyH.nil
  rw [if_pos (by rfl)]
  go_simp
  refine hK.out _ _ s0 (fun _ => ?_)
  clear hK K
  try simp only [Act.put, List.getElem_toArray, List.getElem_cons_succ, List.getElem_cons_zero, List.setIfInBounds_toArray, List.set_cons_zero, List.set_cons_succ, Nat.zero_add, List.nil_append]
  refine wpAnyH_take (i := 21) (v := .int .u8 (z : Int)) rfl (by kernel_rfl) (by kernel_rfl) (by kernel_rfl) (fun _ _ _ h => h) (Or.inl ⟨by rfl, fun w' hw' => by go_simp⟩) s0 ?_
  try simp only [Act.put, List.getElem_toArray, List.getElem_cons_succ, List.getElem_cons_zero, List.setIfInBounds_toArray, List.set_cons_zero, List.set_cons_succ, Nat.zero_add, List.nil_append]
  refine wpAnyH_take (i := 22) (v := .pointer (some ⟨g, o + at_, none⟩)) rfl (by kernel_rfl) (by kernel_rfl) (by kernel_rfl) (fun _ _ _ h => h) (Or.inl ⟨by rfl, fun w' hw' => by go_simp⟩) s0 ?_
  try simp only [Act.put, List.getElem_toArray, List.getElem_cons_succ, List.getElem_cons_zero, List.setIfInBounds_toArray, List.set_cons_zero, List.set_cons_succ, Nat.zero_add, List.nil_append]
  refine wpAnyH_ready (rs := [23]) (by kernel_rfl) (by simp) ?_
  refine AllReadyH.cons rfl (fun K hK => ?_) AllReadyH.nil
  rw [if_pos (by rfl)]
  go_simp
  have s1 := s0.set ⟨g, o + at_, none⟩ (.int .u8 (z : Int)) (by intro p hp; simp only [List.mem_cons, List.not_mem_nil, or_false] at hp; rcases hp with rfl | rfl <;> (intro e; simp only [Addr.mk.injEq] at e; first | exact hng e.1 | exact hrg e.1))
  refine hK.out _ _ s1 (fun _ => ?_)
  clear hK K
  try simp only [Act.put, List.getElem_toArray, List.getElem_cons_succ, List.getElem_cons_zero, List.setIfInBounds_toArray, List.set_cons_zero, List.set_cons_succ, Nat.zero_add, List.nil_append]
  refine wpAnyH_done (by kernel_rfl) ?_ _
  have h1 := (H.out.below BD.out).spoil HINC.out HP.out.1 rfl at_ z (by rw [HL.out]; exact ha) hzl
  have k1 := Keep.setCell wd ⟨g, o + at_, none⟩ (u8v z)
  simp only at h1
  have H1 := Lib.hid h1
  have K1 := Lib.hid k1
  clear s0 s1 y0 y1 h1 k1
  generalize hw1 : wd.setCell ⟨g, o + at_, none⟩ (.int .u8 (z : Int)) = w1 at *
  have K1 : Hid (Keep [g] wd w1) := K1
  clear hw1
  have c5 := H1.out.at_ 5; have f5 := H1.out.fr 5; have hltn := H1.out.lt
  simp only [rowR, List.getElem?_toArray, List.getElem?_cons_succ, List.getElem?_cons_zero] at c5
  have hT := HTT.out
  have hts : (T.spoilt : Int) + 1 ≤ 4611686018427387904 := by omega
  go_wp2_with fail
  rw [show ((T.spoilt : Int) + 1) = ((T.spoilt + 1 : Nat) : Int) by omega]
  go_ret
  have h2 := H1.out.setTr 5 (.int .i64 ((T.spoilt + 1 : Nat) : Int)) T.addSpoilt rfl
  have k2 := Keep.setCell w1 ⟨nb, 5, none⟩ (.int .i64 ((T.spoilt + 1 : Nat) : Int))
  have hpp := HP.out
  try simp only at hpp
  rw [hpp.2] at h2
  have hgm : g ∈ rnB nb (some ⟨gr, 0, none⟩) D := List.mem_cons_of_mem _ (List.mem_append.2 (.inr (bs_mem.2 ⟨_, hpp.1, by simp [blk]⟩)))
  exact ⟨rfl, h2, ((Keep.of_below BD.out _).trans (K1.out.mono (fun q hq => by simp only [List.mem_singleton] at hq; subst hq; exact .inl hgm))).trans (k2.mono (by simp))⟩
end
end Go.Proofs.Ythanjfnpohhebaa
