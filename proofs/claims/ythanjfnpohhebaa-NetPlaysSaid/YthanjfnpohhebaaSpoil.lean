/- Spoil. -/
import Derived.Test.YthanjfnpohhebaaMeth4
namespace Go.Proofs.Ythanjfnpohhebaa
open Go.RowKit Go.Sort
set_option linter.unusedVariables false

/-- byte at of packet id is z -/
def setB (id at_ z : Nat) (p : Pkt) : Pkt := if p.id = id then { p with data := p.data.set at_ z } else p
def spS (S : List Pkt) (id at_ z : Nat) : List Pkt := S.map (setB id at_ z)
theorem setB_id (id at_ z : Nat) (p : Pkt) : (setB id at_ z p).id = p.id := by unfold setB; split <;> rfl
theorem setB_ao (id at_ z : Nat) (p : Pkt) : (setB id at_ z p).ao = p.ao := by unfold setB; split <;> rfl
theorem setB_to (id at_ z : Nat) (p : Pkt) : (setB id at_ z p).to = p.to := by unfold setB; split <;> rfl
theorem setB_cells (id at_ z : Nat) (p : Pkt) : (setB id at_ z p).cells = p.cells := by unfold setB; split <;> simp [Pkt.cells, Pkt.sl]
theorem setB_len (id at_ z : Nat) (p : Pkt) : (setB id at_ z p).data.length = p.data.length := by unfold setB; split <;> simp
theorem look_sp (S : List Pkt) (id at_ z k : Nat) : look (spS S id at_ z) k = (look S k).map (setB id at_ z) := by
  unfold look spS
  rw [List.find?_map]
  congr 1
  apply congrArg (fun f => List.find? f S)
  funext p
  simp [setB_id]
theorem fmap_sp (S : List Pkt) (id at_ z : Nat) : fmap (spS S id at_ z) = fmap S := by
  funext k
  unfold fmap
  rw [look_sp]
  cases look S k <;> simp [setB_cells]
theorem bs_sp (S : List Pkt) (id at_ z : Nat) : bs (spS S id at_ z) = bs S := by
  unfold bs spS
  rw [List.flatMap_map]
  congr 1
  funext p
  rw [setB_ao]
theorem PkW.spoil {w : World} {B : Nat} {S : List Pkt} (h : PkW w B S) (hi : Inc S) {p : Pkt} (hp : p ∈ S) {g o : Nat} (hao : p.ao = some ⟨g, o, none⟩) (at_ z : Nat) (ha : at_ < p.data.length) (hz : z < 256) :
    PkW (w.setCell ⟨g, o + at_, none⟩ (u8v z)) B (spS S p.id at_ z) := by
  have k := Keep.setCell w ⟨g, o + at_, none⟩ (u8v z)
  refine ⟨fun q hq => ?_, ?_⟩
  · obtain ⟨x, hx, rfl⟩ := List.mem_map.1 hq
    by_cases e : x.id = p.id
    · obtain rfl := hi.one hx hp e
      unfold setB
      rw [if_pos rfl]
      simp only
      have ho := h.own x hx
      rw [hao] at ho
      rw [hao, List.length_set]
      exact ho.set at_ z ha hz
    · have : setB p.id at_ z x = x := by unfold setB; rw [if_neg e]
      rw [this]
      refine (h.own x hx).keep k fun g' hg' hm => ?_
      simp at hm
      subst hm
      have hb := h.own_wo hp hi g' (by simp [hao, blk])
      exact hb (bs_mem.2 ⟨x, wo_mem.2 ⟨hx, e⟩, hg'⟩)
  · unfold spS
    rw [List.pairwise_map]
    refine h.apart.imp fun {a b} hab g hg => ?_
    rw [setB_ao] at hg ⊢
    exact hab g hg

section
variable {B hn gm : Nat} {S : List Pkt} {room made : Nat} {T : Tr} {Bs : List Nat}
theorem NetW.spoil {w : World} (h : NetW w B hn gm S room made T) {p : Pkt} (hp : p ∈ S) {g o : Nat} (hao : p.ao = some ⟨g, o, none⟩) (at_ z : Nat) (ha : at_ < p.data.length) (hz : z < 256) :
    NetW (w.setCell ⟨g, o + at_, none⟩ (u8v z)) B hn gm (spS S p.id at_ z) room made T := by
  have k := Keep.setCell w ⟨g, o + at_, none⟩ (u8v z)
  have hg : g ∈ bs S := bs_mem.2 ⟨p, hp, by simp [hao, blk]⟩
  have h1 : hn ∉ [(⟨g, o + at_, none⟩ : Addr).block] := by simp; exact fun e => h.nh (e ▸ hg)
  have h2 : gm ∉ [(⟨g, o + at_, none⟩ : Addr).block] := by simp; exact fun e => h.ng (e ▸ hg)
  refine ⟨?_, (k.block hn h.hlt h1).trans h.row, h.base, h.gbase, h.ne, h.pk.spoil h.inc hp hao at_ z ha hz, by rw [bs_sp]; exact h.nh, by rw [bs_sp]; exact h.ng, ?_, ?_, ?_, h.rm, by simp [spS]; exact h.few⟩
  · rw [fmap_sp, show (spS S p.id at_ z).length = S.length by simp [spS]]
    exact h.map.keep k h2
  · unfold Inc spS
    rw [List.pairwise_map]
    exact h.inc.imp fun {a b} hab => by rw [setB_id, setB_id]; exact hab
  · intro q hq
    obtain ⟨x, hx, rfl⟩ := List.mem_map.1 hq
    rw [setB_id]; exact h.ids x hx
  · intro q hq
    obtain ⟨x, hx, rfl⟩ := List.mem_map.1 hq
    rw [setB_len]; exact h.lens x hx
set_option maxRecDepth 100000 in
set_option maxHeartbeats 1600000 in
theorem spoil_no (w : World) (rv : Value) (id : Nat) (p : Pkt) (x at_ b : Int) (hx : x ≠ 0)
    (hc : Calls Try.prog 35 #[rv, .int .u64 (id : Int)] w fun e w' => e = .returned (.tuple #[agv p, .int .i64 x]) ∧ Below w.heap.size w w') :
    Calls Try.prog 18 #[rv, .int .u64 (id : Int), .int .i64 at_, .int .u8 b] w fun e w' => e = .returned (.int .i64 x) ∧ Below w.heap.size w w' := by
  obtain ⟨pid, fr, to, ao, cap, l⟩ := p
  have C := Lib.hid hc
  simp only [agv, Pkt.cells, Pkt.sl] at C
  have hne : (x != 0) = true := by simpa using hx
  generalize l.length = n at *
  clear hc
  go_enter Try.func18, Try.ntmps18
  go_wp2_with fail
  refine C.out.mono ?_; rintro e w1 ⟨rfl, b1⟩
  go_wp2_with fail
  go_ret
  exact ⟨rfl, below_alloc b1 _⟩
set_option maxRecDepth 100000 in
set_option maxHeartbeats 1600000 in
theorem spoil_out (w : World) (id : Nat) (hid : id < 18446744073709551616) (h : Net w B hn Bs S room made T) {p : Pkt} (hl : look S id = some p) (at_ b : Int) (ha : at_ < 0 ∨ (p.data.length : Int) ≤ at_) :
    Calls Try.prog 18 #[.pointer (some ⟨hn, 0, none⟩), .int .u64 (id : Int), .int .i64 at_, .int .u8 b] w fun e w' => e = .returned (.int .i64 1) ∧ Below w.heap.size w w' := by
  have hfind := find_any id hid w h
  rw [show findE S id = .tuple #[agv p, .int .i64 0] by unfold findE; rw [hl]] at hfind
  have C := Lib.hid hfind
  have hlen : p.data.length ≤ 65546 := by obtain ⟨gm, _, h0⟩ := h; exact h0.lens p (look_some hl).1
  obtain ⟨pid, fr, to, ao, cap, l⟩ := p
  simp only [agv, Pkt.cells, Pkt.sl] at C hlen ha
  clear hfind h hl
  generalize l.length = n at *
  by_cases h0 : at_ < 0
  all_goals
    go_enter Try.func18, Try.ntmps18
    go_wp2_with fail
    refine C.out.mono ?_; rintro e w1 ⟨rfl, b1⟩
    have B1 := Lib.hid (below_alloc b1 (.cells #[.int .u64 (pid : Int), .int .i64 fr, .int .i64 to, .slice ao n cap] 52))
    have hge : (n : Int) ≤ at_ ∨ at_ < 0 := by omega
    go_wp2_with fail
    go_ret
    exact ⟨rfl, B1.out⟩
set_option maxRecDepth 100000 in
set_option maxHeartbeats 1600000 in
theorem spoil_yes (w : World) (id : Nat) (hid : id < 18446744073709551616) (h : Net w B hn Bs S room made T) {p : Pkt} (hl : look S id = some p) (at_ b : Nat) (ha : at_ < p.data.length) (hb : b < 256) (hT : T.spoilt < 4611686018427387904) :
    Calls Try.prog 18 #[.pointer (some ⟨hn, 0, none⟩), .int .u64 (id : Int), .int .i64 (at_ : Int), .int .u8 (b : Int)] w fun e w' => e = .returned (.int .i64 0) ∧ Net w' B hn Bs (spS S id at_ (bt p.data at_ ^^^ b)) room made T.addSpoilt ∧ Keep Bs w w' := by
  have hfind := find_any id hid w h
  rw [show findE S id = .tuple #[agv p, .int .i64 0] by unfold findE; rw [hl]] at hfind
  have C := Lib.hid hfind
  have H := Lib.hid h; have HK := Lib.hid hl
  have HP := Lib.hid (show Own w B p.ao p.data.length p.cap p.data ∧ p.data.length ≤ 65546 by
    obtain ⟨gm, _, h0⟩ := h
    have hp := (look_some hl).1
    exact ⟨h0.pk.own p hp, h0.lens p hp⟩)
  have hlen := HP.out.2
  obtain ⟨pid, fr, to, ao, cap, l⟩ := p
  simp only [agv, Pkt.cells, Pkt.sl] at C HP ha hlen ⊢
  obtain ⟨n, hln⟩ : ∃ n, l.length = n := ⟨_, rfl⟩
  rw [hln] at C HP ha hlen
  have HL := Lib.hid hln
  clear hfind h hl hln
  obtain ⟨g, o, rfl, hBg, hgl, hcg, hfg⟩ := HP.out.1.at_ at_ ha
  have hle := HP.out.1.le
  have hmax := HP.out.1.max
  have hby := HP.out.1.rd.byte at_
  have e1 := u8_xor_nat (bt l at_) b hby hb
  have hzl : bt l at_ ^^^ b < 256 := Nat.xor_lt_two_pow (n := 8) hby hb
  have HZ := Lib.hid (⟨hzl, rfl⟩ : bt l at_ ^^^ b < 256 ∧ bt l at_ ^^^ b = bt l at_ ^^^ b)
  obtain ⟨z, hz⟩ : ∃ z, bt l at_ ^^^ b = z := ⟨_, rfl⟩
  rw [hz] at e1 hzl
  have HZV := Lib.hid hz
  obtain ⟨v, hv⟩ : ∃ v, bt l at_ = v := ⟨_, rfl⟩
  rw [hv] at e1 hcg hby
  clear hz hv HZ
  go_enter Try.func18, Try.ntmps18
  go_wp2_with fail
  refine C.out.mono ?_; rintro e w1 ⟨rfl, b1⟩
  have hcg1 := (b1.cell hgl).trans hcg
  have hfg1 := (b1.frozen hgl).trans hfg
  have hgl1 := Nat.lt_of_lt_of_le hgl b1.size
  have hneg : g ≠ w1.heap.size := by omega
  obtain ⟨gm, hBs, h1⟩ := H.out.below b1
  have c5 := h1.at_ 5; have f5 := h1.fr 5; have hltn := h1.hlt
  simp only [rowN, List.getElem?_toArray, List.getElem?_cons_succ, List.getElem?_cons_zero] at c5
  have hneg2 : g ≠ hn := fun e => h1.nh (bs_mem.2 ⟨_, (look_some HK.out).1, by simp [blk, e]⟩)
  have hneg3 : hn ≠ w1.heap.size := by omega
  have hai : (at_ : Int) < (n : Int) := by omega
  have HW1 := Lib.hid h1; have B1 := Lib.hid b1; have HBs := Lib.hid hBs; have HHB := Lib.hid hBg
  clear h1 b1 hBs hcg hfg hBg hgl
  go_wp2_with fail
  rw [show ((T.spoilt : Int) + 1) = ((T.spoilt + 1 : Nat) : Int) by omega]
  go_ret
  have hp := look_some HK.out
  have h2 := (HW1.out.spoil hp.1 rfl at_ z (by rw [HL.out]; exact ha) hzl).setTr 5 (.int .i64 ((T.spoilt + 1 : Nat) : Int)) T.addSpoilt rfl
  have k2 := Keep.setCell w1 ⟨g, o + at_, none⟩ (u8v z)
  have k3 := Keep.setCell (w1.setCell ⟨g, o + at_, none⟩ (u8v z)) ⟨hn, 5, none⟩ (.int .i64 ((T.spoilt + 1 : Nat) : Int))
  rw [HZV.out]
  simp only at hp
  rw [hp.2] at h2
  have b3 := below_alloc (Below.refl ((w1.setCell ⟨g, o + at_, none⟩ (u8v z)).setCell ⟨hn, 5, none⟩ (.int .i64 ((T.spoilt + 1 : Nat) : Int))).heap.size _) (.cells #[.int .u64 (pid : Int), .int .i64 fr, .int .i64 to, .slice (some ⟨g, o, none⟩) n cap] 52)
  have hb2 := bs_sp S id at_ z
  have hgm : g ∈ Bs := by rw [HBs.out]; exact List.mem_cons_of_mem _ (List.mem_cons_of_mem _ (bs_mem.2 ⟨_, hp.1, by simp [blk]⟩))
  refine ⟨rfl, ⟨gm, by rw [hb2]; exact HBs.out, h2.keep (Keep.of_below b3 []) (by simp)⟩, ?_⟩
  exact (((Keep.of_below B1.out Bs).trans (k2.mono (by simp; exact .inl hgm))).trans (k3.mono (by rw [HBs.out]; simp))).trans (Keep.of_below b3 _)
end
end Go.Proofs.Ythanjfnpohhebaa
