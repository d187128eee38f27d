/- Forget. -/
import Derived.Test.YthanjfnpohhebaaNumTo
namespace Go.Proofs.Ythanjfnpohhebaa
open Go.RowKit Go.Sort
set_option linter.unusedVariables false
set_option linter.unusedSimpArgs false

/-- without the first k of these -/
def woAll (S : List Pkt) (ids : List Nat) : List Pkt := ids.foldl wo S
def Tr.lostK (T : Tr) (k : Nat) : Tr := { T with lost := T.lost + k }
theorem lostK_succ (T : Tr) (k : Nat) : (T.lostK k).addLost = T.lostK (k + 1) := by
  unfold Tr.lostK Tr.addLost; simp [Nat.add_assoc]
theorem woAll_take (S : List Pkt) (ids : List Nat) (k x : Nat) (hk : ids[k]? = some x) : woAll S (ids.take (k + 1)) = wo (woAll S (ids.take k)) x := by
  unfold woAll
  rw [List.take_add_one, hk, List.foldl_append]; rfl
theorem look_woAll {S : List Pkt} {x : Nat} : ∀ (ids : List Nat) , x ∉ ids → look (woAll S ids) x = look S x := by
  intro ids
  induction ids generalizing S with
  | nil => intro _; rfl
  | cons y r ih =>
    intro h
    have h1 : x ≠ y := fun e => h (by simp [e])
    have h2 : x ∉ r := fun e => h (by simp [e])
    show look (woAll (wo S y) r) x = _
    rw [ih h2, look_wo, if_neg h1]
section
variable {B hn room made : Nat} {Bs : List Nat} {S : List Pkt} {T : Tr}
set_option maxRecDepth 100000 in
set_option maxHeartbeats 8000000 in
theorem forget_any (w : World) (node : Int) (h : Net w B hn Bs S room made T) (hmade : made < 18446744073709551616) (hT : T.lost < 2305843009213693952) :
    Calls Try.prog 19 #[.pointer (some ⟨hn, 0, none⟩), .int .i64 node] w fun e w' => e = .returned (.int .i64 ((to_ S node).length : Int)) ∧ ∃ Bs', Net w' B hn Bs' (woAll S ((to_ S node).map (·.id))) room made (T.lostK (to_ S node).length) ∧ Turned Bs Bs' w w' := by
  have hmf : ∀ (fn : Fn) (first cap : Array Value) (w : World), (Instr.makeFunc fn first cap).run Try.prog w = .ok (.func fn first cap) w := fun _ _ _ _ => rfl
  have hb1 := below_alloc (Below.refl w.heap.size w) (.cells #[.int .i64 node] 3)
  have h1 := h.below hb1
  have c1 : (w.alloc (.cells #[.int .i64 node] 3)).cell? ⟨w.heap.size, 0, none⟩ = some (.int .i64 node) := by rw [World.cell?_alloc_at _ _ _ _ rfl]; rfl
  obtain ⟨gm, hBs, h2⟩ := h1
  have NT := Lib.hid (numbers_to w.heap.size node (w.alloc (.cells #[.int .i64 node] 3)) c1 h2 hmade)
  have H1 := Lib.hid (show Net (w.alloc (.cells #[.int .i64 node] 3)) B hn Bs S room made T from ⟨gm, hBs, h2⟩)
  have HB1 := Lib.hid hb1
  clear h hb1 c1 hBs h2
  go_enter Try.func19, Try.ntmps19
  go_wp2_with fail
  refine NT.out.mono ?_
  rintro e w2 ⟨v, rfl, b2, nums⟩
  have B2 := Lib.hid (below_next HB1.out b2)
  have N2 := H1.out.below b2
  have hg0 : ∀ q ∈ Bs, q < w.heap.size + 1 := fun q hq => by have := (H1.out.blocks q hq).2; simpa using this
  have HG0 := Lib.hid hg0
  obtain ⟨ids, hids⟩ : ∃ x, x = (to_ S node).map (·.id) := ⟨_, rfl⟩
  have hLEN : (to_ S node).length = ids.length := by rw [hids, List.length_map]
  have hS4 : S.length ≤ 4096 := by obtain ⟨gm, _, h⟩ := N2; have := h.few; have := h.rm; omega
  have hL4 : ids.length ≤ 4096 := by rw [← hLEN]; exact Nat.le_trans (to_len S node) hS4
  have hfacts : ids.Nodup ∧ ∀ x ∈ ids, x < 18446744073709551616 ∧ ∃ p, look S x = some p := by
    obtain ⟨gm, _, h⟩ := N2
    refine ⟨?_, fun x hx => ?_⟩
    · rw [hids, List.nodup_iff_pairwise_ne, List.pairwise_map]
      exact (to_inc h.inc node).imp fun h => by omega
    · rw [hids] at hx
      obtain ⟨p, hp, rfl⟩ := List.mem_map.1 hx
      have hps : p ∈ S := (List.mem_filter.1 hp).1
      have := (h.ids p hps).2
      exact ⟨by omega, p, h.inc.look hps⟩
  have HF := Lib.hid hfacts
  have HI := Lib.hid hids
  have HLN := Lib.hid hLEN
  rw [← hids] at nums
  have N2H := Lib.hid N2
  clear NT H1 hg0 hfacts hids N2 b2
  rcases nums with ⟨rfl, h0⟩ | ⟨g, cap, row, rfl, hgB, hle, hmx, hrow, hcells⟩
  · have hz : ids.length = 0 := by rw [h0]; rfl
    have HZ := Lib.hid h0
    clear h0
    go_wp2_with fail
    go_loopw [7, 13] (fun v7 v13 wr => v13 = .int .i64 0 ∧ wr = w2) (fun v7 v13 wr => 0)
    case atStart => exact ⟨rfl, rfl⟩
    case round =>
      obtain ⟨rfl, rfl⟩ := hrel
      go_wp2_with fail
      go_ret
      refine ⟨ret_int (by rw [HLN.out, hz]; rfl), Bs, ?_, Turned.of_below Bs B2.out⟩
      rw [← HI.out, HZ.out, HLN.out, hz]
      exact N2H.out
  · have HR := Lib.hid hrow; have HC := Lib.hid hcells; have HGB := Lib.hid hgB
    have hgs : g < w2.heap.size := (Array.getElem?_eq_some_iff.1 hrow).1
    have HGN := Lib.hid (show g ∉ Bs from fun hm => by have := HG0.out g hm; have h5 := hgB; simp at h5; omega)
    clear hrow hcells hgB
    go_wp2_with fail
    go_loopw [7, 13] (fun v7 v13 wr => ∃ (k : Nat) (Bsk : List Nat), v13 = .int .i64 (k : Int) ∧ k ≤ ids.length ∧ Net wr B hn Bsk (woAll S (ids.take k)) room made (T.lostK k) ∧ (∀ q ∈ Bsk, q ∈ Bs) ∧ Keep Bs w2 wr) (fun v7 v13 wr => ids.length - (intOf v13).toNat)
    case atStart => exact ⟨0, Bs, rfl, Nat.zero_le _, N2H.out, fun q h => h, Keep.refl _ _⟩
    case round =>
      obtain ⟨k, Bsk, rfl, hk, hnet, hsub, hkeep⟩ := hrel
      have NK := Lib.hid hnet; have SUB := Lib.hid hsub; have KP := Lib.hid hkeep
      have hrk : wr.heap[g]? = some (.cells row 30 (0, 0)) := (hkeep.block g hgs HGN.out).trans HR.out
      by_cases hlt : k < ids.length
      · have hx : ids[k]? = some (ids.getD k 0) := by simp [List.getD, hlt]
        have hcell : wr.cell? ⟨g, 0 + k, none⟩ = some (.int .u64 ((ids.getD k 0 : Nat) : Int)) := by rw [cell_of_row wr g _ row _ (0, 0) hrk, Nat.zero_add]; exact HC.out k hlt
        rw [Nat.zero_add] at hcell
        obtain ⟨x, hxe⟩ : ∃ x, x = ids.getD k 0 := ⟨_, rfl⟩
        rw [← hxe] at hx hcell
        obtain ⟨hx64, p, hp⟩ := HF.out.2 x (List.mem_of_getElem? hx)
        have hnot : x ∉ ids.take k := fun hm => by
          obtain ⟨j, hj, hjx⟩ := List.getElem_of_mem hm
          have hj2 : j < k := by have := hj; simp at this; omega
          have h7 : ids[j]? = some x := by rw [List.getElem_take] at hjx; rw [List.getElem?_eq_getElem (by omega), hjx]
          have h8 := (List.getElem?_inj (by omega : j < ids.length) HF.out.1).1 (h7.trans hx.symm)
          omega
        have hlk : look (woAll S (ids.take k)) x = some p := by rw [look_woAll _ hnot]; exact hp
        have LO := Lib.hid (lose_in wr x hx64 hnet hlk (by unfold Tr.lostK; simp only; omega))
        have HT1 := Lib.hid (woAll_take S ids k x hx)
        clear hnet hsub hkeep hrk hx hxe hp hnot hlk
        go_wp2_with fail
        refine LO.out.mono ?_
        rintro e w3 ⟨rfl, Bs', hn', kp', sub', _⟩
        rw [← HT1.out, lostK_succ] at hn'
        have N3 := Lib.hid hn'; have S3 := Lib.hid sub'; have K3 := Lib.hid kp'
        clear hn' kp' sub' LO
        go_wp2_with fail
        go_roundw
        case rel => exact ⟨k + 1, Bs', by go_num, by omega, N3.out, fun q hq => SUB.out q (S3.out q hq), KP.out.trans (K3.out.mono fun q hq => by first | exact .inl (SUB.out q (S3.out q hq)) | exact SUB.out q (S3.out q hq))⟩
        case measure => simp [intOf]; omega
      · obtain rfl : k = ids.length := by omega
        clear hnet hsub hkeep hrk
        go_wp2_with fail
        go_ret
        refine ⟨ret_int (by rw [HLN.out]), Bsk, ?_, ?_⟩
        · have := NK.out
          rw [List.take_length] at this
          rw [← HI.out, HLN.out]
          exact this
        · exact ⟨(Keep.of_below B2.out Bs).trans KP.out, fun q hq => .inl (SUB.out q hq)⟩
end
end Go.Proofs.Ythanjfnpohhebaa
