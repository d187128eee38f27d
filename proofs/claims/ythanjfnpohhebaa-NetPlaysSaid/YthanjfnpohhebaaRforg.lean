/- NetPlays: the document's net: Forget. -/
import Derived.Test.YthanjfnpohhebaaRspoil
import Derived.Test.YthanjfnpohhebaaForg
namespace Go.Proofs.Ythanjfnpohhebaa
open Go.RowKit Go.Sort
set_option linter.unusedVariables false
set_option linter.unusedSectionVars false
set_option linter.unusedSimpArgs false
set_option maxRecDepth 100000
/-- packets that go elsewhere -/
def notTo (S : List Pkt) (node : Int) : List Pkt := S.filter fun p => decide (p.to ≠ node)
theorem take_nextP {α : Type} {l : List α} {k : Nat} {x : α} (h : l[k]? = some x) : l.take (k + 1) = l.take k ++ [x] := by
  rw [List.take_add_one, h]; rfl
theorem to_next {S : List Pkt} {k : Nat} {p : Pkt} (node : Int) (h : S[k]? = some p) : to_ (S.take (k + 1)) node = to_ (S.take k) node ++ (if p.to = node then [p] else []) := by
  rw [take_nextP h]
  unfold to_
  rw [List.filter_append]
  by_cases e : p.to = node <;> simp [e]
theorem notTo_next {S : List Pkt} {k : Nat} {p : Pkt} (node : Int) (h : S[k]? = some p) : notTo (S.take (k + 1)) node = notTo (S.take k) node ++ (if p.to = node then [] else [p]) := by
  rw [take_nextP h]
  unfold notTo
  rw [List.filter_append]
  by_cases e : p.to = node <;> simp [e]
theorem notTo_len (S : List Pkt) (node : Int) : (notTo S node).length ≤ S.length := List.length_filter_le _ _
section
variable {w w' : World} {B nb lc room last : Nat} {lo : Option Addr} {D : List Pkt} {T : Tr}
/-- what Forget ends in -/
def RforgEnd (w : World) (B nb : Nat) (lo : Option Addr) (D : List Pkt) (room last : Nat) (T : Tr) (node : Int) (e : Ending) (w' : World) : Prop :=
  e = .returned (.int .i64 ((to_ D node).length : Int)) ∧ ∃ lo' lc', RnW w' B nb lo' lc' (notTo D node) room last (T.lostK (to_ D node).length) ∧ Turned (rnB nb lo D) (rnB nb lo' (notTo D node)) w w'
set_option maxHeartbeats 4000000 in
theorem rforget_any (w : World) (node : Int) (h : RnW w B nb lo lc D room last T) (hT : T.lost < 2305843009213693952) :
    Calls Try.prog 28 #[.pointer (some ⟨nb, 0, none⟩), .int .i64 node] w (RforgEnd w B nb lo D room last T node) := by
  have H := Lib.hid h
  have hnl := h.lt
  have hfew := h.few
  obtain ⟨m, hm⟩ : ∃ m, D.length = m := ⟨_, rfl⟩
  have HM := Lib.hid hm
  rw [hm] at hfew
  have hmi : (m : Int) ≤ 4096 := by omega
  obtain ⟨i0, hi0, hz0, hz1, hz2⟩ := info_parts pkt_info
  have HI := Lib.hid hi0; have HZ0 := Lib.hid hz0; have HZ1 := Lib.hid hz1; have HZ2 := Lib.hid hz2
  have HTT := Lib.hid hT
  clear h hm hi0 hz0 hz1 hz2 hT
  go_enter Try.func28, Try.ntmps28
  go_wp2_with fail
  go_loopw [5, 6, 7] (fun v5 v6 v7 wr => ∃ k : Nat, v7 = .int .i64 (k : Int) ∧ k ≤ m ∧ v6 = .int .i64 ((to_ (D.take k) node).length : Int) ∧ wr.ownsRow w.heap.size 52 4 v5 (notTo (D.take k) node).length (fl Pkt.list (notTo (D.take k) node)) ∧ Below w.heap.size w wr) (fun _ _ v7 _ => m - (intOf v7).toNat)
  case atStart => exact ⟨0, rfl, Nat.zero_le _, rfl, World.ownsRow_nil _ _ _ _, Below.refl _ _⟩
  case round =>
    obtain ⟨k, rfl, hk, rfl, hacc, hbl⟩ := hrel
    obtain ⟨ac, cc, rfl, _, _⟩ := owns_shape hacc
    have HACC := Lib.hid hacc
    have HB := Lib.hid hbl
    have HD := Lib.hid (H.out.below hbl)
    have hsz1 : w.heap.size ≤ wr.heap.size := hbl.size
    have c2 := HD.out.at_ 2
    simp only [rowR, List.getElem?_toArray, List.getElem?_cons_succ, List.getElem?_cons_zero] at c2
    rw [HM.out] at c2
    have hnr : nb < wr.heap.size := HD.out.lt
    have hlen1 := Nat.le_trans (to_len (D.take k) node) (List.length_take_le k D)
    have hlen2 := Nat.le_trans (notTo_len (D.take k) node) (List.length_take_le k D)
    by_cases hlt : k < m
    · obtain ⟨p, hp⟩ : ∃ p, D[k]? = some p := ⟨_, List.getElem?_eq_getElem (by rw [HM.out]; exact hlt)⟩
      obtain ⟨g, rfl, hg, hc⟩ := HD.out.pkt hp
      have d0 := hc 0 (by omega); have d1 := hc 1 (by omega); have d2 := hc 2 (by omega); have d3 := hc 3 (by omega)
      simp only [List.getElem?_cons_succ, List.getElem?_cons_zero, Nat.add_zero] at d0 d1 d2 d3
      have hki : (0 : Int) ≤ (k : Int) := by omega
      have hki2 : (k : Int) < (m : Int) := by omega
      have NT := Lib.hid (to_next node hp); have NN := Lib.hid (notTo_next node hp)
      obtain ⟨n, hn⟩ : ∃ n, p.data.length = n := ⟨_, rfl⟩
      rw [show p.sl = .slice p.ao n p.cap by rw [← hn]] at d3
      have HPL := Lib.hid (show p.list = [.int .u64 (p.id : Int), .int .i64 p.fr, .int .i64 p.to, .slice p.ao n p.cap] by rw [← hn])
      clear hc hp hacc hbl hn
      obtain ⟨tl, htl⟩ : ∃ q, (to_ (D.take k) node).length = q := ⟨_, rfl⟩
      obtain ⟨nl, hnl2⟩ : ∃ q, (notTo (D.take k) node).length = q := ⟨_, rfl⟩
      rw [htl] at hlen1; rw [hnl2] at hlen2
      have HTL := Lib.hid htl; have HNL := Lib.hid hnl2
      rw [htl]
      rw [hnl2]
      have HACC : Hid (wr.ownsRow w.heap.size 52 4 (.slice ac nl cc) nl (fl Pkt.list (notTo (D.take k) node))) := Lib.hid (by have := HACC.out; rwa [hnl2] at this)
      clear htl hnl2
      by_cases e : p.to = node
      · have et : (p.to == node) = true := by simp [e]
        rw [if_pos e] at NT NN
        clear e
        go_wp2_with fail
        go_roundw
        case rel => exact ⟨k + 1, by go_num, by omega, by rw [NT.out, List.length_append, HTL.out]; go_num, by rw [NN.out, List.append_nil, HNL.out]; exact HACC.out, HB.out⟩
        case measure => simp [intOf]; omega
      · have et : (p.to == node) = false := by simp [e]
        rw [if_neg e] at NT NN
        clear e
        obtain ⟨pid, fr, dn, ao, cap, l⟩ := p
        simp only at d0 d1 d2 d3 et HPL
        go_wp2_with (at_builtin; refine wpList_append_own _ rfl (.tmp 29) (.tmp 37) 31 rfl w.heap.size 52 i0 (.agg #[.int .u64 0, .int .i64 0, .int .i64 0, .slice none 0 0]) 4 48 Try.underlying31 HI.out HZ0.out HZ1.out HZ2.out rfl (by omega) _ nl _ rfl (HACC.out.alloc _) ⟨wr.heap.size, 0, none⟩ 1 1 [.int .u64 (pid : Int), .int .i64 fr, .int .i64 dn, .slice ao n cap] rfl rfl (World.news_of_block (cs := #[.int .u64 (pid : Int), .int .i64 fr, .int .i64 dn, .slice ao n cap]) (t := 52) (fr := (0, 0)) (heap_alloc_new wr _)) (by simp [Value.oneCell']) (by unfold maxLen; omega) (by omega) (by simp; omega) ?_; intro v6 w5 hown5 hg5 hv5)
        have HO5 := Lib.hid hown5; have HG5 := Lib.hid hg5
        have HBASE := Lib.hid (fun g (hg : (Value.slice ac nl cc).ownBlock = some g) => (HACC.out.lt g hg).1)
        clear hown5 hg5 hv5
        go_wp2_with fail
        go_roundw
        case rel =>
          refine ⟨k + 1, by go_num, by omega, by rw [NT.out, List.append_nil, HTL.out], ?_, ?_⟩
          · rw [NN.out, List.length_append, HNL.out, fl_app, fl_one, HPL.out]; exact HO5.out
          · exact below_grown (below_alloc' HB.out hsz1 _) (by simp; omega) HG5.out HBASE.out
        case measure => simp [intOf]; omega
    · obtain rfl : k = m := by omega
      have htk : D.take k = D := by rw [← HM.out, List.take_length]
      rw [htk] at hacc HACC hlen1 hlen2 ⊢
      have f2 := HD.out.fr 2
      have hT := HTT.out
      obtain ⟨tl, htl⟩ : ∃ q, (to_ D node).length = q := ⟨_, rfl⟩
      rw [htl] at hlen1
      have HTL := Lib.hid htl
      rw [htl]
      clear hacc hbl hlen2 htl
      go_upto_region 10 with (fail)
      have hx := Lib.hid (H.out.newL HB.out HACC.out (List.filter_sublist))
      have c7 := hx.out.1.at_ 7; have f7 := hx.out.1.fr 7
      simp only [rowR, List.getElem?_toArray, List.getElem?_cons_succ, List.getElem?_cons_zero] at c7
      generalize wr.setCell ⟨nb, 2, none⟩ (.slice ac (notTo D node).length cc) = w2 at *
      have hn2 : nb < w2.heap.size := hx.out.1.lt
      have e1 : (T.lost : Int) + (tl : Int) ≤ 4611686018427387904 := by omega
      have e2 : (0 : Int) ≤ (T.lost : Int) + (tl : Int) := by omega
      go_wp2_with fail
      have h3 := hx.out.1.setTr 7 (.int .i64 ((T.lost + tl : Nat) : Int)) (T.lostK tl) rfl
      have k3 := Keep.setCell w2 ⟨nb, 7, none⟩ (.int .i64 ((T.lost + tl : Nat) : Int))
      rw [show (T.lost : Int) + (tl : Int) = ((T.lost + tl : Nat) : Int) by omega]
      go_ret
      rw [← HTL.out] at h3 k3 ⊢
      exact ⟨rfl, _, _, h3, ⟨hx.out.2.keep.trans (k3.mono (by simp)), hx.out.2.new⟩⟩
end
end Go.Proofs.Ythanjfnpohhebaa
