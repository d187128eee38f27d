/- DrawsFair: the walk. -/
import Derived.Test.YthjchlcmmemapaaLawA
namespace Go.Proofs.Ythjchlcmmemapaa
open Go.RowKit Go.Sort
set_option linter.unusedVariables false

theorem below_ex (B g s : Nat) (n : Int) (hn : n ≤ 9223372036854775807) : ∃ (x y : Int) (s2 : Nat), ((1 ≤ n ∧ y = 0 ∧ 0 ≤ x ∧ x < n) ∨ (n < 1 ∧ x = 0 ∧ y = 1)) ∧
    ∀ w, Gen w B g s → Calls Try.prog 13 #[.pointer (some ⟨g, 0, none⟩), .int .i64 n] w fun e w' => e = .returned (.tuple #[.int .i64 x, .int .i64 y]) ∧ Gen w' B g s2 ∧ Keep [g] w w' := by
  by_cases h : 1 ≤ n
  · obtain ⟨m, rfl⟩ := Int.eq_ofNat_of_zero_le (show 0 ≤ n by omega)
    have hb := bel_lt s m (by omega)
    exact ⟨(bel s m : Nat), 0, nx s, .inl ⟨h, rfl, by omega, by omega⟩, fun w hg => belowN_any B g s w hg m (by omega) (by omega)⟩
  · exact ⟨0, 1, s, .inr ⟨by omega, rfl, rfl⟩, fun w hg => (belowN_no (some ⟨g, 0, none⟩) n (.inr (by omega)) w).mono fun e w' ⟨a, b⟩ => ⟨a, b ▸ hg, b ▸ Keep.refl _ _⟩⟩

theorem pick_ex (B g s : Nat) (ao : Option Addr) (n cap : Nat) (l : List Int) (hl : l.length = n) (hz : n ≤ 17592186043904) (hne : 0 < n → g ∉ blk ao) : ∃ (p z : Int) (s2 : Nat), ((z = 0 ∧ 0 ≤ p ∧ p < n ∧ 0 < bt l p.toNat) ∨ (p = 0 ∧ z = 1)) ∧
    ∀ w, Rd w ao l → Gen w B g s → Calls Try.prog 21 #[.pointer (some ⟨g, 0, none⟩), .slice ao n cap] w fun e w' => e = .returned (.tuple #[.int .i64 p, .int .i64 z]) ∧ Gen w' B g s2 ∧ Keep [g] w w' := by
  by_cases hy : (n ≤ 1000 ∧ may l n) ∧ 0 < pre l n
  · obtain ⟨⟨hn, hm⟩, hp⟩ := hy
    obtain ⟨p, hpn, p1, p2⟩ := place_ex (s := s) hp
    exact ⟨p, 0, nx s, .inl ⟨rfl, by omega, by omega, by simpa using pre_pos p1 p2⟩, fun w hr hg => pick_yes B g s ao n cap l hl hn hm hp p hpn p1 p2 w hr hg (hne (by omega))⟩
  · refine ⟨0, 1, s, .inr ⟨rfl, rfl⟩, fun w hr hg => (pick_no (some ⟨g, 0, none⟩) ao n cap l hl hz (.inr ?_) w hr).mono fun e w' ⟨a, b⟩ => ⟨a, b ▸ hg, b ▸ Keep.refl _ _⟩⟩
    by_cases h1 : n ≤ 1000 ∧ may l n
    · exact .inr (Nat.eq_zero_of_not_pos fun h => hy ⟨h1, h⟩)
    · exact .inl h1

/-- block g holds n bools -/
structure Seen (w : World) (B g n : Nat) (F : Nat → Bool) : Prop where
  base : B ≤ g
  row : ∃ row, w.heap[g]? = some (.cells row 4 (0, 0)) ∧ n ≤ row.size ∧ ∀ j, j < n → row[j]? = some (.bool (F j))
section
variable {w w' : World} {B g n : Nat} {F : Nat → Bool}
theorem Seen.lt (h : Seen w B g n F) : g < w.heap.size := by obtain ⟨row, h1, _⟩ := h.row; exact (Array.getElem?_eq_some_iff.1 h1).1
theorem Seen.cell (h : Seen w B g n F) (j : Nat) (hj : j < n) : w.cell? ⟨g, j, none⟩ = some (.bool (F j)) := by
  obtain ⟨row, h1, _, h2⟩ := h.row
  rw [cell_of_row w g j row _ (0, 0) h1]; exact h2 j hj
theorem Seen.free (h : Seen w B g n F) (j : Nat) : w.frozen? ⟨g, j, none⟩ = false := by
  obtain ⟨row, h1, _⟩ := h.row
  exact frozen_of_row w g j row _ h1
theorem Seen.set (h : Seen w B g n F) (j : Nat) (hj : j < n) : Seen (w.setCell ⟨g, j, none⟩ (.bool true)) B g n (fun x => F x || decide (x = j)) := by
  obtain ⟨row, h1, h2, h3⟩ := h.row
  refine ⟨h.base, row.setIfInBounds j (.bool true), heap_setCell_same w g j row _ _ h1, by simpa using h2, fun x hx => ?_⟩
  by_cases e : x = j
  · subst e; rw [Array.getElem?_setIfInBounds_self_of_lt (by omega)]; simp
  · rw [Array.getElem?_setIfInBounds_ne (fun h => e h.symm), h3 x hx]; simp [e]
theorem Seen.made (h : w.ownsRow B 4 1 (.slice (some ⟨g, 0, none⟩) n n) n (madeCells #[.bool false] (n * 1)).toList) : Seen w B g n (fun _ => false) := by
  rcases h.2 with ⟨h1, _⟩ | ⟨g', cap, cur, h1, hb, hg, hnc, hcm, hcs, ht⟩
  · cases h1
  · cases h1
    have hsz : n ≤ cur.size := by omega
    refine ⟨hb, cur, hg, hsz, fun j hj => ?_⟩
    have := congrArg (·[j]?) ht
    simp only [List.getElem?_take, Nat.mul_one] at this
    rw [if_pos hj] at this
    rw [← Array.getElem?_toList, this]
    simp [madeCells, Nat.mod_one, hj]
end
/-- what has come up among the first k -/
def came (L : List Int) (k x : Nat) : Bool := (List.range k).any fun i => decide (bt L i = (x : Int))
theorem came_succ (L : List Int) (k y : Nat) (h : bt L k = (y : Int)) : came L (k + 1) = fun x => came L k x || decide (x = y) := by
  funext x
  unfold came
  rw [List.range_succ, List.any_append]
  congr 1
  simp only [List.any_cons, List.any_nil, Bool.or_false, h]
  by_cases e : x = y
  · subst e; simp
  · rw [decide_eq_false e, decide_eq_false (by omega)]
theorem came_zero (L : List Int) : came L 0 = fun _ => false := rfl
theorem came_no {n : Nat} {L : List Int} (h : Perm n L) {k y : Nat} (hk : k < n) (hy : bt L k = (y : Int)) : came L k y = false := by
  unfold came
  rw [List.any_eq_false]
  intro i hi
  simp at hi
  simp only [decide_eq_true_eq]
  intro e
  have := h.inj i k (by omega) hk (by rw [e, hy])
  omega
theorem bool_info : (Try.prog.info? 4).map (fun i => (i.zero, i.size, i.bytes)) = some (some (.bool false), 1, 1) := by kernel_rfl

set_option maxRecDepth 10000 in
set_option maxHeartbeats 16000000 in
theorem fair_walk (s : Nat) (hs : s < 18446744073709551616) (n : Int) (hn0 : -9223372036854775808 ≤ n) (hn9 : n ≤ 9223372036854775807) (ao : Option Addr) (m cap : Nat) (l : List Int) (hl : l.length = m) (hc : m ≤ cap) (hm : cap ≤ maxLen) (hz : m ≤ 17592186043904) (W : World) (hr : Rd W ao l) :
    Calls Try.prog 5 #[.int .u64 (s : Int), .int .i64 n, .slice ao m cap] W (LawOk W) := by
  have hnao : 0 < m → ∀ q, W.heap.size ≤ q → q ∉ blk ao := fun h0 q hq h => by
    obtain ⟨g, o, rfl, hg, _⟩ := hr.at_ 0 (by omega)
    simp [blk] at h; omega
  have NE := Lib.hid (fun w hw => newG W.heap.size s w hw hs)
  have BX := Lib.hid (fun g s => below_ex W.heap.size g s n hn9)
  have PX := Lib.hid (fun g s h => pick_ex W.heap.size g s ao m cap l hl hz h)
  have HR := Lib.hid hr; have HL := Lib.hid hl; have HN := Lib.hid hnao
  clear hr hl hnao
  by_cases hok : 0 ≤ n ∧ n ≤ 1000
  · obtain ⟨n, rfl⟩ := Int.eq_ofNat_of_zero_le hok.1
    have hn : n ≤ 1000 := by omega
    have OX := Lib.hid (fun g w h => order_yes W.heap.size g s n hn w h)
    have hP := ordF_perm s n
    obtain ⟨F, hF⟩ : ∃ F, ordF s n = F := ⟨_, rfl⟩
    rw [hF] at OX hP
    have HP := Lib.hid hP
    clear hF hP
    obtain ⟨i0, hi, hz0, hz1, hz2⟩ := info_parts bool_info
    go_enter Try.func5, Try.ntmps5
    go_wp2_with fail
    refine (awake_any _).mono ?_; rintro e w1 ⟨rfl, b1⟩
    have B1 := Lib.hid b1; have hs1 := b1.size; clear b1
    go_wp2_with fail
    refine (NE.out w1 hs1).mono ?_; rintro e w2 ⟨g, rfl, hg1, h1, b2⟩
    have hs2 := b2.size; have hl1 := h1.lt; have hgW := h1.base
    have H1 := Lib.hid h1; have B2 := Lib.hid (B1.out.trans (b2.mono hs1)); clear h1 b2 B1
    go_wp2_with fail
    refine (OX.out g w2 H1.out).mono ?_; rintro e w3 ⟨bo, c3, rfl, ho, h3, k3⟩
    have hs3 := k3.size
    have hlen := ho.len
    have HO := Lib.hid ho; have H3 := Lib.hid h3; have B3 := Lib.hid (B2.out.trans (k3.below (by omega) (by simpa using hgW)))
    clear ho h3 k3 H1 B2
    go_wp2_with (at_make; refine wpList_make_full _ rfl _ _ 46 rfl w3.heap.size 4 i0 (.bool false) 1 Try.underlying46 hi hz0 hz1 .i64 .i64 _ _ n rfl rfl (by omega) (by omega) (by rw [hz2]; omega) (by unfold maxLen; omega) (Nat.le_refl _) ?_; intro w4 hown4 hgrow4)
    have hsn := Seen.made hown4
    have b4 := (Below.refl w3.heap.size w3).grown hgrow4 (Nat.le_refl _) (by intro k hk; cases hk)
    have hs4 := b4.size
    have HO4 := Lib.hid (HO.out.below b4); have H4 := Lib.hid (H3.out.below b4); have B4 := Lib.hid (B3.out.trans (b4.mono (by omega))); have HS4 := Lib.hid hsn
    have hbo : ∀ q ∈ blk bo, q < w3.heap.size := fun q hq => (HO.out.lt_size q hq).2
    have HBO := Lib.hid hbo
    clear hown4 hgrow4 hsn b4 hi hz0 hz1 hz2 HO H3 B3 hbo
    go_loopw [12] (fun i wr => ∃ k : Nat, k ≤ n ∧ i = .int .i64 (k : Int) ∧ Seen wr w3.heap.size w3.heap.size n (came F.2 k) ∧ Keep [w3.heap.size] w4 wr) (fun i _ => n - (intOf i).toNat)
    case atStart => exact ⟨0, by omega, rfl, by rw [came_zero]; exact HS4.out, Keep.refl _ _⟩
    case round =>
      obtain ⟨k, hk, rfl, hsn, hkp⟩ := hrel
      have hsz := hkp.size
      have HS := Lib.hid hsn; have HK := Lib.hid hkp
      clear hsn hkp
      by_cases hlt : k < n
      · have ho := HO4.out.keep HK.out (fun q hq hm => by rw [List.mem_singleton] at hm; subst hm; have := HBO.out _ hq; omega)
        obtain ⟨gl, ol, rfl, hgl, hgls, hcl, _⟩ := ho.at_ k hlt
        obtain ⟨y0, y1⟩ := HP.out.lo k hlt
        obtain ⟨y, hy⟩ : ∃ y : Nat, bt F.2 k = (y : Int) := ⟨(bt F.2 k).toNat, by omega⟩
        have hno := came_no HP.out hlt hy
        have hcs := HS.out.cell y (by omega)
        have hfs := HS.out.free y
        rw [hno] at hcs
        have hS2 := HS.out.set y (by omega)
        rw [← came_succ F.2 k y hy] at hS2
        have HS2 := Lib.hid hS2
        have HK2 := Lib.hid (HK.out.trans (Keep.setCell _ ⟨w3.heap.size, y, none⟩ (.bool true)))
        rw [hy] at hcl y0 y1
        clear ho hy hno hS2 HS HK
        have i1 : (y : Int) < (n : Int) := by omega
        have i2 : (k : Int) < (n : Int) := by omega
        go_wp2_with fail
        go_roundw
        case rel => exact ⟨k + 1, by omega, by go_num, HS2.out, HK2.out⟩
        case measure => simp [intOf]; omega
      · have HBx := Lib.hid (B4.out.trans (HK.out.below (by omega) (by simp; omega)))
        have HGx := Lib.hid (H4.out.keep HK.out (by simp; omega))
        obtain ⟨x, yy, s2, hbe, be⟩ := BX.out g F.1
        obtain ⟨p, z, s3, hpi, pi⟩ := PX.out g s2 (fun h0 => HN.out h0 g hgW)
        have BE := Lib.hid be; have PI := Lib.hid pi
        clear be pi HS HK HO4 H4 B4 HS4
        go_wp2_with fail
        refine (BE.out _ HGx.out).mono ?_; rintro e w8 ⟨rfl, h8, k8⟩
        have hs8 := k8.size
        have hbb8 := HBx.out.trans (k8.below (by omega) (by simpa using hgW))
        have B8 := Lib.hid hbb8; have HR8 := Lib.hid (HR.out.below hbb8); clear hbb8
        have H8 := Lib.hid h8; clear h8 k8
        go_wp2_with fail
        refine (PI.out _ HR8.out H8.out).mono ?_; rintro e w9 ⟨rfl, h9, k9⟩
        have hs9 := k9.size
        have hbb9 := B8.out.trans (k9.below (by omega) (by simpa using hgW))
        have B9 := Lib.hid hbb9; have HR9 := Lib.hid (HR.out.below hbb9); clear hbb9
        clear h9 k9
        rcases hbe with ⟨hn1, rfl, hx0, hx1⟩ | ⟨hn1, rfl, rfl⟩ <;> rcases hpi with ⟨rfl, hp0, hp1⟩ | ⟨rfl, rfl⟩
        · obtain ⟨p, rfl⟩ := Int.eq_ofNat_of_zero_le hp0
          obtain ⟨gp, op, rfl, hgp, hcp⟩ := HR9.out.at_ p (by rw [HL.out]; omega)
          have hpp := hp1.2
          simp only [Int.toNat_natCast] at hpp
          have hpm := hp1.1
          obtain ⟨y, hy⟩ : ∃ y : Int, bt l p = y := ⟨_, rfl⟩
          rw [hy] at hcp hpp
          clear hy
          go_wp2_with fail
          go_ret
          exact ⟨ret_bool (by simp <;> omega), B9.out⟩
        · go_wp2_with fail
          go_ret
          exact ⟨ret_bool (by simp <;> omega), B9.out⟩
        · obtain ⟨p, rfl⟩ := Int.eq_ofNat_of_zero_le hp0
          obtain ⟨gp, op, rfl, hgp, hcp⟩ := HR9.out.at_ p (by rw [HL.out]; omega)
          have hpp := hp1.2
          simp only [Int.toNat_natCast] at hpp
          have hpm := hp1.1
          obtain ⟨y, hy⟩ : ∃ y : Int, bt l p = y := ⟨_, rfl⟩
          rw [hy] at hcp hpp
          clear hy
          go_wp2_with fail
          go_ret
          exact ⟨ret_bool (by simp <;> omega), B9.out⟩
        · go_wp2_with fail
          go_ret
          exact ⟨ret_bool (by simp <;> omega), B9.out⟩
  · have OX := Lib.hid (fun g w => order_no (some ⟨g, 0, none⟩) n (.inr (by omega)) w)
    go_enter Try.func5, Try.ntmps5
    go_wp2_with fail
    refine (awake_any _).mono ?_; rintro e w1 ⟨rfl, b1⟩
    have B1 := Lib.hid b1; have hs1 := b1.size; clear b1
    go_wp2_with fail
    refine (NE.out w1 hs1).mono ?_; rintro e w2 ⟨g, rfl, hg1, h1, b2⟩
    have hs2 := b2.size; have hl1 := h1.lt; have hgW := h1.base
    have HGx := Lib.hid h1; have HBx := Lib.hid (B1.out.trans (b2.mono hs1)); clear h1 b2 B1
    go_wp2_with fail
    refine (OX.out g w2).mono ?_; rintro e w3 ⟨rfl, rfl⟩
    obtain ⟨x, yy, s2, hbe, be⟩ := BX.out g s
    obtain ⟨p, z, s3, hpi, pi⟩ := PX.out g s2 (fun h0 => HN.out h0 g hgW)
    have BE := Lib.hid be; have PI := Lib.hid pi
    clear be pi
    have hout : n < 0 ∨ 1000 < n := by omega
    rcases hout with hout | hout
    · go_wp2_with fail
      refine (BE.out _ HGx.out).mono ?_; rintro e w8 ⟨rfl, h8, k8⟩
      have hs8 := k8.size
      have hbb8 := HBx.out.trans (k8.below (by omega) (by simpa using hgW))
      have B8 := Lib.hid hbb8; have HR8 := Lib.hid (HR.out.below hbb8); clear hbb8
      have H8 := Lib.hid h8; clear h8 k8
      go_wp2_with fail
      refine (PI.out _ HR8.out H8.out).mono ?_; rintro e w9 ⟨rfl, h9, k9⟩
      have hs9 := k9.size
      have hbb9 := B8.out.trans (k9.below (by omega) (by simpa using hgW))
      have B9 := Lib.hid hbb9; have HR9 := Lib.hid (HR.out.below hbb9); clear hbb9
      clear h9 k9
      rcases hbe with ⟨hn1, rfl, hx0, hx1⟩ | ⟨hn1, rfl, rfl⟩ <;> rcases hpi with ⟨rfl, hp0, hp1⟩ | ⟨rfl, rfl⟩
      · exact absurd hn1 (by omega)
      · exact absurd hn1 (by omega)
      · obtain ⟨p, rfl⟩ := Int.eq_ofNat_of_zero_le hp0
        obtain ⟨gp, op, rfl, hgp, hcp⟩ := HR9.out.at_ p (by rw [HL.out]; omega)
        have hpp := hp1.2
        simp only [Int.toNat_natCast] at hpp
        have hpm := hp1.1
        obtain ⟨y, hy⟩ : ∃ y : Int, bt l p = y := ⟨_, rfl⟩
        rw [hy] at hcp hpp
        clear hy
        go_wp2_with fail
        go_ret
        exact ⟨ret_bool (by simp <;> omega), B9.out⟩
      · go_wp2_with fail
        go_ret
        exact ⟨ret_bool (by simp <;> omega), B9.out⟩
    · go_wp2_with fail
      refine (BE.out _ HGx.out).mono ?_; rintro e w8 ⟨rfl, h8, k8⟩
      have hs8 := k8.size
      have hbb8 := HBx.out.trans (k8.below (by omega) (by simpa using hgW))
      have B8 := Lib.hid hbb8; have HR8 := Lib.hid (HR.out.below hbb8); clear hbb8
      have H8 := Lib.hid h8; clear h8 k8
      go_wp2_with fail
      refine (PI.out _ HR8.out H8.out).mono ?_; rintro e w9 ⟨rfl, h9, k9⟩
      have hs9 := k9.size
      have hbb9 := B8.out.trans (k9.below (by omega) (by simpa using hgW))
      have B9 := Lib.hid hbb9; have HR9 := Lib.hid (HR.out.below hbb9); clear hbb9
      clear h9 k9
      rcases hbe with ⟨hn1, rfl, hx0, hx1⟩ | ⟨hn1, rfl, rfl⟩ <;> rcases hpi with ⟨rfl, hp0, hp1⟩ | ⟨rfl, rfl⟩
      · obtain ⟨p, rfl⟩ := Int.eq_ofNat_of_zero_le hp0
        obtain ⟨gp, op, rfl, hgp, hcp⟩ := HR9.out.at_ p (by rw [HL.out]; omega)
        have hpp := hp1.2
        simp only [Int.toNat_natCast] at hpp
        have hpm := hp1.1
        obtain ⟨y, hy⟩ : ∃ y : Int, bt l p = y := ⟨_, rfl⟩
        rw [hy] at hcp hpp
        clear hy
        go_wp2_with fail
        go_ret
        exact ⟨ret_bool (by simp <;> omega), B9.out⟩
      · go_wp2_with fail
        go_ret
        exact ⟨ret_bool (by simp <;> omega), B9.out⟩
      · exact absurd hn1 (by omega)
      · exact absurd hn1 (by omega)

theorem drawsFair_law (s : Int) (ws : (Lit.int .u64 s).wf = true) (n : Int) (wn : (Lit.int .i64 n).wf = true) (ao : Option Addr) (m cap : Nat) (l : List Int) (hl : l.length = m) (hc : m ≤ cap) (hm : cap ≤ maxLen) (hz : m ≤ 17592186043904) (W : World) (hr : Rd W ao l) :
    Calls Try.prog 5 #[.int .u64 s, .int .i64 n, .slice ao m cap] W (LawOk W) := by
  have bs := bounds_u64 ws; have bn := bounds_i64 wn
  obtain ⟨x, rfl⟩ := Int.eq_ofNat_of_zero_le bs.1
  exact fair_walk x (by omega) n bn.1 bn.2 ao m cap l hl hc hm hz W hr
end Go.Proofs.Ythjchlcmmemapaa
