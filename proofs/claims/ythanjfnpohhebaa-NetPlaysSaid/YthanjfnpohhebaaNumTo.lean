/- Forget's numbers (gen_nums.py). -/
import Derived.Test.YthanjfnpohhebaaNums
namespace Go.Proofs.Ythanjfnpohhebaa
open Go.RowKit Go.Sort
set_option linter.unusedVariables false
set_option linter.unusedSimpArgs false

/-- the packets to a node -/
def to_ (S : List Pkt) (node : Int) : List Pkt := S.filter fun p => decide (p.to = node)
def toQ (S : List Pkt) (node : Int) : Nat → Bool := fun x => match look S x with
  | some p => decide (p.to = node)
  | none => false
theorem to_inc {S : List Pkt} (h : Inc S) (node : Int) : Inc (to_ S node) := h.sublist List.filter_sublist
theorem to_len (S : List Pkt) (node : Int) : (to_ S node).length ≤ S.length := List.length_filter_le _ _
theorem toQ_map (S : List Pkt) (node : Int) (h : Inc S) : (S.map (·.id)).filter (toQ S node) = (to_ S node).map (·.id) := by
  unfold to_
  rw [List.filter_map]
  congr 1
  apply List.filter_congr
  intro p hp
  simp only [Function.comp, toQ, h.look hp]
theorem to_any (nb : Nat) (node : Int) (p : Pkt) (w : World) (hc : w.cell? ⟨nb, 0, none⟩ = some (.int .i64 node)) : Calls Try.prog 37 #[agv p, .pointer (some ⟨nb, 0, none⟩)] w fun e w' => e = .returned (.bool (decide (p.to = node))) ∧ Below w.heap.size w w' := by
  have hb := below_alloc (Below.refl w.heap.size w) (.cells p.cells 52)
  have HB := Lib.hid hb
  have hn : nb < w.heap.size := World.block_lt_of_cell? w _ hc
  have h1 : (w.alloc (.cells p.cells 52)).cell? ⟨nb, 0, none⟩ = some (.int .i64 node) := (hb.cell (p := ⟨nb, 0, none⟩) hn).trans hc
  have e : (p.to == node) = decide (p.to = node) := by
    rw [Bool.eq_iff_iff]; simp
  have HE := Lib.hid e
  clear hb e hc
  obtain ⟨id, fr, tw, ao, cap, data⟩ := p
  go_enter Try.func37, Try.ntmps37
  go_wp2_with fail
  go_ret
  exact ⟨ret_bool HE.out, HB.out⟩
section
variable {B hn gm room made : Nat} {Bs : List Nat} {S : List Pkt} {T : Tr}
/-- the numbers so far -/
structure SeenF (q : Nat → Bool) (w wr : World) (r gm : Nat) (S : List Pkt) (D : DataW Value) (v : Value) (xs : List Nat) (left : Lit → Bool) (cnt : Nat) : Prop where
  own : wr.ownsRow (w.heap.size + 1) 30 1 v (xs.filter q).length ((xs.filter q).map u64v)
  rg : wr.ranges Try.prog 30 tokR gm r S.length D left cnt
  nd : xs.Nodup
  left : ∀ id, id < 18446744073709551616 → left (ky id) = ((look S id).isSome && !decide (id ∈ xs))
  mem : ∀ x ∈ xs, (look S x).isSome = true ∧ x < 18446744073709551616
  bel : Below w.heap.size w wr
  size : w.heap.size + 1 ≤ wr.heap.size
  few : xs.length + cnt ≤ S.length

theorem grown_of_below2 {w w' : World} (b : Below w.heap.size w w') : w.grownBy w' none := ⟨b.os, b.tape, b.output, b.size, fun i hi _ => b.block i hi⟩
/-- the packet that came -/
theorem SeenF.pk {q : Nat → Bool} {w wr : World} {r : Nat} {D : DataW Value} {v : Value} {xs : List Nat} {left : Lit → Bool} {cnt : Nat} (h : SeenF q w wr r gm S D v xs left cnt) (hD : ∀ id, id < 18446744073709551616 → Maps.has D (ky id) = (fmap S id).isSome ∧ ∀ v, fmap S id = some v → D.atKey (ky id) (.held zpk) = .held (.agg v))
    {x : Nat} {c : Array Value} (hx : x < 18446744073709551616) (hl : left (ky x) = true) (hat : ∀ zd, D.atKey (ky x) zd = .held (.agg c)) : ∃ p, look S x = some p ∧ c = p.cells ∧ x ∉ xs := by
  have h1 := h.left x hx
  rw [hl] at h1
  simp only [Bool.true_eq, Bool.and_eq_true, Bool.not_eq_true', decide_eq_false_iff_not] at h1
  obtain ⟨p, hp⟩ := Option.isSome_iff_exists.1 h1.1
  have h2 := (hD x hx).2 p.cells (by unfold fmap; rw [hp]; rfl)
  rw [hat] at h2
  injection h2 with h2
  injection h2 with h2
  exact ⟨p, hp, h2, h1.2⟩
/-- one more -/
theorem SeenF.more {q : Nat → Bool} {w wr w2 w5 w6 : World} {r : Nat} {D : DataW Value} {v v' : Value} {xs : List Nat} {left : Lit → Bool} {cnt cnt2 : Nat} (hr : r = w.heap.size) (hgm : gm < w.heap.size) (h : SeenF q w wr r gm S D v xs left cnt) {x : Nat} {p : Pkt} (hx : x < 18446744073709551616) (hp : look S x = some p) (hxx : x ∉ xs)
    (hrg : w2.ranges Try.prog 30 tokR gm r S.length D (fun z => left z && !z.sameKey (ky x)) cnt2) (hg2 : wr.grownBy w2 (some r)) (b5 : Below w2.heap.size w2 w5)
    (hown : w6.ownsRow (w.heap.size + 1) 30 1 v' ((xs ++ [x]).filter q).length (((xs ++ [x]).filter q).map u64v)) (hg6 : w5.grownBy w6 v.ownBlock) (hv : ∀ g, v.ownBlock = some g → w.heap.size + 1 ≤ g) (hc : cnt2 < cnt) : SeenF q w w6 r gm S D v' (xs ++ [x]) (fun z => left z && !z.sameKey (ky x)) cnt2 := by
  have s2 : w2.heap.size ≤ w5.heap.size := b5.size
  have hb2 : Below w.heap.size w w2 := ⟨hg2.os.trans h.bel.os, hg2.tape.trans h.bel.tape, hg2.output.trans h.bel.output, Nat.le_trans h.bel.size hg2.size, fun k hk => (hg2.block k (Nat.lt_of_lt_of_le hk h.bel.size) (by intro e; injection e with e; omega)).trans (h.bel.block k hk)⟩
  have hb5 : Below w.heap.size w w5 := below_next hb2 b5
  have hb6 : Below w.heap.size w w6 := ⟨hg6.os.trans hb5.os, hg6.tape.trans hb5.tape, hg6.output.trans hb5.output, Nat.le_trans hb5.size hg6.size, fun k hk => (hg6.block k (Nat.lt_of_lt_of_le hk hb5.size) (by intro e; have := hv k e.symm; omega)).trans (hb5.block k hk)⟩
  refine ⟨hown, ?_, ?_, ?_, ?_, hb6, Nat.le_trans h.size (Nat.le_trans hg2.size (Nat.le_trans s2 hg6.size)), by have := h.few; simp; omega⟩
  · refine (hrg.kept (grown_of_below2 b5) (by simp) (by simp)).kept hg6 ?_ ?_
    · intro e; have := hv gm e.symm; omega
    · intro e; have := hv r e.symm; omega
  · rw [List.nodup_append]
    exact ⟨h.nd, by simp, by intro a ha b hb e; simp at hb; subst hb; subst e; exact hxx ha⟩
  · intro id hid
    rw [h.left id hid, ky_same]
    by_cases e : id = x
    · simp [e]
    · simp [e]
  · intro y hy
    rcases List.mem_append.1 hy with hy | hy
    · exact h.mem y hy
    · simp at hy; subst hy; exact ⟨by rw [hp]; rfl, hx⟩

/-- all have been seen -/
theorem SeenF.all {q : Nat → Bool} {w wr : World} {r : Nat} {D : DataW Value} {v : Value} {xs : List Nat} {left : Lit → Bool} {cnt : Nat} (h : SeenF q w wr r gm S D v xs left cnt) (hS : Inc S) (hid : ∀ x, (look S x).isSome = true → x < 18446744073709551616) (hl : ∀ kl, left kl = false) : xs.Perm (S.map (·.id)) := by
  refine perm_of_same _ _ h.nd ?_ fun x => ?_
  · rw [List.nodup_iff_pairwise_ne, List.pairwise_map]
    exact hS.imp fun h => by omega
  · constructor
    · intro hx
      obtain ⟨p, hp⟩ := Option.isSome_iff_exists.1 (h.mem x hx).1
      obtain ⟨h1, h2⟩ := look_some hp
      exact List.mem_map.2 ⟨p, h1, h2⟩
    · intro hx
      obtain ⟨p, hp, rfl⟩ := List.mem_map.1 hx
      have hk := hS.look hp
      have h1 := h.left p.id (hid _ (by rw [hk]; rfl))
      rw [hl, hk] at h1
      simpa using h1

set_option maxRecDepth 100000 in
set_option maxHeartbeats 8000000 in
theorem numbers_to (nb : Nat) (node : Int) (w : World) (hnb : w.cell? ⟨nb, 0, none⟩ = some (.int .i64 node)) (h : NetW w B hn gm S room made T) (hmade : made < 18446744073709551616) :
    Calls Try.prog 31 #[.pointer (some ⟨hn, 0, none⟩), .func (.func 37) #[] #[.pointer (some ⟨nb, 0, none⟩)]] w fun e w' => ∃ v, e = .returned v ∧ Below w.heap.size w w' ∧ NumsIs w' (w.heap.size + 1) v ((to_ S node).map (·.id)) := by
  obtain ⟨D, hown, hsz, hD⟩ := h.map
  have NB := Lib.hid hnb
  clear hnb
  have H := Lib.hid h; have HD := Lib.hid hD
  have hrow := fun i => h.at_ i
  have c2 : w.cell? ⟨hn, 2, none⟩ = some (.map (some gm)) := by rw [hrow]; rfl
  have hlen : S.length ≤ 4096 := by have := h.few; have := h.rm; omega
  have hid : ∀ x, (look S x).isSome = true → x < 18446744073709551616 := fun x hx => by
    obtain ⟨p, hp⟩ := Option.isSome_iff_exists.1 hx
    obtain ⟨h1, h2⟩ := look_some hp
    have := (h.ids p h1).2; omega
  have HID := Lib.hid hid
  clear h hrow hid hD
  go_enter Try.func31, Try.ntmps31
  go_wp2_with (refine wpList_range_own _ rfl (.tmp 13) 60 rfl 30 52 mlaw Try.underlying60 tokR gm S.length D rfl hown ?_; intro w1 hrg hgr hs1)
  go_frame
  have gmlt := hown.lt
  have hstart : SeenF (toQ S node) w w1 w.heap.size gm S D (.slice none 0 0) [] (Maps.has D) (Maps.size D) := by
    refine ⟨World.ownsRow_nil _ _ _ _, hrg, List.nodup_nil, fun id hid => ?_, fun x hx => by simp at hx, ⟨hgr.os, hgr.tape, hgr.output, hgr.size, fun k hk => hgr.block k hk (by simp)⟩, by omega, by simp [hsz]⟩
    rw [(HD.out id hid).1]
    simp [fmap]
  have ST := Lib.hid hstart
  have HSZ := Lib.hid hsz
  obtain ⟨i0, hi, hz0, hz1, hz2⟩ : ∃ i, Try.prog.info? 30 = some i ∧ i.zero = some (.int .u64 0) ∧ i.size = 1 ∧ i.bytes = 8 := by
    have := u64_info
    cases hq : Try.prog.info? 30 with
    | none => rw [hq] at this; cases this
    | some i => rw [hq] at this; simp at this; exact ⟨i, rfl, this.1, this.2.1, this.2.2⟩
  have HI := Lib.hid hi; have HZ0 := Lib.hid hz0; have HZ1 := Lib.hid hz1; have HZ2 := Lib.hid hz2
  clear hstart hsz hrg hgr hs1 hown hi hz0 hz1 hz2 c2
  go_loopw [5, 6, 7] (fun v5 v6 v7 wr => ∃ (xs : List Nat) (left : Lit → Bool) (cnt : Nat), SeenF (toQ S node) w wr w.heap.size gm S D v5 xs left cnt) (fun v5 v6 v7 wr => wr.rangeLeft gm w.heap.size)
  case atStart => exact ⟨[], _, _, ST.out⟩
  case round =>
    clear ST
    obtain ⟨xs, left, cnt, hsn⟩ := hrel
    have SN := Lib.hid hsn; clear hsn
    go_wp2_with (refine wpList_next_pk _ rfl (.tmp 14) rfl gm w.heap.size S.length D left cnt rfl SN.out.rg (fun hc0 hl0 => ?_) (fun x c w2 cnt2 hx hlx hat hrg2 hlt hg2 hs2 hen => ?_); rotate_left; obtain ⟨p, hp, rfl, hxx⟩ := SN.out.pk HD.out hx hlx hat; rotate_left)
    · have PM0 := SN.out.all H.out.inc HID.out hl0
      have PM : (xs.filter (toQ S node)).Perm ((to_ S node).map (·.id)) := (PM0.filter _).trans (by rw [toQ_map S node H.out.inc])
      have INC := to_inc H.out.inc node
      have LEN := to_len S node
      have OWNX := SN.out.own
      obtain ⟨ys, hys⟩ : ∃ x, x = xs.filter (toQ S node) := ⟨_, rfl⟩
      rw [← hys] at PM OWNX
      have SL := sorted_ids (to_ S node) INC ys PM
      have HLN := PM.length_eq
      rw [List.length_map] at HLN
      have BEL := Lib.hid SN.out.bel
      have own := OWNX
      have SL := Lib.hid SL; have PM := Lib.hid PM
      obtain ⟨_, ⟨rfl, h0⟩ | ⟨g, cap, cur, rfl, hb, hg, hle, hmx, hcs, htk⟩⟩ := own
      · have hS0 : to_ S node = [] := List.eq_nil_of_length_eq_zero (by omega)
        have HS0 := Lib.hid hS0
        clear SN hS0 hys OWNX PM0 INC
        refine (sort_nil _).mono ?_
        rintro e w3 ⟨rfl, rfl⟩
        go_wp2_with fail
        go_ret
        exact ⟨_, rfl, BEL.out, .inl ⟨rfl, by rw [HS0.out]; rfl⟩⟩
      · have hrw : Rw wr wr g 0 ys.toArray := ⟨Keep.refl _ _, cur, hg, fun j hj => by
          have hj' : j < ys.length := by simpa using hj
          rw [Nat.zero_add, ← Array.getElem?_toList]
          have h3 := congrArg (·[j]?) htk
          simp only [List.getElem?_take, Nat.mul_one, if_pos hj', List.getElem?_map] at h3
          rw [h3, List.getElem?_eq_getElem hj']
          simp [hj']⟩
        have SO := Lib.hid (sort_any wr wr g 0 cap ys.length ys.toArray (by simp) hrw (by omega))
        have HB := Lib.hid hb; have HLE := Lib.hid hle; have HMX := Lib.hid hmx; have HLN2 := Lib.hid HLN
        clear SN hys OWNX PM0 INC hrw hb hg hle hmx hcs htk HLN
        refine SO.out.mono ?_
        rintro e w3 ⟨rfl, r3⟩
        have R3 := Lib.hid r3; clear r3
        go_wp2_with fail
        go_ret
        refine ⟨_, rfl, ?_, .inr ?_⟩
        · have k := R3.out.keep
          have b := BEL.out
          exact ⟨k.os.trans b.os, k.tape.trans b.tape, k.output.trans b.output, Nat.le_trans b.size k.size, fun q hq => (k.block q (Nat.lt_of_lt_of_le hq b.size) (by have := HB.out; simp; omega)).trans (b.block q hq)⟩
        · obtain ⟨row, hr1, hr2⟩ := R3.out.row
          obtain ⟨e1, e2⟩ := sort_list ys.toArray
          have e3 : (Sort.sort ltN ys.toArray).toList = (to_ S node).map (·.id) := by rw [e1]; exact SL.out
          refine ⟨g, cap, row, ?_, HB.out, by rw [List.length_map, ← HLN2.out]; exact HLE.out, HMX.out, hr1, fun j hj => ?_⟩
          · rw [List.length_map, ← HLN2.out]; rfl
          · have hj2 : j < (Sort.sort ltN ys.toArray).size := by rw [← Array.length_toList, e3]; exact hj
            have h5 := hr2 j hj2
            rw [Nat.zero_add] at h5
            rw [h5, ← e3]
            congr 2
            simp [List.getD, hj2]
    · have hq2 : toQ S node x = decide (p.to = node) := by unfold toQ; rw [hp]
      have hb2 : Below w.heap.size w w2 := ⟨hg2.os.trans SN.out.bel.os, hg2.tape.trans SN.out.bel.tape, hg2.output.trans SN.out.bel.output, Nat.le_trans SN.out.bel.size hg2.size, fun k hk => (hg2.block k (Nat.lt_of_lt_of_le hk SN.out.bel.size) (by intro e; injection e with e; omega)).trans (SN.out.bel.block k hk)⟩
      have hnl : nb < w.heap.size := World.block_lt_of_cell? w _ NB.out
      refine (to_any nb node p _ (((below_alloc hb2 _).cell (p := ⟨nb, 0, none⟩) hnl).trans NB.out)).mono ?_
      rintro e w4 ⟨rfl, b4⟩
      have hb24 : Below w2.heap.size w2 w4 := below_next (below_alloc (Below.refl _ _) _) b4
      have hown2 : w2.ownsRow (w.heap.size + 1) 30 1 u5 (xs.filter (toQ S node)).length ((xs.filter (toQ S node)).map u64v) := SN.out.own.kept hg2 (by
        cases hq : u5.ownBlock with
        | none => exact .inl rfl
        | some g => exact .inr (by have := (SN.out.own.lt g hq).1; intro e; injection e with e; omega))
      have hown4 : w4.ownsRow (w.heap.size + 1) 30 1 u5 (xs.filter (toQ S node)).length ((xs.filter (toQ S node)).map u64v) := hown2.kept (grown_of_below2 hb24) (by
        cases hq : u5.ownBlock with
        | none => exact .inl rfl
        | some g => exact .inr (by simp))
      have hfw := SN.out.few
      have hfl : (xs.filter (toQ S node)).length ≤ xs.length := List.length_filter_le _ _
      have hsz4 : w.heap.size + 1 ≤ w4.heap.size := by have := SN.out.size; have := hb24.size; have := hg2.size; omega
      have OLD := Lib.hid SN.out.rg
      by_cases hto : p.to = node
      · have hfe : (xs ++ [x]).filter (toQ S node) = xs.filter (toQ S node) ++ [x] := by rw [List.filter_append, List.filter_cons_of_pos (by rw [hq2]; exact decide_eq_true hto)]; rfl
        have MORE := Lib.hid (fun v' w6 (ho : w6.ownsRow (w.heap.size + 1) 30 1 v' ((xs.filter (toQ S node)).length + 1) ((xs.filter (toQ S node)).map u64v ++ [u64v x])) hg6 => SN.out.more rfl gmlt hx hp hxx hrg2 hg2 (w5 := w4.alloc (.cells #[u64v x] 30)) (v' := v') (w6 := w6) (below_alloc hb24 _) (by rw [hfe, List.length_append, List.map_append]; exact ho) hg6 (fun g hg => (SN.out.own.lt g hg).1) hlt)
        rw [decide_eq_true hto]
        clear b4 hown2 hg2 hs2 hen hrg2 hb2 hq2 hfe
        go_wp2_with (at_builtin; refine wpList_append_own _ rfl (.tmp 23) (.tmp 25) 46 rfl (w.heap.size + 1) 30 i0 (.int .u64 0) 1 8 Try.underlying46 HI.out HZ0.out HZ1.out HZ2.out rfl (by omega) _ (xs.filter (toQ S node)).length _ rfl (hown4.alloc _) ⟨w4.heap.size, 0, none⟩ 1 1 [.int .u64 (x : Int)] rfl rfl (cell_one _ _ _) (one_u64 _) (by unfold maxLen; omega) (by omega) (by simp; omega) ?_; intro v6 w5 hown5 hg5 hv5)
        have hS := MORE.out v6 w5 hown5 hg5
        clear hown5 hg5 hv5 hown4 hb24 hsz4
        go_wp2_with fail
        go_roundw
        case rel => exact ⟨xs ++ [x], _, cnt2, hS⟩
        case measure =>
          rw [hS.rg.left_eq, OLD.out.left_eq]; exact hlt
      · have hfe : (xs ++ [x]).filter (toQ S node) = xs.filter (toQ S node) := by rw [List.filter_append, List.filter_cons_of_neg (by rw [hq2]; simp [hto])]; simp
        have hS := SN.out.more rfl gmlt hx hp hxx hrg2 hg2 (w5 := w4) (v' := u5) (w6 := w4) hb24 (by rw [hfe]; exact hown4) ⟨rfl, rfl, rfl, Nat.le_refl _, fun _ _ _ => rfl⟩ (fun g hg => (SN.out.own.lt g hg).1) hlt
        have HSS := Lib.hid hS
        rw [decide_eq_false hto]
        clear b4 hown2 hg2 hs2 hen hrg2 hb2 hq2 hfe hown4 hS
        go_wp2_with fail
        go_roundw
        case rel => exact ⟨xs ++ [x], _, cnt2, HSS.out⟩
        case measure =>
          rw [HSS.out.rg.left_eq, OLD.out.left_eq]; exact hlt
end
end Go.Proofs.Ythanjfnpohhebaa
