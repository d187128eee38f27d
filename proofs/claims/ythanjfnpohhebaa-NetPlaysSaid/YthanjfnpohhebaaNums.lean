/- List: the numbers in a net, in order. -/
import Derived.Test.YthanjfnpohhebaaSort
import Derived.Test.YthanjfnpohhebaaMeth4
namespace Go.Proofs.Ythanjfnpohhebaa
open Go.RowKit Go.Sort
set_option linter.unusedVariables false
set_option linter.unusedSimpArgs false

theorem u64_info : (Try.prog.info? 30).map (fun i => (i.zero, i.size, i.bytes)) = some (some (.int .u64 0), 1, 8) := by kernel_rfl
theorem all_any (cs : Array Value) (w : World) : Calls Try.prog 32 #[.agg cs] w fun e w' => e = .returned (.bool true) ∧ Below w.heap.size w w' := by
  have hb := below_alloc (Below.refl w.heap.size w) (.cells cs 52)
  have HB := Lib.hid hb; clear hb
  go_enter Try.func32, Try.ntmps32
  go_wp2_with fail
  go_ret
  exact ⟨rfl, HB.out⟩
/-- a step of the range over the packets -/
theorem wpList_next_pk (w : World) {ops : Array Oper} {rest : List Oper} {o : Oper} {a : Act} {Q : Exit → Act → World → Prop} (hg : o.guard = none) (it : Operand) (hop : o.op = Op.next it false)
    (b r n : Nat) (D : DataW Value) (left : Lit → Bool) (cnt : Nat) (hit : a.eval it = .pointer (some ⟨r, 0, none⟩)) (h : w.ranges Try.prog 30 tokR b r n D left cnt)
    (hDone : cnt = 0 → (∀ kl, left kl = false) → wpList Try.prog ops Q rest (a.put o.dst (.tuple #[.bool false])) w)
    (hMore : ∀ (x : Nat) (c : Array Value) (w' : World) (cnt' : Nat), x < 18446744073709551616 → left (ky x) = true → (∀ zd, D.atKey (ky x) zd = .held (.agg c)) → w'.ranges Try.prog 30 tokR b r n D (fun z => left z && !z.sameKey (ky x)) cnt' → cnt' < cnt →
      w.grownBy w' (some r) → w'.heap.size = w.heap.size → (Instr.entry (.pointer (some ⟨r, 0, none⟩))).run Try.prog w' = .ok (.tuple #[.int .u64 (x : Int), .agg c]) w' → wpList Try.prog ops Q rest (a.put o.dst (.tuple #[.bool true, .int .u64 (x : Int), .agg c])) w') :
    wpList Try.prog ops Q (o :: rest) a w :=
  wpList_next_ranges w hg it hop 30 mlaw tokR (Value.int .u64) Value.agg (fun key kl hkey => by obtain ⟨x, rfl, _⟩ := Maps.keyOf_int_inv Try.underlying30 hkey; exact ⟨x, rfl⟩) (fun v y hv => by obtain ⟨_, c, rfl⟩ := tokR_inv hv; exact ⟨c, rfl⟩)
    b r n D left cnt hit h hDone (fun x c kl y w' cnt' hkey hlk hv hat hrg hlt hgr hsz hen => by
      obtain ⟨x', ex, rfl, hwx⟩ := Maps.keyOf_int_inv Try.underlying30 hkey
      cases ex
      obtain ⟨e1, _⟩ := tokR_inv hv
      have hb := bounds_u64 hwx
      obtain ⟨x, rfl⟩ : ∃ k : Nat, x = (k : Int) := ⟨x.toNat, by omega⟩
      exact hMore x c w' cnt' (by omega) hlk (fun zd => by rw [hat zd, e1]) hrg hlt hgr hsz hen)
theorem one_u64 (x : Int) : ∀ u ∈ [Value.int .u64 x], u.oneCell' = true := by intro u hu; simp at hu; subst hu; rfl
theorem cell_one (w : World) (x : Value) (t : TypeId) : ∀ (j : Nat) (u : Value), [x][j]? = some u → (w.alloc (.cells #[x] t)).cell? ((⟨w.heap.size, 0, none⟩ : Addr).add j) = some u := by
  intro j u hu
  have hj := (List.getElem?_eq_some_iff.1 hu).1
  obtain rfl : j = 0 := by simp at hj; omega
  simp at hu; subst hu
  show World.cell? _ ⟨w.heap.size, 0, none⟩ = _
  rw [World.cell?_alloc_at _ _ _ _ rfl]; rfl
theorem ky_same (a b : Nat) : (ky a).sameKey (ky b) = decide (a = b) := by
  simp [ky, Lit.sameKey]; omega

section
variable {B hn gm room made : Nat} {Bs : List Nat} {S : List Pkt} {T : Tr}
/-- the numbers so far -/
structure Seen (w wr : World) (r gm : Nat) (S : List Pkt) (D : DataW Value) (v : Value) (xs : List Nat) (left : Lit → Bool) (cnt : Nat) : Prop where
  own : wr.ownsRow (w.heap.size + 1) 30 1 v xs.length (xs.map u64v)
  rg : wr.ranges Try.prog 30 tokR gm r S.length D left cnt
  nd : xs.Nodup
  left : ∀ id, id < 18446744073709551616 → left (ky id) = ((look S id).isSome && !decide (id ∈ xs))
  mem : ∀ x ∈ xs, (look S x).isSome = true ∧ x < 18446744073709551616
  bel : Below w.heap.size w wr
  size : w.heap.size + 1 ≤ wr.heap.size
  few : xs.length + cnt ≤ S.length

theorem grown_of_below {w w' : World} (b : Below w.heap.size w w') : w.grownBy w' none := ⟨b.os, b.tape, b.output, b.size, fun i hi _ => b.block i hi⟩
/-- the packet that came -/
theorem Seen.pk {w wr : World} {r : Nat} {D : DataW Value} {v : Value} {xs : List Nat} {left : Lit → Bool} {cnt : Nat} (h : Seen w wr r gm S D v xs left cnt) (hD : ∀ id, id < 18446744073709551616 → Maps.has D (ky id) = (fmap S id).isSome ∧ ∀ v, fmap S id = some v → D.atKey (ky id) (.held zpk) = .held (.agg v))
    {x : Nat} {c : Array Value} (hx : x < 18446744073709551616) (hl : left (ky x) = true) (hat : ∀ zd, D.atKey (ky x) zd = .held (.agg c)) : ∃ p, look S x = some p ∧ c = p.cells ∧ x ∉ xs := by
  have h1 := h.left x hx
  rw [hl] at h1
  simp only [Bool.true_eq, Bool.and_eq_true, Bool.not_eq_true', decide_eq_false_iff_not] at h1
  obtain ⟨p, hp⟩ := Option.isSome_iff_exists.1 h1.1
  have h2 := (hD x hx).2 p.cells (by unfold fmap; rw [hp]; rfl)
  rw [hat] at h2
  injection h2 with h2
  injection h2 with h2
  exact ⟨p, hp, h2, h1.2⟩
/-- one more -/
theorem Seen.more {w wr w2 w5 w6 : World} {r : Nat} {D : DataW Value} {v v' : Value} {xs : List Nat} {left : Lit → Bool} {cnt cnt2 : Nat} (hr : r = w.heap.size) (hgm : gm < w.heap.size) (h : Seen w wr r gm S D v xs left cnt) {x : Nat} {p : Pkt} (hx : x < 18446744073709551616) (hp : look S x = some p) (hxx : x ∉ xs)
    (hrg : w2.ranges Try.prog 30 tokR gm r S.length D (fun z => left z && !z.sameKey (ky x)) cnt2) (hg2 : wr.grownBy w2 (some r)) (b5 : Below w2.heap.size w2 w5)
    (hown : w6.ownsRow (w.heap.size + 1) 30 1 v' (xs.length + 1) (xs.map u64v ++ [u64v x])) (hg6 : w5.grownBy w6 v.ownBlock) (hv : ∀ g, v.ownBlock = some g → w.heap.size + 1 ≤ g) (hc : cnt2 < cnt) : Seen w w6 r gm S D v' (xs ++ [x]) (fun z => left z && !z.sameKey (ky x)) cnt2 := by
  have s2 : w2.heap.size ≤ w5.heap.size := b5.size
  have hb2 : Below w.heap.size w w2 := ⟨hg2.os.trans h.bel.os, hg2.tape.trans h.bel.tape, hg2.output.trans h.bel.output, Nat.le_trans h.bel.size hg2.size, fun k hk => (hg2.block k (Nat.lt_of_lt_of_le hk h.bel.size) (by intro e; injection e with e; omega)).trans (h.bel.block k hk)⟩
  have hb5 : Below w.heap.size w w5 := below_next hb2 b5
  have hb6 : Below w.heap.size w w6 := ⟨hg6.os.trans hb5.os, hg6.tape.trans hb5.tape, hg6.output.trans hb5.output, Nat.le_trans hb5.size hg6.size, fun k hk => (hg6.block k (Nat.lt_of_lt_of_le hk hb5.size) (by intro e; have := hv k e.symm; omega)).trans (hb5.block k hk)⟩
  refine ⟨by rw [List.length_append, List.map_append]; exact hown, ?_, ?_, ?_, ?_, hb6, Nat.le_trans h.size (Nat.le_trans hg2.size (Nat.le_trans s2 hg6.size)), by have := h.few; simp; omega⟩
  · refine (hrg.kept (grown_of_below b5) (by simp) (by simp)).kept hg6 ?_ ?_
    · intro e; have := hv gm e.symm; omega
    · intro e; have := hv r e.symm; omega
  · rw [List.nodup_append]
    exact ⟨h.nd, by simp, by intro a ha b hb e; simp at hb; subst hb; subst e; exact hxx ha⟩
  · intro id hid
    rw [h.left id hid, ky_same]
    by_cases e : id = x
    · simp [e]
    · simp [e]
  · intro y hy
    rcases List.mem_append.1 hy with hy | hy
    · exact h.mem y hy
    · simp at hy; subst hy; exact ⟨by rw [hp]; rfl, hx⟩

/-- a slice of numbers of the call's own -/
def NumsIs (w : World) (B : Nat) (v : Value) (ids : List Nat) : Prop :=
  (v = .slice none 0 0 ∧ ids = []) ∨ ∃ g cap row, v = .slice (some ⟨g, 0, none⟩) ids.length cap ∧ B ≤ g ∧ ids.length ≤ cap ∧ cap ≤ maxLen ∧ w.heap[g]? = some (.cells row 30 (0, 0)) ∧ ∀ j, j < ids.length → row[j]? = some (u64v (ids.getD j 0))
theorem perm_of_same : ∀ (l m : List Nat), l.Nodup → m.Nodup → (∀ x, x ∈ l ↔ x ∈ m) → l.Perm m := by
  intro l
  induction l with
  | nil =>
    intro m _ _ h
    cases m with
    | nil => exact List.Perm.refl _
    | cons y r => have := (h y).2 (by simp); cases this
  | cons x l ih =>
    intro m hl hm h
    have hx : x ∈ m := (h x).1 (by simp)
    obtain ⟨hl1, hl2⟩ := List.nodup_cons.1 hl
    have hm2 : (m.erase x).Nodup := hm.erase x
    refine ((ih (m.erase x) hl2 hm2 fun y => ?_).cons x).trans (List.perm_cons_erase hx).symm
    rw [hm.mem_erase_iff]
    constructor
    · intro hy
      exact ⟨fun e => hl1 (e ▸ hy), (h y).1 (by simp [hy])⟩
    · intro ⟨h1, h2⟩
      rcases List.mem_cons.1 ((h y).2 h2) with e | e
      · exact absurd e h1
      · exact e
theorem sorted_ids (S : List Pkt) (hS : Inc S) (xs : List Nat) (hp : xs.Perm (S.map (·.id))) : xs.mergeSort (fun x y => !ltN y x) = S.map (·.id) := by
  refine List.Perm.eq_of_pairwise (le := fun x y => (!ltN y x) = true) ?_ ?_ ?_ ((List.mergeSort_perm _ _).trans hp)
  · intro a b _ _ h1 h2
    simp [ltN] at h1 h2; omega
  · refine List.pairwise_mergeSort ?_ ?_ _
    · intro a b c h1 h2
      simp [ltN] at h1 h2 ⊢; omega
    · intro a b
      simp [ltN]; omega
  · rw [List.pairwise_map]
    exact hS.imp fun h => by simp [ltN]; omega
/-- all have been seen -/
theorem Seen.all {w wr : World} {r : Nat} {D : DataW Value} {v : Value} {xs : List Nat} {left : Lit → Bool} {cnt : Nat} (h : Seen w wr r gm S D v xs left cnt) (hS : Inc S) (hid : ∀ x, (look S x).isSome = true → x < 18446744073709551616) (hl : ∀ kl, left kl = false) : xs.Perm (S.map (·.id)) := by
  refine perm_of_same _ _ h.nd ?_ fun x => ?_
  · rw [List.nodup_iff_pairwise_ne, List.pairwise_map]
    exact hS.imp fun h => by omega
  · constructor
    · intro hx
      obtain ⟨p, hp⟩ := Option.isSome_iff_exists.1 (h.mem x hx).1
      obtain ⟨h1, h2⟩ := look_some hp
      exact List.mem_map.2 ⟨p, h1, h2⟩
    · intro hx
      obtain ⟨p, hp, rfl⟩ := List.mem_map.1 hx
      have hk := hS.look hp
      have h1 := h.left p.id (hid _ (by rw [hk]; rfl))
      rw [hl, hk] at h1
      simpa using h1

set_option maxRecDepth 100000 in
set_option maxHeartbeats 8000000 in
theorem numbers_all (w : World) (h : NetW w B hn gm S room made T) (hmade : made < 18446744073709551616) :
    Calls Try.prog 31 #[.pointer (some ⟨hn, 0, none⟩), .func (.func 32) #[] #[]] w fun e w' => ∃ v, e = .returned v ∧ Below w.heap.size w w' ∧ NumsIs w' (w.heap.size + 1) v (S.map (·.id)) := by
  obtain ⟨D, hown, hsz, hD⟩ := h.map
  have H := Lib.hid h; have HD := Lib.hid hD
  have hrow := fun i => h.at_ i
  have c2 : w.cell? ⟨hn, 2, none⟩ = some (.map (some gm)) := by rw [hrow]; rfl
  have hlen : S.length ≤ 4096 := by have := h.few; have := h.rm; omega
  have hid : ∀ x, (look S x).isSome = true → x < 18446744073709551616 := fun x hx => by
    obtain ⟨p, hp⟩ := Option.isSome_iff_exists.1 hx
    obtain ⟨h1, h2⟩ := look_some hp
    have := (h.ids p h1).2; omega
  have HID := Lib.hid hid
  clear h hrow hid hD
  go_enter Try.func31, Try.ntmps31
  go_wp2_with (refine wpList_range_own _ rfl (.tmp 13) 60 rfl 30 52 mlaw Try.underlying60 tokR gm S.length D rfl hown ?_; intro w1 hrg hgr hs1)
  go_frame
  have gmlt := hown.lt
  have hstart : Seen w w1 w.heap.size gm S D (.slice none 0 0) [] (Maps.has D) (Maps.size D) := by
    refine ⟨World.ownsRow_nil _ _ _ _, hrg, List.nodup_nil, fun id hid => ?_, fun x hx => by simp at hx, ⟨hgr.os, hgr.tape, hgr.output, hgr.size, fun k hk => hgr.block k hk (by simp)⟩, by omega, by simp [hsz]⟩
    rw [(HD.out id hid).1]
    simp [fmap]
  have ST := Lib.hid hstart
  have HSZ := Lib.hid hsz
  obtain ⟨i0, hi, hz0, hz1, hz2⟩ : ∃ i, Try.prog.info? 30 = some i ∧ i.zero = some (.int .u64 0) ∧ i.size = 1 ∧ i.bytes = 8 := by
    have := u64_info
    cases hq : Try.prog.info? 30 with
    | none => rw [hq] at this; cases this
    | some i => rw [hq] at this; simp at this; exact ⟨i, rfl, this.1, this.2.1, this.2.2⟩
  have HI := Lib.hid hi; have HZ0 := Lib.hid hz0; have HZ1 := Lib.hid hz1; have HZ2 := Lib.hid hz2
  clear hstart hsz hrg hgr hs1 hown hi hz0 hz1 hz2 c2
  go_loopw [5, 6, 7] (fun v5 v6 v7 wr => ∃ (xs : List Nat) (left : Lit → Bool) (cnt : Nat), Seen w wr w.heap.size gm S D v5 xs left cnt) (fun v5 v6 v7 wr => wr.rangeLeft gm w.heap.size)
  case atStart => exact ⟨[], _, _, ST.out⟩
  case round =>
    clear ST
    obtain ⟨xs, left, cnt, hsn⟩ := hrel
    have SN := Lib.hid hsn; clear hsn
    go_wp2_with (refine wpList_next_pk _ rfl (.tmp 14) rfl gm w.heap.size S.length D left cnt rfl SN.out.rg (fun hc0 hl0 => ?_) (fun x c w2 cnt2 hx hlx hat hrg2 hlt hg2 hs2 hen => ?_); rotate_left; obtain ⟨p, hp, rfl, hxx⟩ := SN.out.pk HD.out hx hlx hat; rotate_left)
    · have PM := SN.out.all H.out.inc HID.out hl0
      have SL := sorted_ids S H.out.inc xs PM
      have HLN := PM.length_eq
      rw [List.length_map] at HLN
      have BEL := Lib.hid SN.out.bel
      have own := SN.out.own
      have SL := Lib.hid SL; have PM := Lib.hid PM
      obtain ⟨_, ⟨rfl, h0⟩ | ⟨g, cap, cur, rfl, hb, hg, hle, hmx, hcs, htk⟩⟩ := own
      · have hS0 : S = [] := List.eq_nil_of_length_eq_zero (by omega)
        have HS0 := Lib.hid hS0
        clear SN hS0
        refine (sort_nil _).mono ?_
        rintro e w3 ⟨rfl, rfl⟩
        go_wp2_with fail
        go_ret
        exact ⟨_, rfl, BEL.out, .inl ⟨rfl, by rw [HS0.out]; rfl⟩⟩
      · have hrw : Rw wr wr g 0 xs.toArray := ⟨Keep.refl _ _, cur, hg, fun j hj => by
          have hj' : j < xs.length := by simpa using hj
          rw [Nat.zero_add, ← Array.getElem?_toList]
          have h3 := congrArg (·[j]?) htk
          simp only [List.getElem?_take, Nat.mul_one, if_pos hj', List.getElem?_map] at h3
          rw [h3, List.getElem?_eq_getElem hj']
          simp [hj']⟩
        have SO := Lib.hid (sort_any wr wr g 0 cap xs.length xs.toArray (by simp) hrw (by omega))
        have HB := Lib.hid hb; have HLE := Lib.hid hle; have HMX := Lib.hid hmx; have HLN2 := Lib.hid HLN
        clear SN hrw hb hg hle hmx hcs htk HLN
        refine SO.out.mono ?_
        rintro e w3 ⟨rfl, r3⟩
        have R3 := Lib.hid r3; clear r3
        go_wp2_with fail
        go_ret
        refine ⟨_, rfl, ?_, .inr ?_⟩
        · have k := R3.out.keep
          have b := BEL.out
          exact ⟨k.os.trans b.os, k.tape.trans b.tape, k.output.trans b.output, Nat.le_trans b.size k.size, fun q hq => (k.block q (Nat.lt_of_lt_of_le hq b.size) (by have := HB.out; simp; omega)).trans (b.block q hq)⟩
        · obtain ⟨row, hr1, hr2⟩ := R3.out.row
          obtain ⟨e1, e2⟩ := sort_list xs.toArray
          have e3 : (Sort.sort ltN xs.toArray).toList = S.map (·.id) := by rw [e1]; exact SL.out
          refine ⟨g, cap, row, ?_, HB.out, by rw [List.length_map, ← HLN2.out]; exact HLE.out, HMX.out, hr1, fun j hj => ?_⟩
          · rw [List.length_map, ← HLN2.out]; rfl
          · have hj2 : j < (Sort.sort ltN xs.toArray).size := by rw [← Array.length_toList, e3]; exact hj
            have h5 := hr2 j hj2
            rw [Nat.zero_add] at h5
            rw [h5, ← e3]
            congr 2
            simp [List.getD, hj2]
    · refine (all_any _ _).mono ?_
      rintro e w4 ⟨rfl, b4⟩
      have hb24 : Below w2.heap.size w2 w4 := by
        first
          | exact below_next (below_alloc (Below.refl _ _) _) b4
          | (trace_state; done)
      have hown2 : w2.ownsRow (w.heap.size + 1) 30 1 u5 xs.length (xs.map u64v) := SN.out.own.kept hg2 (by
        cases hq : u5.ownBlock with
        | none => exact .inl rfl
        | some g => exact .inr (by have := (SN.out.own.lt g hq).1; intro e; injection e with e; omega))
      have hown4 : w4.ownsRow (w.heap.size + 1) 30 1 u5 xs.length (xs.map u64v) := hown2.kept (grown_of_below hb24) (by
        cases hq : u5.ownBlock with
        | none => exact .inl rfl
        | some g => exact .inr (by simp))
      have hfw := SN.out.few
      have hsz4 : w.heap.size + 1 ≤ w4.heap.size := by have := SN.out.size; have := hb24.size; have := hg2.size; omega
      have MORE := Lib.hid (fun v' w6 ho hg6 => SN.out.more rfl gmlt hx hp hxx hrg2 hg2 (w5 := w4.alloc (.cells #[u64v x] 30)) (v' := v') (w6 := w6) (below_alloc hb24 _) ho hg6 (fun g hg => (SN.out.own.lt g hg).1) hlt)
      have OLD := Lib.hid SN.out.rg
      clear b4 hown2 hg2 hs2 hen hrg2
      go_wp2_with (at_builtin; refine wpList_append_own _ rfl (.tmp 23) (.tmp 25) 46 rfl (w.heap.size + 1) 30 i0 (.int .u64 0) 1 8 Try.underlying46 HI.out HZ0.out HZ1.out HZ2.out rfl (by omega) _ xs.length _ rfl (hown4.alloc _) ⟨w4.heap.size, 0, none⟩ 1 1 [.int .u64 (x : Int)] rfl rfl (cell_one _ _ _) (one_u64 _) (by unfold maxLen; omega) (by omega) (by simp; omega) ?_; intro v6 w5 hown5 hg5 hv5)
      have hS := MORE.out v6 w5 hown5 hg5
      clear hown5 hg5 hv5 hown4 hb24 hsz4
      go_wp2_with fail
      go_roundw
      case rel => exact ⟨xs ++ [x], _, cnt2, hS⟩
      case measure =>
        rw [hS.rg.left_eq, OLD.out.left_eq]; exact hlt
theorem list_any (w : World) (h : Net w B hn Bs S room made T) (hmade : made < 18446744073709551616) :
    Calls Try.prog 12 #[.pointer (some ⟨hn, 0, none⟩)] w fun e w' => ∃ v, e = .returned v ∧ Below w.heap.size w w' ∧ NumsIs w' (w.heap.size + 1) v (S.map (·.id)) := by
  obtain ⟨gm, _, h⟩ := h
  have NA := Lib.hid (numbers_all w h hmade)
  clear h
  go_enter Try.func12, Try.ntmps12
  go_wp2_with fail
  refine NA.out.mono ?_
  rintro e w1 ⟨v, rfl, hb, hn⟩
  have HB := Lib.hid hb; have HN := Lib.hid hn; clear hb hn
  go_wp2_with fail
  go_ret
  exact ⟨v, rfl, HB.out, HN.out⟩
end
end Go.Proofs.Ythanjfnpohhebaa
