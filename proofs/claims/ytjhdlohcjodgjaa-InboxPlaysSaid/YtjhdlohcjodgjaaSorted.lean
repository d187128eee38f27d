/- sorted: the calls that are wanted, in order. -/
import Derived.Test.YtjhdlohcjodgjaaState
import Derived.Deep.AppendLies
namespace Go.Proofs.Ytjhdlohcjodgjaa
open Go.RowKit
set_option linter.unusedVariables false

/-- a step of the range over the calls -/
theorem wpList_next_cal (w : World) {ops : Array Oper} {rest : List Oper} {o : Oper} {a : Act} {Q : Exit → Act → World → Prop} (hg : o.guard = none) (it : Operand) (hop : o.op = Op.next it false)
    (b r n : Nat) (D : DataW Value) (left : Lit → Bool) (cnt : Nat) (hit : a.eval it = .pointer (some ⟨r, 0, none⟩)) (h : w.ranges Try.prog 29 tokR b r n D left cnt)
    (hDone : cnt = 0 → (∀ kl, left kl = false) → wpList Try.prog ops Q rest (a.put o.dst (.tuple #[.bool false])) w)
    (hMore : ∀ (x : Nat) (c : Array Value) (w' : World) (cnt' : Nat), x < 18446744073709551616 → left (ky x) = true → (∀ zd, D.atKey (ky x) zd = .held (.agg c)) → w'.ranges Try.prog 29 tokR b r n D (fun z => left z && !z.sameKey (ky x)) cnt' → cnt' < cnt →
      w.grownBy w' (some r) → w'.heap.size = w.heap.size → (Instr.entry (.pointer (some ⟨r, 0, none⟩))).run Try.prog w' = .ok (.tuple #[.int .u64 (x : Int), .agg c]) w' → wpList Try.prog ops Q rest (a.put o.dst (.tuple #[.bool true, .int .u64 (x : Int), .agg c])) w') :
    wpList Try.prog ops Q (o :: rest) a w :=
  wpList_next_ranges w hg it hop 29 mlaw tokR (Value.int .u64) Value.agg (fun key kl hkey => by obtain ⟨x, rfl, _⟩ := Maps.keyOf_int_inv Try.underlying29 hkey; exact ⟨x, rfl⟩) (fun v y hv => by obtain ⟨_, c, rfl⟩ := tokR_inv hv; exact ⟨c, rfl⟩)
    b r n D left cnt hit h hDone (fun x c kl y w' cnt' hkey hlk hv hat hrg hlt hgr hsz hen => by
      obtain ⟨x', ex, rfl, hwx⟩ := Maps.keyOf_int_inv Try.underlying29 hkey
      cases ex
      obtain ⟨e1, _⟩ := tokR_inv hv
      have hb := bounds_u64 hwx
      obtain ⟨x, rfl⟩ : ∃ k : Nat, x = (k : Int) := ⟨x.toNat, by omega⟩
      exact hMore x c w' cnt' (by omega) hlk (fun zd => by rw [hat zd, e1]) hrg hlt hgr hsz hen)
theorem ky_same (a b : Nat) : (ky a).sameKey (ky b) = decide (a = b) := by
  simp [Lit.sameKey]; omega

theorem perm_of_same : ∀ (l m : List Nat), l.Nodup → m.Nodup → (∀ x, x ∈ l ↔ x ∈ m) → l.Perm m := by
  intro l
  induction l with
  | nil =>
    intro m _ _ h
    cases m with
    | nil => exact List.Perm.refl _
    | cons y r => have := (h y).2 (by simp); cases this
  | cons x l ih =>
    intro m hl hm h
    have hx : x ∈ m := (h x).1 (by simp)
    obtain ⟨hl1, hl2⟩ := List.nodup_cons.1 hl
    have hm2 : (m.erase x).Nodup := hm.erase x
    refine ((ih (m.erase x) hl2 hm2 fun y => ?_).cons x).trans (List.perm_cons_erase hx).symm
    rw [hm.mem_erase_iff]
    constructor
    · intro hy
      exact ⟨fun e => hl1 (e ▸ hy), (h y).1 (by simp [hy])⟩
    · intro ⟨h1, h2⟩
      rcases List.mem_cons.1 ((h y).2 h2) with e | e
      · exact absurd e h1
      · exact e

theorem grown_of_below {w w' : World} (b : Below w.heap.size w w') : w.grownBy w' none := ⟨b.os, b.tape, b.output, b.size, fun i hi _ => b.block i hi⟩
/-- the calls of these numbers -/
def pick (S : List Cal) (xs : List Nat) : List Cal := xs.filterMap (look S)
theorem pick_app (S : List Cal) (xs : List Nat) {x : Nat} {p : Cal} (h : look S x = some p) : pick S (xs ++ [x]) = pick S xs ++ [p] := by
  unfold pick; rw [List.filterMap_append]; simp [h]
theorem pick_all_of {S T : List Cal} (h : Inc S) (hs : T.Sublist S) : pick S (T.map (·.id)) = T := by
  induction T with
  | nil => rfl
  | cons x r ih =>
    have hx : x ∈ S := hs.subset (List.mem_cons_self ..)
    have := ih ((List.sublist_cons_self x r).trans hs)
    unfold pick at this ⊢
    rw [List.map_cons, List.filterMap_cons, h.look hx, this]
section
variable {B hn gm made : Nat} {S : List Cal} {C : Cfg}
/-- what has come so far -/
structure Seen (wt : Cal → Bool) (w wr : World) (r gm : Nat) (S : List Cal) (D : DataW Value) (v : Value) (xs : List Nat) (left : Lit → Bool) (cnt : Nat) : Prop where
  own : wr.ownsRow (w.heap.size + 1) 70 5 v ((pick S xs).filter wt).length (lc ((pick S xs).filter wt))
  rg : wr.ranges Try.prog 29 tokR gm r S.length D left cnt
  nd : xs.Nodup
  left : ∀ id, id < 18446744073709551616 → left (ky id) = ((look S id).isSome && !decide (id ∈ xs))
  mem : ∀ x ∈ xs, (look S x).isSome = true ∧ x < 18446744073709551616
  bel : Below w.heap.size w wr
  size : w.heap.size + 1 ≤ wr.heap.size
  few : xs.length + cnt ≤ S.length
theorem pick_len (S : List Cal) (xs : List Nat) : (pick S xs).length ≤ xs.length := by unfold pick; exact List.length_filterMap_le _ _
/-- the call that came -/
theorem Seen.pk {wt : Cal → Bool} {w wr : World} {r : Nat} {D : DataW Value} {v : Value} {xs : List Nat} {left : Lit → Bool} {cnt : Nat} (h : Seen wt w wr r gm S D v xs left cnt) (hD : ∀ id, id < 18446744073709551616 → Maps.has D (ky id) = (fmap S id).isSome ∧ ∀ v, fmap S id = some v → D.atKey (ky id) (.held zpk) = .held (.agg v))
    {x : Nat} {c : Array Value} (hx : x < 18446744073709551616) (hl : left (ky x) = true) (hat : ∀ zd, D.atKey (ky x) zd = .held (.agg c)) : ∃ p, look S x = some p ∧ c = p.cells ∧ x ∉ xs := by
  have h1 := h.left x hx
  rw [hl] at h1
  simp only [Bool.true_eq, Bool.and_eq_true, Bool.not_eq_true', decide_eq_false_iff_not] at h1
  obtain ⟨p, hp⟩ := Option.isSome_iff_exists.1 h1.1
  have h2 := (hD x hx).2 p.cells (by unfold fmap; rw [hp]; rfl)
  rw [hat] at h2
  injection h2 with h2
  injection h2 with h2
  exact ⟨p, hp, h2, h1.2⟩
/-- one more -/
theorem Seen.more {wt : Cal → Bool} {w wr w2 w5 w6 : World} {r : Nat} {D : DataW Value} {v v' : Value} {xs : List Nat} {left : Lit → Bool} {cnt cnt2 : Nat} (hr : r = w.heap.size) (hgm : gm < w.heap.size) (h : Seen wt w wr r gm S D v xs left cnt) {x : Nat} {p : Cal} (hx : x < 18446744073709551616) (hp : look S x = some p) (hxx : x ∉ xs)
    (hrg : w2.ranges Try.prog 29 tokR gm r S.length D (fun z => left z && !z.sameKey (ky x)) cnt2) (hg2 : wr.grownBy w2 (some r)) (b5 : Below w2.heap.size w2 w5)
    (hown : w6.ownsRow (w.heap.size + 1) 70 5 v' ((pick S (xs ++ [x])).filter wt).length (lc ((pick S (xs ++ [x])).filter wt))) (hg6 : w5.grownBy w6 v.ownBlock) (hv : ∀ g, v.ownBlock = some g → w.heap.size + 1 ≤ g) (hc : cnt2 < cnt) : Seen wt w w6 r gm S D v' (xs ++ [x]) (fun z => left z && !z.sameKey (ky x)) cnt2 := by
  have s2 : w2.heap.size ≤ w5.heap.size := b5.size
  have hb2 : Below w.heap.size w w2 := ⟨hg2.os.trans h.bel.os, hg2.tape.trans h.bel.tape, hg2.output.trans h.bel.output, Nat.le_trans h.bel.size hg2.size, fun k hk => (hg2.block k (Nat.lt_of_lt_of_le hk h.bel.size) (by intro e; injection e with e; omega)).trans (h.bel.block k hk)⟩
  have hb5 : Below w.heap.size w w5 := below_next hb2 b5
  have hb6 : Below w.heap.size w w6 := ⟨hg6.os.trans hb5.os, hg6.tape.trans hb5.tape, hg6.output.trans hb5.output, Nat.le_trans hb5.size hg6.size, fun k hk => (hg6.block k (Nat.lt_of_lt_of_le hk hb5.size) (by intro e; have := hv k e.symm; omega)).trans (hb5.block k hk)⟩
  refine ⟨hown, ?_, ?_, ?_, ?_, hb6, Nat.le_trans h.size (Nat.le_trans hg2.size (Nat.le_trans s2 hg6.size)), by have := h.few; simp; omega⟩
  · refine (hrg.kept (grown_of_below b5) (by simp) (by simp)).kept hg6 ?_ ?_
    · intro e; have := hv gm e.symm; omega
    · intro e; have := hv r e.symm; omega
  · rw [List.nodup_append]
    exact ⟨h.nd, by simp, by intro a ha b hb e; simp at hb; subst hb; subst e; exact hxx ha⟩
  · intro id hid
    rw [h.left id hid, ky_same]
    by_cases e : id = x
    · simp [e]
    · simp [e]
  · intro y hy
    rcases List.mem_append.1 hy with hy | hy
    · exact h.mem y hy
    · simp at hy; subst hy; exact ⟨by rw [hp]; rfl, hx⟩
/-- all have been seen -/
theorem Seen.all {wt : Cal → Bool} {w wr : World} {r : Nat} {D : DataW Value} {v : Value} {xs : List Nat} {left : Lit → Bool} {cnt : Nat} (h : Seen wt w wr r gm S D v xs left cnt) (hS : Inc S) (hid : ∀ x, (look S x).isSome = true → x < 18446744073709551616) (hl : ∀ kl, left kl = false) : (pick S xs).Perm S := by
  have h0 : xs.Perm (S.map (·.id)) := by
    refine perm_of_same _ _ h.nd ?_ fun x => ?_
    · rw [List.nodup_iff_pairwise_ne, List.pairwise_map]
      exact hS.imp fun h => by omega
    · constructor
      · intro hx
        obtain ⟨p, hp⟩ := Option.isSome_iff_exists.1 (h.mem x hx).1
        obtain ⟨h1, h2⟩ := look_some hp
        exact List.mem_map.2 ⟨p, h1, h2⟩
      · intro hx
        obtain ⟨p, hp, rfl⟩ := List.mem_map.1 hx
        have hk := hS.look hp
        have h1 := h.left p.id (hid _ (by rw [hk]; rfl))
        rw [hl, hk] at h1
        simpa using h1
  have := h0.filterMap (look S)
  rw [show (S.map (·.id)).filterMap (look S) = S from pick_all_of hS (List.Sublist.refl S)] at this
  exact this
theorem call_info : (Try.prog.info? 70).map (fun i => (i.zero, i.size, i.bytes)) = some (some zpk, 5, 40) := by kernel_rfl
set_option maxRecDepth 100000 in
set_option maxHeartbeats 8000000 in
theorem sorted_any (f : Nat) (cb : Array Value) (wt : Cal → Bool) (g : Nat) (cf : Cal → Cal → Int) (hO : Sort.SWO (ltOf cf)) (hg : ∀ args w, (callFunc g args).run Try.prog w = .ok (.enter g args) w) (hf : ∀ args w, (callFunc f args).run Try.prog w = .ok (.enter f args) w)
    (hcmp : ∀ (x y : Cal) (w : World), Calls Try.prog g #[agv x, agv y] w fun e w' => e = .returned (.int .i64 (cf x y)) ∧ Gr w w')
    (w : World) (h : CalsW w B hn gm S C made)
    (hw : ∀ (x : Cal) (W : World), Below w.heap.size w W → Calls Try.prog f (#[agv x] ++ cb) W fun e W' => e = .returned (.bool (wt x)) ∧ Below W.heap.size W W') :
    Calls Try.prog 35 #[.pointer (some ⟨hn, 0, none⟩), .func (.func g) #[] #[], .func (.func f) #[] cb] w fun e w' =>
      ∃ v l, e = .returned v ∧ Below w.heap.size w w' ∧ l.Perm (S.filter wt) ∧ SortedBy cf l ∧ w'.ownsRow (w.heap.size + 1) 70 5 v l.length (lc l) := by
  obtain ⟨D, hown, hsz, hD⟩ := h.map
  have H := Lib.hid h; have HD := Lib.hid hD; have HW := Lib.hid hw
  have hrow := fun i => h.at_ i
  have c5 : w.cell? ⟨hn, 5, none⟩ = some (.map (some gm)) := by rw [hrow]; rfl
  have hlen : S.length ≤ 256 := by have := h.few; have := h.ok.2.1; omega
  have hid : ∀ x, (look S x).isSome = true → x < 18446744073709551616 := fun x hx => by
    obtain ⟨p, hp⟩ := Option.isSome_iff_exists.1 hx
    obtain ⟨h1, h2⟩ := look_some hp
    have := (h.ids p h1).2; have := h.big; omega
  have HID := Lib.hid hid
  have SORT := Lib.hid (fun (w : World) (B n cap : Nat) (ao : Option Addr) (l : List Cal) => sort_rows g cf hO hg hcmp (w := w) (B := B) (n := n) (cap := cap) (ao := ao) (l := l))
  obtain ⟨i0, hi, hz0, hz1, hz2⟩ := info_parts call_info
  have HI := Lib.hid hi; have HZ0 := Lib.hid hz0; have HZ1 := Lib.hid hz1; have HZ2 := Lib.hid hz2
  clear h hrow hid hD hw hO hcmp hi hz0 hz1 hz2
  go_enter Try.func35, Try.ntmps35
  go_wp2_with (refine wpList_range_own _ rfl (.tmp 15) 86 rfl 29 70 mlaw Try.underlying86 tokR gm S.length D rfl hown ?_; intro w1 hrg hgr hs1)
  go_frame
  have gmlt := hown.lt
  have hstart : Seen wt w w1 w.heap.size gm S D (.slice none 0 0) [] (Maps.has D) (Maps.size D) := by
    refine ⟨World.ownsRow_nil _ _ _ _, hrg, List.nodup_nil, fun id hid => ?_, fun x hx => by simp at hx, ⟨hgr.os, hgr.tape, hgr.output, hgr.size, fun k hk => hgr.block k hk (by simp)⟩, by omega, by simp [hsz]⟩
    rw [(HD.out id hid).1]
    simp [fmap]
  have ST := Lib.hid hstart
  have HSZ := Lib.hid hsz
  clear hstart hsz hrg hgr hs1 hown c5
  go_loopw [7, 9] (fun v7 v9 wr => ∃ (xs : List Nat) (left : Lit → Bool) (cnt : Nat), Seen wt w wr w.heap.size gm S D v7 xs left cnt) (fun v7 v9 wr => wr.rangeLeft gm w.heap.size)
  case atStart => exact ⟨[], _, _, ST.out⟩
  case round =>
    clear ST
    obtain ⟨xs, left, cnt, hsn⟩ := hrel
    have SN := Lib.hid hsn; clear hsn
    obtain ⟨ao, cap, hv7, hle7, hmx7⟩ := owns_shape SN.out.own
    subst hv7
    go_wp2_with (refine wpList_next_cal _ rfl (.tmp 16) rfl gm w.heap.size S.length D left cnt rfl SN.out.rg (fun hc0 hl0 => ?_) (fun x c w2 cnt2 hx hlx hat hrg2 hlt hg2 hs2 hen => ?_); rotate_left; obtain ⟨p, hp, rfl, hxx⟩ := SN.out.pk HD.out hx hlx hat; rotate_left)
    · have PM := Lib.hid (SN.out.all H.out.inc HID.out hl0)
      have hfl : ((pick S xs).filter wt).length ≤ 256 := by
        have h1 := List.length_filter_le wt (pick S xs); have h2 := pick_len S xs; have h3 := SN.out.few; omega
      have OWNS := Lib.hid SN.out.own
      have BEL := Lib.hid SN.out.bel
      have hblk := owns_blk SN.out.own
      have HBK := Lib.hid hblk
      obtain ⟨N, hN⟩ : ∃ N, ((pick S xs).filter wt).length = N := ⟨_, rfl⟩
      rw [hN] at OWNS hfl
      clear SN hblk
      rw [hN]
      refine (SORT.out wr (w.heap.size + 1) N cap ao ((pick S xs).filter wt) OWNS.out (by omega)).mono ?_
      rintro e w3 ⟨rfl, l, hp, hs, ho, kp⟩
      have HP := Lib.hid hp; have HS := Lib.hid hs; have HO := Lib.hid ho; have KP := Lib.hid kp; have HN := Lib.hid (hp.length_eq.trans hN)
      clear hp hs ho kp OWNS hN SORT
      go_wp2_with fail
      go_ret
      refine ⟨_, l, rfl, BEL.out.trans (KP.out.below BEL.out.size (fun g hg => by have := (HBK.out g hg).1; omega)), HP.out.trans (PM.out.filter wt), HS.out, ?_⟩
      rw [HN.out]
      exact HO.out
    · have hb2 : Below w.heap.size w w2 := ⟨hg2.os.trans SN.out.bel.os, hg2.tape.trans SN.out.bel.tape, hg2.output.trans SN.out.bel.output, Nat.le_trans SN.out.bel.size hg2.size, fun k hk => (hg2.block k (Nat.lt_of_lt_of_le hk SN.out.bel.size) (by intro e; injection e with e; omega)).trans (SN.out.bel.block k hk)⟩
      refine (HW.out p _ (below_alloc hb2 _)).mono ?_
      rintro e w4 ⟨rfl, b4⟩
      have hb24 : Below w2.heap.size w2 w4 := below_next (below_alloc (Below.refl _ _) _) b4
      have hbox : ∀ i, w4.cell? ⟨w2.heap.size, i, none⟩ = p.cells[i]? := fun i => by
        have h1 : (w2.alloc (boxc p)).cell? ⟨w2.heap.size, i, none⟩ = p.cells[i]? := cell_of_row _ _ i _ _ (0, 0) (heap_alloc_new w2 _)
        have h2 : (⟨w2.heap.size, i, none⟩ : Addr).block < (w2.alloc (boxc p)).heap.size := by simp
        exact (b4.cell h2).trans h1
      have b0 := hbox 0; have b1 := hbox 1; have b2' := hbox 2; have b3 := hbox 3; have b4' := hbox 4
      simp only [Cal.cells, List.getElem?_toArray, List.getElem?_cons_succ, List.getElem?_cons_zero] at b0 b1 b2' b3 b4'
      have hbl : w2.heap.size < w4.heap.size := Nat.lt_of_lt_of_le (by simp) b4.size
      have hown2 : w2.ownsRow (w.heap.size + 1) 70 5 (.slice ao ((pick S xs).filter wt).length cap) ((pick S xs).filter wt).length (lc ((pick S xs).filter wt)) := SN.out.own.kept hg2 (by
        cases hq : (Value.slice ao ((pick S xs).filter wt).length cap).ownBlock with
        | none => exact .inl rfl
        | some g => exact .inr (by have := (SN.out.own.lt g hq).1; intro e; injection e with e; omega))
      have hown4 : w4.ownsRow (w.heap.size + 1) 70 5 (.slice ao ((pick S xs).filter wt).length cap) ((pick S xs).filter wt).length (lc ((pick S xs).filter wt)) := hown2.kept (grown_of_below hb24) (by
        cases hq : (Value.slice ao ((pick S xs).filter wt).length cap).ownBlock with
        | none => exact .inl rfl
        | some g => exact .inr (by simp))
      have hfl : ((pick S xs).filter wt).length ≤ 256 := by
        have h1 := List.length_filter_le wt (pick S xs); have h2 := pick_len S xs; have h3 := SN.out.few; omega
      have hsz4 : w.heap.size + 1 ≤ w4.heap.size := by have := SN.out.size; have := hb24.size; have := hg2.size; omega
      have OLD := Lib.hid SN.out.rg
      rw [hs2] at b0 b1 b2' b3 b4' hbl
      by_cases hto : wt p = true
      · have hfe : (pick S (xs ++ [x])).filter wt = (pick S xs).filter wt ++ [p] := by rw [pick_app S xs hp, List.filter_append, List.filter_cons_of_pos hto]; rfl
        have MORE := Lib.hid (fun v' w6 (ho : w6.ownsRow (w.heap.size + 1) 70 5 v' (((pick S xs).filter wt).length + 1) (lc ((pick S xs).filter wt) ++ p.list)) hg6 => SN.out.more rfl gmlt hx hp hxx hrg2 hg2 (w5 := w4.alloc (boxc p)) (v' := v') (w6 := w6) (below_alloc hb24 _) (by rw [hfe, List.length_append, lc, fl_app, fl_one]; exact ho) hg6 (fun g hg => (SN.out.own.lt g hg).1) hlt)
        obtain ⟨N, hN⟩ : ∃ N, ((pick S xs).filter wt).length = N := ⟨_, rfl⟩
        rw [hN] at hown4 hfl MORE
        rw [hto, hN]
        have HOWN4 := Lib.hid hown4
        have HPC := Lib.hid hs2
        clear b4 hown2 hg2 hs2 hen hrg2 hb2 hfe hown4 SN hN hto hbox
        go_wp2_with (at_builtin; (refine wpList_append_own _ rfl (.tmp 24) (.tmp 26) 50 rfl (w.heap.size + 1) 70 i0 zpk 5 40 Try.underlying50 HI.out HZ0.out HZ1.out HZ2.out rfl (by omega) _ N (lc ((pick S xs).filter wt)) rfl (HOWN4.out.alloc _) ⟨w4.heap.size, 0, none⟩ 1 1 p.list rfl rfl (World.news_of_block (cs := p.cells) (t := 70) (fr := (0, 0)) (heap_alloc_new w4 _)) (by simp [Value.oneCell']) (by unfold maxLen; omega) (by omega) (by simp; omega) ?_; intro v6 w5 hown5 hg5 hv5))
        have hS := MORE.out v6 w5 hown5 hg5
        clear hown5 hg5 hv5 hb24 hsz4
        go_wp2_with fail
        go_roundw
        case rel => exact ⟨xs ++ [x], _, cnt2, hS⟩
        case measure =>
          rw [hS.rg.left_eq, OLD.out.left_eq]; exact hlt
      · have hfe : (pick S (xs ++ [x])).filter wt = (pick S xs).filter wt := by rw [pick_app S xs hp, List.filter_append, List.filter_cons_of_neg hto]; simp
        have hS := SN.out.more rfl gmlt hx hp hxx hrg2 hg2 (w5 := w4) (v' := .slice ao ((pick S xs).filter wt).length cap) (w6 := w4) hb24 (by rw [hfe]; exact hown4) ⟨rfl, rfl, rfl, Nat.le_refl _, fun _ _ _ => rfl⟩ (fun g hg => (SN.out.own.lt g hg).1) hlt
        have HSS := Lib.hid hS
        rw [show wt p = false by simpa using hto]
        clear b4 hown2 hg2 hs2 hen hrg2 hb2 hfe hown4 hS SN hto hbox
        go_wp2_with fail
        go_roundw
        case rel => exact ⟨xs ++ [x], _, cnt2, HSS.out⟩
        case measure =>
          rw [HSS.out.rg.left_eq, OLD.out.left_eq]; exact hlt
end
end Go.Proofs.Ytjhdlohcjodgjaa
