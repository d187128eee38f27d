/- A step of a script: Due. -/
import Derived.Test.YtjhdlohcjodgjaaTwin6
namespace Go.Proofs.Ytjhdlohcjodgjaa
open Go.RowKit
set_option linter.unusedVariables false

/-- behind both Dues: the twin, and two rows of the call's own, apart -/
structure DueL (w W wr : World) (B tb hn gm rb cap : Nat) (ao : Option Addr) (T : List Cal) (C : Cfg) (now : Nat) (a1 : Option Addr) (n1 c1 : Nat) (a2 : Option Addr) (n2 c2 : Nat) : Prop where
  tw : TwinW wr B tb hn gm rb cap ao T C now
  bel : Below B w wr
  o1 : ∃ xs, wr.ownsRow W.heap.size 70 5 (.slice a1 n1 c1) n1 xs
  o2 : ∃ xs, wr.ownsRow W.heap.size 70 5 (.slice a2 n2 c2) n2 xs
  ap : ∀ g ∈ blk a1, g ∉ blk a2
  le : W.heap.size ≤ wr.heap.size
  old : tb < W.heap.size ∧ hn < W.heap.size ∧ gm < W.heap.size ∧ rb < W.heap.size ∧ (∀ g ∈ blk ao, g < W.heap.size) ∧ B ≤ W.heap.size
section
variable {w W wr w' : World} {B tb hn gm rb cap now n1 c1 n2 c2 k bx : Nat} {ao a1 a2 : Option Addr} {T T' : List Cal} {C : Cfg}
theorem Begun.due {w3 w4 : World} {T' L1 L2 : List Cal} {q n a kind : Int} {raw : Bool} (h : Begun w W B tb hn gm rb cap ao T C now bx kind n a raw) (hd : DueOf C T q T' L1 L2) (h3 : CalsW w3 B hn gm (live T') C T'.length) (k3 : Keep [gm] W w3)
    (o1 : w3.ownsRow W.heap.size 70 5 (.slice a1 n1 c1) n1 (lc L1)) (o2 : w3.ownsRow W.heap.size 70 5 (.slice a2 n2 c2) n2 (lc L2)) (hap : ∀ g ∈ blk a1, g ∉ blk a2)
    (h4 : RefW w4 B rb ao cap T' C) (k4 : Keep (blk ao) w3 w4) :
    DueL w W w4 B tb hn gm rb cap ao T' C now a1 n1 c1 a2 n2 c2 ∧ w4.ownsRow W.heap.size 70 5 (.slice a1 n1 c1) n1 (lc L1) ∧ w4.ownsRow W.heap.size 70 5 (.slice a2 n2 c2) n2 (lc L2) := by
  obtain ⟨b1, b2, b3, b4⟩ := h.tw.t2
  have kk : Keep (hn :: gm :: rb :: blk ao) W w4 := by
    refine (k3.mono fun g hg => .inl ?_).trans (k4.mono fun g hg => .inl ?_)
    · simp at hg ⊢; simp [hg]
    · simp only [List.mem_cons]; exact .inr (.inr (.inr hg))
  have hlo : ∀ g ∈ blk ao, g < W.heap.size := fun g hg => (owns_blk h.tw.R.own g hg).2
  have p1 := owns_keep o1 k4 (blk_own _ _ _ (fun g hg hm => by have := (owns_blk o1 g hg).1; have := hlo g hm; omega))
  have p2 := owns_keep o2 k4 (blk_own _ _ _ (fun g hg hm => by have := (owns_blk o2 g hg).1; have := hlo g hm; omega))
  have hlts := h.tw.A.lts
  exact ⟨⟨h.tw.after kk (h3.keep k4 b3 b4) h4 (fun g hg => .inl hg) (hd.tries h.tw.tries), h.bel.trans (h.tw.keepB kk), ⟨_, p1⟩, ⟨_, p2⟩, hap, kk.size,
    h.tw.tlt, by omega, by omega, h.tw.R.hlt, hlo, h.size⟩, p1, p2⟩
theorem DueL.below (h : DueL w W wr B tb hn gm rb cap ao T C now a1 n1 c1 a2 n2 c2) (b : Below wr.heap.size wr w') : DueL w W w' B tb hn gm rb cap ao T C now a1 n1 c1 a2 n2 c2 := by
  obtain ⟨_, p1⟩ := h.o1
  obtain ⟨_, p2⟩ := h.o2
  have k := Keep.of_below b []
  have := h.old.2.2.2.2.2; have := h.le; have := k.size
  exact ⟨h.tw.below b, h.bel.trans (b.mono (by omega)), ⟨_, owns_keep p1 k (by simp)⟩, ⟨_, owns_keep p2 k (by simp)⟩, h.ap, by omega, h.old⟩
theorem DueL.turn1 {a1' : Option Addr} {n1' c1' : Nat} (h : DueL w W wr B tb hn gm rb cap ao T C now a1 n1 c1 a2 n2 c2) (k : Keep (blk a1) wr w') (o : ∃ xs, w'.ownsRow W.heap.size 70 5 (.slice a1' n1' c1') n1' xs) (hb : ∀ g ∈ blk a1', g ∈ blk a1 ∨ wr.heap.size ≤ g) :
    DueL w W w' B tb hn gm rb cap ao T C now a1' n1' c1' a2 n2 c2 := by
  obtain ⟨_, p1⟩ := h.o1
  obtain ⟨_, p2⟩ := h.o2
  obtain ⟨d1, d2, d3, d4, d5, d6⟩ := h.old
  have hle := h.le; have hks := k.size
  have hlo := fun g hg => (owns_blk p1 g hg).1
  have hlo2 := fun g hg => (owns_blk p2 g hg).2
  refine ⟨h.tw.keep k (fun g hg => ?_), h.bel.trans (k.below (by omega) (fun g hg => by have := hlo g hg; omega)), o, ⟨_, owns_keep p2 k (blk_own _ _ _ fun g hg hm => h.ap g hm hg)⟩, fun g hg hm => ?_, by omega, h.old⟩
  · have := hlo g hg
    exact ⟨by omega, by omega, by omega, by omega, fun hm => by have := d5 g hm; omega⟩
  · rcases hb g hg with h1 | h1
    · exact h.ap g h1 hm
    · have := hlo2 g hm; omega
theorem DueL.flip (h : DueL w W wr B tb hn gm rb cap ao T C now a1 n1 c1 a2 n2 c2) : DueL w W wr B tb hn gm rb cap ao T C now a2 n2 c2 a1 n1 c1 :=
  ⟨h.tw, h.bel, h.o2, h.o1, fun g hg hm => h.ap g hm hg, h.le, h.old⟩
theorem DueL.at5 (h : DueL w W wr B tb hn gm rb cap ao T C now a1 n1 c1 a2 n2 c2) (hk : k < n1) : ∃ g, a1 = some ⟨g, 0, none⟩ ∧ n1 ≤ c1 ∧ (∀ i, wr.frozen? ⟨g, i, none⟩ = false) ∧ ∀ i, i < 5 → ∃ v, wr.cell? ⟨g, k * 5 + i, none⟩ = some v := by
  obtain ⟨xs, p1⟩ := h.o1
  obtain ⟨g, rfl, _, hc, _, _⟩ := owns_none p1 (by omega)
  refine ⟨g, rfl, hc, fun i => p1.frozenAt i, fun i hi => ?_⟩
  have hl := p1.1
  have hlt : k * 5 + i < xs.length := by rw [hl]; have : (k + 1) * 5 ≤ n1 * 5 := Nat.mul_le_mul_right 5 hk; omega
  have hc := p1.cells (g := g) rfl (k * 5 + i) _ (List.getElem?_eq_getElem hlt)
  rw [Addr.add_lit, Nat.zero_add] at hc
  exact ⟨_, hc⟩
theorem DueL.put {g : Nat} (h : DueL w W wr B tb hn gm rb cap ao T C now (some ⟨g, 0, none⟩) n1 c1 a2 n2 c2) (q : Nat) (hq : q < n1 * 5) (v : Value) : DueL w W (wr.setCell ⟨g, q, none⟩ v) B tb hn gm rb cap ao T C now (some ⟨g, 0, none⟩) n1 c1 a2 n2 c2 := by
  obtain ⟨xs, p1⟩ := h.o1
  have kk := Keep.setCell wr ⟨g, q, none⟩ v
  exact h.turn1 (kk.mono (fun x hx => .inl (by simpa [blk] using hx))) ⟨_, owns_put p1 q hq v⟩ (fun x hx => .inl hx)
theorem DueL.app {w0 : World} {v8 : Value} {m : Nat} {xs8 : List Value} (h : DueL w W wr B tb hn gm rb cap ao T C now a1 n1 c1 a2 n2 c2) (b0 : Below wr.heap.size wr w0) (ho : w'.ownsRow W.heap.size 70 5 v8 m xs8)
    (hg : w0.grownBy w' (Value.slice a1 n1 c1).ownBlock) (hob : v8.ownBlock = (Value.slice a1 n1 c1).ownBlock ∨ v8.ownBlock = some w0.heap.size) : ∃ a8 c8, v8 = .slice a8 m c8 ∧ DueL w W w' B tb hn gm rb cap ao T C now a8 m c8 a2 n2 c2 := by
  obtain ⟨a8, c8, rfl, _, _⟩ := owns_shape ho
  refine ⟨a8, c8, rfl, h.turn1 ((Keep.of_below b0 _).trans (keep_grown hg)) ⟨_, ho⟩ (fun g hg8 => ?_)⟩
  have h8 : (Value.slice a8 m c8).ownBlock = some g := by
    cases a8 with
    | none => simp [blk] at hg8
    | some x => simp only [blk, List.mem_singleton] at hg8; simp [Value.ownBlock, hg8]
  rw [h8] at hob
  rcases hob with h9 | h9
  · left
    cases a1 with
    | none => cases h9
    | some x => simp [Value.ownBlock] at h9; simp [blk, h9]
  · right
    injection h9 with h9
    have := b0.size
    omega
set_option maxRecDepth 100000 in
set_option maxHeartbeats 8000000 in
theorem step_due (n a : Int) (raw : Bool) (h : TwinW w B tb hn gm rb cap ao T C now) (hk : T.length ≤ k) (hk2 : k < 1000) :
    Calls Try.prog 16 #[.pointer (some ⟨tb, 0, none⟩), stv 3 n a raw] w (Stepped B tb hn k w) := by
  have HT := Lib.hid h
  have hT : T.length ≤ 1000 := by omega
  have htb := h.tlt
  have HI := Lib.hid h.time
  have d0 := h.at_ 0; have d1 := h.at_ 1; have d2 := h.at_ 2
  have e0 := (Begun.of h 3 n a raw).tw.at_ 0; have e1 := (Begun.of h 3 n a raw).tw.at_ 1; have e2 := (Begun.of h 3 n a raw).tw.at_ 2; have f2 := (Begun.of h 3 n a raw).tw.fr 2
  simp only [rowT, List.getElem?_toArray, List.getElem?_cons_succ, List.getElem?_cons_zero] at d0 d1 d2 e0 e1 e2
  obtain ⟨⟨⟨x0, x1, x2, x3⟩, x4⟩⟩ : Nonempty (BoxS w.heap.size 3 n a raw (w.alloc (sto 3 n a raw))) := ⟨(Begun.of h 3 n a raw).box⟩
  have hw := ways raw a now
  unfold Ways at hw
  have HG := Lib.hid (Begun.of h 3 n a raw)
  clear h
  go_enter Try.func16, Try.ntmps16
  obtain ⟨z, hz⟩ : ∃ z : Int, z = (now : Int) := ⟨_, rfl⟩
  rw [← hz] at e2 d2 hw
  have HZ := Lib.hid hz
  have hz0 : 0 ≤ z := by omega
  clear hz
  rcases hw with rfl | ⟨rfl, h2⟩ | ⟨rfl, h2, h3⟩ | ⟨rfl, h2, h3, h4⟩ | ⟨rfl, h2, h3, h4⟩
  all_goals
    go_wp2_with fail
    first
      | (replace HG := Lib.hid (Begun.set HT.out 3 n a false (now + a.toNat) (z + a) (by have := HZ.out; have := HI.out; omega) (by have := HZ.out; have := HI.out; omega))
         generalize (w.setCell ⟨tb, 2, none⟩ (.int .i64 (z + a))).alloc (sto 3 n a false) = W at *
         generalize w.heap.size = bx at *
         generalize z + a = q at *
         generalize now + a.toNat = now1 at *)
      | (have hx := (x3 : (w.alloc (sto 3 n a true)).cell? ⟨w.heap.size, 3, none⟩ = some (.bool true))
         clear hx
         generalize w.alloc (sto 3 n a true) = W at *
         generalize w.heap.size = bx at *
         generalize a = q at *
         generalize now = now1 at HG)
      | (generalize w.alloc (sto 3 n a false) = W at *
         generalize w.heap.size = bx at *
         generalize a = q at *
         generalize now = now1 at HG)
    clear x0 x1 x2 x3 x4 e0 e1 e2 f2 d0 d1 d2
    have c0 := HG.out.tw.at_ 0
    have c1 := HG.out.tw.at_ 1
    simp only [rowT, List.getElem?_toArray, List.getElem?_cons_succ, List.getElem?_cons_zero] at c0 c1
    have htl := HG.out.tw.tlt
    have HA := Lib.hid (adue_s q W HG.out.tw.A HG.out.tw.R.idsO)
    go_wp2_with fail
    (refine HA.out.mono ?_; rintro e w3 ⟨T', L1, L2, a1, n1, p1, a2, n2, p2, rfl, hd, hl1, hl2, hc3, hk3, o1, o2, hap⟩)
    have c1' := (hk3.cell (a := ⟨tb, 1, none⟩) htl (by simp; exact HG.out.tw.t1.2.1)).trans c1
    have htl3 := Nat.lt_of_lt_of_le htl hk3.size
    have HD := Lib.hid (rdue_s hd hl1 hl2 w3 (HG.out.tw.R.keep hk3 (by simp; exact HG.out.tw.t2.2.1) (fun g hg hm => by simp at hm; exact HG.out.tw.t2.2.2.2 (hm ▸ hg))) hT HT.out.tries)
    have HDU := Lib.hid (fun (w4 : World) h4 k4 => HG.out.due (w4 := w4) hd hc3 hk3 o1 o2 hap h4 k4)
    have HFW := Lib.hid hd.few
    have hT1 : n1 ≤ 1000 := by have := HFW.out; omega
    have hT2 : n2 ≤ 1000 := by have := HFW.out; omega
    have HTL := Lib.hid (show T'.length = T.length from hd.len)
    have HL1 := Lib.hid hl1
    have HL2 := Lib.hid hl2
    clear hd hc3 hk3 o1 o2 hap hl1 hl2 c0 c1 HA HFW
    go_wp2_with fail
    (refine HD.out.mono ?_; rintro e w4 ⟨b1, p3, b2, p4, rfl, hr4, hk4, r1, r2⟩)
    have HDL := Lib.hid (HDU.out w4 hr4 hk4)
    have HS1 := Lib.hid (rsame_n HL1.out w4 HDL.out.2.1 r1 hT1)
    have HS2 := Lib.hid (fun (w5 : World) (b5 : Below w4.heap.size w4 w5) => rsame_n HL2.out w5 (owns_keep HDL.out.2.2 (Keep.of_below b5 []) (by simp)) (owns_keep r2 (Keep.of_below b5 []) (by simp)) hT2)
    have HDL4 := Lib.hid HDL.out.1
    clear hr4 hk4 r1 r2 HDL HDU HD c1' htl3
    go_wp2_with fail
    (refine HS1.out.mono ?_; rintro e w5 ⟨rfl, b5⟩)
    have HS2' := Lib.hid (HS2.out w5 b5)
    have HDL5 := Lib.hid (HDL4.out.below b5)
    clear b5 HS1 HS2 HDL4
    go_wp2_with fail
    (refine HS2'.out.mono ?_; rintro e w6 ⟨rfl, b6⟩)
    have HDL6 := Lib.hid (HDL5.out.below b6)
    clear b6 HS2' HDL5
    obtain ⟨i0, hi0, hz0, hz1, hz2⟩ := info_parts call_info
    have HI0 := Lib.hid hi0
    have HZ0 := Lib.hid hz0
    have HZ1 := Lib.hid hz1
    have HZ2 := Lib.hid hz2
    clear hi0 hz0 hz1 hz2
    go_wp2_with fail
    go_loopw [22] (fun i wr => ∃ k : Nat, k ≤ n1 ∧ i = .int .i64 (k : Int) ∧ DueL w W wr B tb hn gm rb cap ao T' C now1 a1 n1 p1 a2 n2 p2) (fun i _ => n1 - (intOf i).toNat)
    case atStart => exact ⟨0, by omega, rfl, HDL6.out⟩
    case round =>
      clear HDL6
      obtain ⟨j, hj, rfl, hdl⟩ := hrel
      have HDL7 := Lib.hid hdl
      by_cases hlt : j < n1
      · obtain ⟨g, rfl, hle, hfr, hcs⟩ := hdl.at5 hlt
        obtain ⟨z0, hz0'⟩ := hcs 0 (by omega); obtain ⟨z1, hz1'⟩ := hcs 1 (by omega); obtain ⟨z2, hz2'⟩ := hcs 2 (by omega); obtain ⟨z3, hz3'⟩ := hcs 3 (by omega); obtain ⟨z4, hz4'⟩ := hcs 4 (by omega)
        have f0 := hfr (j * 5); have f1 := hfr (j * 5 + 1); have f2 := hfr (j * 5 + 2); have f3 := hfr (j * 5 + 3); have f4 := hfr (j * 5 + 4)
        simp only [Nat.add_zero] at hz0'
        clear hcs hfr hdl
        have HDL9 := Lib.hid (((((HDL7.out.put (j * 5) (by omega) (.int .u64 0)).put (j * 5 + 1) (by omega) (.int .i64 0)).put (j * 5 + 2) (by omega) (.int .i64 0)).put (j * 5 + 3) (by omega) (.int .i64 0)).put (j * 5 + 4) (by omega) (.int .i64 0))
        clear HDL7
        go_wp2_with fail
        go_roundw
        case rel => exact ⟨j + 1, by omega, by go_num, HDL9.out⟩
        case measure => simp [intOf]; omega
      · obtain rfl : j = n1 := by omega
        obtain ⟨xs, hown⟩ := HDL7.out.o1
        have HOWN := Lib.hid hown
        have hle := HDL7.out.le
        clear hown hdl
        go_wp2_with (at_builtin; refine wpList_append_own_at _ rfl (.tmp 167) (.tmp 170) 50 rfl W.heap.size 70 i0 zpk 5 40 Try.underlying50 HI0.out HZ0.out HZ1.out HZ2.out rfl (by omega) _ j xs rfl (HOWN.out.alloc _) ⟨wr.heap.size, 0, none⟩ 2 2 [.int .u64 0, .int .i64 0, .int .i64 0, .int .i64 0, .int .i64 0, .int .u64 0, .int .i64 0, .int .i64 0, .int .i64 0, .int .i64 0] rfl rfl (World.news_of_block (cs := #[.int .u64 0, .int .i64 0, .int .i64 0, .int .i64 0, .int .i64 0, .int .u64 0, .int .i64 0, .int .i64 0, .int .i64 0, .int .i64 0]) (t := 70) (fr := (0, 0)) (heap_alloc_new wr _)) (by simp [Value.oneCell']) (by unfold maxLen; omega) (by omega) (by simp; omega) ?_; intro v8 w7 hown7 hg7 hv7 hob7)
        obtain ⟨a8, c8, rfl, hd8⟩ := HDL7.out.app (below_alloc (Below.refl _ _) _) hown7 hg7 hob7
        have HDL8 := Lib.hid hd8.flip
        clear hd8 hown7 hg7 hv7 hob7 HOWN HDL7
        go_wp2_with fail
        go_loopw [23] (fun i wq => ∃ k : Nat, k ≤ n2 ∧ i = .int .i64 (k : Int) ∧ DueL w W wq B tb hn gm rb cap ao T' C now1 a2 n2 p2 a8 (j + 2) c8) (fun i _ => n2 - (intOf i).toNat)
        case atStart => exact ⟨0, by omega, rfl, HDL8.out⟩
        case round =>
          clear HDL8
          obtain ⟨j, hj, rfl, hdl⟩ := hrel
          have HDL7 := Lib.hid hdl
          by_cases hlt2 : j < n2
          · obtain ⟨g, rfl, hle2, hfr, hcs⟩ := hdl.at5 hlt2
            obtain ⟨z0, hz0'⟩ := hcs 0 (by omega); obtain ⟨z1, hz1'⟩ := hcs 1 (by omega); obtain ⟨z2, hz2'⟩ := hcs 2 (by omega); obtain ⟨z3, hz3'⟩ := hcs 3 (by omega); obtain ⟨z4, hz4'⟩ := hcs 4 (by omega)
            have f0 := hfr (j * 5); have f1 := hfr (j * 5 + 1); have f2 := hfr (j * 5 + 2); have f3 := hfr (j * 5 + 3); have f4 := hfr (j * 5 + 4)
            simp only [Nat.add_zero] at hz0'
            clear hcs hfr hdl
            have HDL9 := Lib.hid (((((HDL7.out.put (j * 5) (by omega) (.int .u64 0)).put (j * 5 + 1) (by omega) (.int .i64 0)).put (j * 5 + 2) (by omega) (.int .i64 0)).put (j * 5 + 3) (by omega) (.int .i64 0)).put (j * 5 + 4) (by omega) (.int .i64 0))
            clear HDL7
            go_wp2_with fail
            go_roundw
            case rel => exact ⟨j + 1, by omega, by go_num, HDL9.out⟩
            case measure => simp [intOf]; omega
          · obtain rfl : j = n2 := by omega
            obtain ⟨xs, hown⟩ := HDL7.out.o1
            have HOWN := Lib.hid hown
            have hle := HDL7.out.le
            clear hown hdl
            go_wp2_with (at_builtin; refine wpList_append_own_at _ rfl (.tmp 182) (.tmp 185) 50 rfl W.heap.size 70 i0 zpk 5 40 Try.underlying50 HI0.out HZ0.out HZ1.out HZ2.out rfl (by omega) _ j xs rfl (HOWN.out.alloc _) ⟨wr.heap.size, 0, none⟩ 2 2 [.int .u64 0, .int .i64 0, .int .i64 0, .int .i64 0, .int .i64 0, .int .u64 0, .int .i64 0, .int .i64 0, .int .i64 0, .int .i64 0] rfl rfl (World.news_of_block (cs := #[.int .u64 0, .int .i64 0, .int .i64 0, .int .i64 0, .int .i64 0, .int .u64 0, .int .i64 0, .int .i64 0, .int .i64 0, .int .i64 0]) (t := 70) (fr := (0, 0)) (heap_alloc_new wr _)) (by simp [Value.oneCell']) (by unfold maxLen; omega) (by omega) (by simp; omega) ?_; intro v9 w9 hown7 hg7 hv7 hob7)
            obtain ⟨a9, c9, rfl, hd8⟩ := HDL7.out.app (below_alloc (Below.refl _ _) _) hown7 hg7 hob7
            have HDL8 := Lib.hid hd8.flip
            clear hd8 hown7 hg7 hv7 hob7 HOWN HDL7
            go_wp2_with fail
            go_ret
            exact ⟨rfl, ⟨gm, rb, cap, ao, T', C, now1, HDL8.out.tw, by have := HTL.out; omega⟩, HDL8.out.bel⟩
end
end Go.Proofs.Ytjhdlohcjodgjaa
