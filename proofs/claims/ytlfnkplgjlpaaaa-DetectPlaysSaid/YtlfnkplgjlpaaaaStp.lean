/- A step of both. -/
import Derived.Test.YtlfnkplgjlpaaaaTw
import Derived.Deep.CutRange
namespace Go.Proofs.Ytlfnkplgjlpaaaa
open Go.RowKit Go.Sort
set_option linter.unusedVariables false

section
variable {W w w' : World} {B tb hn hb guess now : Nat} {Bs Cs : List Nat} {S : List Nd}
theorem TxW.aside {X : List (Nat × Obj)} {U : List Nat} {Sa Sb : List Nd} (h : TxW W w B tb hn hb Bs Cs Sa Sb guess now X) (k : Keep U w w') (hA : ∀ q ∈ U, q ∉ Bs ∧ q ∉ Cs ∧ q ≠ tb ∧ B ≤ q) : TxW W w' B tb hn hb Bs Cs Sa Sb guess now [] := by
  have hB : B ≤ w.heap.size := by have := h.tB; have := h.tlt; omega
  exact ⟨h.det.keep k fun q hq hm => (hA q hm).1 hq, h.rf.keep k fun q hq hm => (hA q hm).2.1 hq, h.apart, (k.block tb h.tlt fun hm => (hA tb hm).2.2.1 rfl).trans h.row, h.tA, h.tC, h.tB, h.bel.trans (k.below hB fun q hq => (hA q hq).2.2.2), h.nb, by simp⟩
theorem owns_fr {e : TypeId} {z n cap g : Nat} {xs : List Value} (ho : w.ownsRow B e z (.slice (some ⟨g, 0, none⟩) n cap) n xs) (q : Nat) : w.frozen? ⟨g, q, none⟩ = false := by
  rcases ho.2 with ⟨h2, h3⟩ | ⟨g, cap', cur, h2, hb, hg, h3, h4, h5, h6⟩
  · cases h2
  · cases h2
    exact frozen_of_row w g q cur _ hg
/-- the cells that a drawn region reads -/
theorem held_tx {Sa Sb : List Nd} {bx : Nat} {kind p x : Int} {raw : Bool} (h : Tx W w B tb hn hb Sa Sb guess now [(bx, .cells #[.int .i64 kind, .int .i64 p, .int .i64 x, .bool raw] 37 (0, 0))]) :
    w.cell? ⟨tb, 0, none⟩ = some (.pointer (some ⟨hn, 0, none⟩)) ∧ w.cell? ⟨tb, 1, none⟩ = some (.pointer (some ⟨hb, 0, none⟩)) ∧ w.cell? ⟨bx, 1, none⟩ = some (.int .i64 p) := ⟨h.at_.1, h.at_.2.1, cell_of_row _ _ 1 _ _ (0, 0) h.ex_at⟩
set_option maxRecDepth 100000 in
set_option maxHeartbeats 16000000 in
theorem step_any (kind p x : Int) (raw : Bool) (hp : (Lit.int .i64 p).wf = true) (hx : (Lit.int .i64 x).wf = true) (w : World) (h : Tx W w B tb hn hb S S guess now []) :
    Calls Try.prog 10 #[.pointer (some ⟨tb, 0, none⟩), .agg #[.int .i64 kind, .int .i64 p, .int .i64 x, .bool raw]] w fun e w' => ∃ S' now', e = .returned (.bool true) ∧ Tx W w' B tb hn hb S' S' guess now' [] := by
  obtain ⟨c0, c1, c2, f2, htl⟩ := h.at_
  have hnb : (now : Int) ≤ 2199023255552 := by obtain ⟨_, _, h⟩ := h; have := h.nb; omega
  have hxb := i64_hi hx
  have b0 := below_alloc (Below.refl w.heap.size w) (.cells #[.int .i64 kind, .int .i64 p, .int .i64 x, .bool raw] 37)
  have hrow := heap_alloc_new w (.cells #[.int .i64 kind, .int .i64 p, .int .i64 x, .bool raw] 37)
  have HROW := Lib.hid hrow
  have T0 := Lib.hid (h.more (Nat.le_refl _) b0 hrow)
  clear h b0 hx
  go_enter Try.func10, Try.ntmps10
  go_upto_region 2 with (fail)
  generalize hw0 : w.alloc (.cells #[.int .i64 kind, .int .i64 p, .int .i64 x, .bool raw] 37) = w0 at *
  obtain ⟨bx, hbx⟩ : ∃ bx, w.heap.size = bx := ⟨_, rfl⟩
  rw [hbx] at HROW T0 ⊢
  have q0 := cell_of_row _ _ 0 _ _ (0, 0) HROW.out
  have q1 := cell_of_row _ _ 1 _ _ (0, 0) HROW.out
  have q3 := cell_of_row _ _ 3 _ _ (0, 0) HROW.out
  have hbl : bx < w0.heap.size := (Array.getElem?_eq_some_iff.1 HROW.out).1
  have htb : tb ≠ bx := by omega
  simp only [List.getElem?_toArray, List.getElem?_cons_zero, List.getElem?_cons_succ] at q0 q1 q3
  clear hw0 hbx c0 c1 c2 f2 htl
  obtain ⟨c0, c1, c2, f2, htl⟩ := T0.out.at_
  go_cut [31] from 12 to 31 (fun s wx => s = .bool (!raw && (decide (0 ≤ x) && (decide (x < 1099511627776) && decide ((now : Int) < 1099511627776)))) ∧ w0 = wx)
  case first =>
    as_aux_lemma =>
      cases raw
      · by_cases h1 : 0 ≤ x
        · by_cases h2 : x < 1099511627776
          · have e1 : decide (0 ≤ x) = true := by simpa using h1
            have e2 : decide (x < 1099511627776) = true := by simpa using h2
            go_wp2_with fail
            go_meet
            case rel => exact ⟨by simp only [e1, e2, Bool.not_false, Bool.true_and], rfl⟩
          · have e1 : decide (0 ≤ x) = true := by simpa using h1
            have e2 : decide (x < 1099511627776) = false := by simpa using h2
            go_wp2_with fail
            go_meet
            case rel => exact ⟨by simp only [e1, e2, Bool.not_false, Bool.true_and, Bool.false_and], rfl⟩
        · have e1 : decide (0 ≤ x) = false := by simpa using h1
          go_wp2_with fail
          go_meet
          case rel => exact ⟨by simp only [e1, Bool.not_false, Bool.true_and, Bool.false_and], rfl⟩
      · go_wp2_with fail
        go_meet
        case rel => exact ⟨by simp, rfl⟩
  case rest =>
    obtain ⟨rfl, rfl⟩ := hcut
    obtain ⟨cb, hcb⟩ : ∃ cb, (!raw && (decide (0 ≤ x) && (decide (x < 1099511627776) && decide ((now : Int) < 1099511627776)))) = cb := ⟨_, rfl⟩
    rw [hcb]
    go_upto_if 31 with (fail)
    go_cut [5] from 12 to 44 (fun s wx => ∃ (y : Int) (now2 : Nat), s = .int .i64 y ∧ Tx W wx B tb hn hb S S guess now2 [(bx, .cells #[.int .i64 kind, .int .i64 p, .int .i64 x, .bool raw] 37 (0, 0))])
    case first =>
      as_aux_lemma =>
        cases cb
        · go_wp2_with fail
          go_meet
          case rel => exact ⟨x, now, rfl, T0.out⟩
        · simp only [Bool.and_eq_true, Bool.not_eq_true', decide_eq_true_eq] at hcb
          obtain ⟨hr, h1, h2, h3⟩ := hcb
          obtain ⟨xn, rfl⟩ : ∃ xn : Nat, x = xn := ⟨x.toNat, by omega⟩
          obtain ⟨n2, hn2⟩ : ∃ n2, now + xn = n2 := ⟨_, rfl⟩
          have hsum : (now : Int) + (xn : Int) = (n2 : Int) := by omega
          have T1 := Lib.hid (T0.out.setNow n2 (by omega))
          go_wp2_with fail
          go_meet
          case rel => exact ⟨_, n2, rfl, T1.out⟩
    case rest =>
      obtain ⟨y, now2, rfl, hT2⟩ := hcut
      have T2 := Lib.hid hT2
      clear T0 HROW hT2 q0 q1 q3 c0 c1 c2 f2 htl hbl hcb
      have q0 := cell_of_row _ _ 0 _ _ (0, 0) T2.out.ex_at
      simp only [List.getElem?_toArray, List.getElem?_cons_zero] at q0
      have H2 := held_tx T2.out
      have H2d := held_tx (T2.out.below (Below.refl _ _).drew)
      obtain ⟨c0, c1, q1⟩ := H2
      by_cases k1 : kind = 1
      · subst k1
        as_aux_lemma =>
          go_wp2_with fail
          go_region_held3 (fun w' => w'.cell? ⟨tb, 0, none⟩ = some (.pointer (some ⟨hn, 0, none⟩)) ∧ w'.cell? ⟨tb, 1, none⟩ = some (.pointer (some ⟨hb, 0, none⟩)) ∧ w'.cell? ⟨bx, 1, none⟩ = some (.int .i64 p))
            (first | with_reducible assumption | exact held_tx (T2.out.below (Below.refl _ _).drew))
            (first
              | (go_at_call 12; refine (watchA p y _ (T2.out.below (Below.refl _ _).drew)).mono ?_; rintro e w3 ⟨rfl, h3⟩; have H3 := held_tx h3; have T3 := Lib.hid h3; clear h3)
              | (go_at_call 24; refine (watchC p y _ T3.out).mono ?_; rintro e w4 ⟨rfl, h4⟩; have H4 := held_tx h4; have T4 := Lib.hid h4; clear h4))
          go_wp2_with fail
          go_ret
          exact ⟨_, _, rfl, T4.out.drop⟩
      by_cases k2 : kind = 2
      · subst k2
        as_aux_lemma =>
          go_wp2_with fail
          go_region_held3 (fun w' => w'.cell? ⟨tb, 0, none⟩ = some (.pointer (some ⟨hn, 0, none⟩)) ∧ w'.cell? ⟨tb, 1, none⟩ = some (.pointer (some ⟨hb, 0, none⟩)) ∧ w'.cell? ⟨bx, 1, none⟩ = some (.int .i64 p))
            (first | with_reducible assumption | exact held_tx (T2.out.below (Below.refl _ _).drew))
            (first
              | (go_at_call 16; refine (leaveA p hp _ (T2.out.below (Below.refl _ _).drew)).mono ?_; rintro e w3 ⟨rfl, h3⟩; have H3 := held_tx h3; have T3 := Lib.hid h3; clear h3)
              | (go_at_call 25; refine (leaveC p _ T3.out).mono ?_; rintro e w4 ⟨rfl, h4⟩; have H4 := held_tx h4; have T4 := Lib.hid h4; clear h4))
          go_wp2_with fail
          go_ret
          exact ⟨_, _, rfl, T4.out.drop⟩
      by_cases k3 : kind = 3
      · subst k3
        as_aux_lemma =>
          go_wp2_with fail
          go_region_held3 (fun w' => w'.cell? ⟨tb, 0, none⟩ = some (.pointer (some ⟨hn, 0, none⟩)) ∧ w'.cell? ⟨tb, 1, none⟩ = some (.pointer (some ⟨hb, 0, none⟩)) ∧ w'.cell? ⟨bx, 1, none⟩ = some (.int .i64 p))
            (first | with_reducible assumption | exact held_tx (T2.out.below (Below.refl _ _).drew))
            (first
              | (go_at_call 14; refine (beatA p y hp _ (T2.out.below (Below.refl _ _).drew)).mono ?_; rintro e w3 ⟨rfl, h3⟩; have H3 := held_tx h3; have T3 := Lib.hid h3; clear h3)
              | (go_at_call 26; refine (beatC p y _ T3.out).mono ?_; rintro e w4 ⟨rfl, h4⟩; have H4 := held_tx h4; have T4 := Lib.hid h4; clear h4))
          go_wp2_with fail
          go_ret
          exact ⟨_, _, rfl, T4.out.drop⟩
      by_cases k4 : kind = 4
      · subst k4
        as_aux_lemma =>
          obtain ⟨i0, hi0, z0, z1, z2⟩ := info_parts int_info
          have HI := Lib.hid hi0; have HZ0 := Lib.hid z0; have HZ1 := Lib.hid z1; have HZ2 := Lib.hid z2
          have hln := sR_len T2.out y
          clear hi0 z0 z1 z2 H2d hp
          go_wp2_with fail
          refine (susA y _ T2.out).mono ?_; rintro e w3 ⟨v3, rfl, o3, b3⟩
          have T3 := Lib.hid (T2.out.below b3)
          have O3 := Lib.hid o3; have B3 := Lib.hid b3
          have d1 := (held_tx T3.out).2.1
          clear o3 b3 c0 c1 q0 q1
          go_wp2_with fail
          refine (susC y _ T3.out).mono ?_; rintro e w4 ⟨v4, rfl, o4, b4⟩
          have o34 := owns_keep O3.out (Keep.of_below b4 []) (by simp)
          have B4 := Lib.hid (below_next B3.out b4)
          have SI := Lib.hid (sameInts_yes _ v3 v4 w4 o34 o4 (by omega))
          have O4 := Lib.hid o34
          clear o4 b4 o34 d1 B3 O3
          go_wp2_with fail
          refine SI.out.mono ?_; rintro e w5 ⟨rfl, b5⟩
          have o5 := owns_keep O4.out (Keep.of_below b5 []) (by simp)
          have B5 := Lib.hid (below_next B4.out b5)
          clear SI O4 B4 b5
          obtain ⟨ac, cc, rfl, hcc1, hcc2⟩ := owns_shape o5
          generalize hxs : (sR S y).map encZ = xs at *
          generalize hms : (sR S y).length = m at *
          clear hxs hms
          have O5 := Lib.hid o5
          clear o5
          have hmi : (m : Int) ≤ 12 := by omega
          go_wp2_with fail
          go_loopw [8] (fun v8 wr => ∃ k : Nat, v8 = .int .i64 (k : Int) ∧ k ≤ m ∧ (∃ xs, wr.ownsRow wc.heap.size 3 1 (.slice ac m cc) m xs) ∧ Below wc.heap.size wc wr) (fun v8 _ => m - (intOf v8).toNat)
          case atStart => exact ⟨0, rfl, by omega, ⟨_, O5.out⟩, B5.out⟩
          case round =>
            clear O5 B5 xs
            obtain ⟨k, rfl, hk, ⟨xs, hown⟩, hbl⟩ := hrel
            have HB := Lib.hid hbl; have HO := Lib.hid hown
            by_cases hlt : k < m
            · obtain ⟨g, v, rfl, hg1, hg2, _, hv2, hv3⟩ := owns_cell1 hown k hlt
              have hki : (0 : Int) ≤ (k : Int) := by omega
              have hki2 : (k : Int) < (m : Int) := by omega
              have OP := Lib.hid (owns_put1 hown k hlt (.int .i64 (-1)))
              have BP := Lib.hid (hbl.trans ((Keep.setCell wr ⟨g, k, none⟩ (.int .i64 (-1))).below hbl.size (by simpa using hg2)))
              clear hown hbl
              go_wp2_with fail
              go_roundw
              case rel => exact ⟨k + 1, by go_num, by omega, ⟨_, OP.out⟩, BP.out⟩
              case measure => simp [intOf]; omega
            · obtain rfl : k = m := by omega
              have HBASE := Lib.hid (fun g (hg : (Value.slice ac k cc).ownBlock = some g) => (HO.out.lt g hg).1)
              have hsz := hbl.size
              clear hbl
              go_wp2_with (at_builtin; refine wpList_append_own _ rfl (.tmp 127) (.tmp 128) 39 rfl wc.heap.size 3 i0 (.int .i64 0) 1 8 Try.underlying39 HI.out HZ0.out HZ1.out HZ2.out rfl (by omega) _ k _ rfl (hown.alloc _) ⟨wr.heap.size, 0, none⟩ 2 2 [.int .i64 (-1), .int .i64 (-1)] rfl rfl (World.news_of_block (cs := #[.int .i64 (-1), .int .i64 (-1)]) (t := 3) (fr := (0, 0)) (heap_alloc_new wr _)) (by simp [Value.oneCell']) (by unfold maxLen; omega) (by omega) (by simp; omega) ?_; intro v6 w6 hown6 hg6 hv6)
              have B6 := Lib.hid (below_grown (below_alloc' HB.out HB.out.size (.cells #[.int .i64 (-1), .int .i64 (-1)] 3)) (by simp; omega) hg6 HBASE.out)
              clear hown6 hg6 hv6 hown
              go_wp2_with fail
              go_ret
              exact ⟨_, _, rfl, (T2.out.below B6.out).drop⟩
      by_cases k5 : kind = 5
      · subst k5
        as_aux_lemma =>
          obtain ⟨i0, hi0, z0, z1, z2⟩ := info_parts change_info
          have HI := Lib.hid hi0; have HZ0 := Lib.hid z0; have HZ1 := Lib.hid z1; have HZ2 := Lib.hid z2
          have hln := cR_len T2.out y
          clear hi0 z0 z1 z2 H2d hp
          obtain ⟨Bs, Cs, hX2⟩ := T2.out
          have HWC := Lib.hid hX2.bel
          have hBw : B ≤ wc.heap.size := by have := hX2.tB; have := hX2.tlt; omega
          go_wp2_with fail
          refine (chA y _ hX2).mono ?_; rintro e w3 ⟨v3, rfl, o3, x3, hs3⟩
          have d1 := (held_tx ⟨Bs, Cs, x3⟩).2.1
          have X3 := Lib.hid x3; have O3 := Lib.hid o3
          clear o3 x3 c0 c1 q0 q1
          go_wp2_with fail
          refine (chC y _ X3.out).mono ?_; rintro e w4 ⟨v4, rfl, o4, x4, k4'⟩
          have X4 := Lib.hid x4
          have o34 := owns_keep O3.out k4' (fun g hg hm => by have h1 := (hX2.rf.blocks g hm).2; have h2 := (O3.out.lt g hg).1; omega)
          have hs4 := k4'.size
          have SI := Lib.hid (sameChanges_yes _ v3 v4 w4 o34 o4 (by omega))
          have O4 := Lib.hid o34
          clear o4 o34 d1 O3 X3 x4 k4'
          go_wp2_with fail
          refine SI.out.mono ?_; rintro e w5 ⟨rfl, b5⟩
          have o5 := owns_keep O4.out (Keep.of_below b5 []) (by simp)
          have X5 := Lib.hid (X4.out.below b5)
          have hs5 := b5.size
          clear SI O4 X4 b5
          obtain ⟨ac, cc, rfl, hcc1, hcc2⟩ := owns_shape o5
          generalize hxs : fl chc (cR S y) = xs at *
          generalize hms : (cR S y).length = m at *
          clear hxs hms
          have O5 := Lib.hid o5
          have hnin : ∀ g, (Value.slice ac m cc).ownBlock = some g → g ∉ Bs ∧ g ∉ Cs := fun g hg => ⟨fun hm => by have h1 := (hX2.det.blocks g hm).2; have h2 := (o5.lt g hg).1; omega, fun hm => by have h1 := (hX2.rf.blocks g hm).2; have h2 := (o5.lt g hg).1; omega⟩
          have hmi : (m : Int) ≤ 12 := by omega
          have HN := Lib.hid (show ∀ q ∈ blk ac, q ∉ Bs ∧ q ∉ Cs ∧ q ≠ tb ∧ B ≤ q from fun g hg => by
            cases ac with
            | none => cases hg
            | some a =>
              simp only [blk, List.mem_singleton] at hg
              subst hg
              have h1 := hnin a.block rfl
              have h2 := (o5.lt a.block rfl).1
              have := hX2.tlt
              exact ⟨h1.1, h1.2, by omega, by omega⟩)
          have X5 := Lib.hid (X5.out.aside (Keep.refl [] _) (by simp))
          have hsz5 : wc.heap.size ≤ w5.heap.size := by omega
          clear T2 HWC hX2 o5 hnin hs3 hs4 hs5
          go_wp2_with fail
          go_loopw [11] (fun v11 wr => ∃ k : Nat, v11 = .int .i64 (k : Int) ∧ k ≤ m ∧ (∃ xs, wr.ownsRow wc.heap.size 50 2 (.slice ac m cc) m xs) ∧ TxW W wr B tb hn hb Bs Cs (jR S y) (jR S y) guess now2 [] ∧ wc.heap.size ≤ wr.heap.size) (fun v11 _ => m - (intOf v11).toNat)
          case atStart => exact ⟨0, rfl, by omega, ⟨_, O5.out⟩, X5.out, hsz5⟩
          case round =>
            clear O5 X5 xs hsz5
            obtain ⟨k, rfl, hk, ⟨xs, hown⟩, hx, hsz⟩ := hrel
            have HX := Lib.hid hx; have HO := Lib.hid hown
            clear hx
            by_cases hlt : k < m
            · obtain ⟨g, v, rfl, hg1, hg2, _, hv2⟩ := owns_at hown (k * 2) (by omega)
              obtain ⟨g', v', e', _, _, _, hv2'⟩ := owns_at hown (k * 2 + 1) (by omega)
              cases e'
              have f1 := owns_fr hown (k * 2)
              have f2 := owns_fr hown (k * 2 + 1)
              have hki : (0 : Int) ≤ (k : Int) := by omega
              have hki2 : (k : Int) < (m : Int) := by omega
              have OP := Lib.hid (owns_putq (owns_putq hown (k * 2) (by omega) (.int .i64 (-1))) (k * 2 + 1) (by omega) (.bool false))
              have KP := (Keep.setCell wr ⟨g, k * 2, none⟩ (.int .i64 (-1))).trans (show Keep [g] _ _ from Keep.setCell _ ⟨g, k * 2 + 1, none⟩ (.bool false))
              have XP := Lib.hid (HX.out.aside KP HN.out)
              have SP := Lib.hid (Nat.le_trans hsz KP.size)
              clear hown KP
              go_wp2_with fail
              go_roundw
              case rel => exact ⟨k + 1, by go_num, by omega, ⟨_, OP.out⟩, XP.out, SP.out⟩
              case measure => simp [intOf]; omega
            · obtain rfl : k = m := by omega
              go_wp2_with (at_builtin; refine wpList_append_own _ rfl (.tmp 157) (.tmp 160) 47 rfl wc.heap.size 50 i0 (.agg #[.int .i64 0, .bool false]) 2 16 Try.underlying47 HI.out HZ0.out HZ1.out HZ2.out rfl (by omega) _ k _ rfl (hown.alloc _) ⟨wr.heap.size, 0, none⟩ 2 2 [.int .i64 0, .bool false, .int .i64 0, .bool false] rfl rfl (World.news_of_block (cs := #[.int .i64 0, .bool false, .int .i64 0, .bool false]) (t := 50) (fr := (0, 0)) (heap_alloc_new wr _)) (by simp [Value.oneCell']) (by unfold maxLen; omega) (by omega) (by simp; omega) ?_; intro v6 w6 hown6 hg6 hv6)
              have X6 := Lib.hid ((HX.out.below (below_alloc (Below.refl _ wr) (.cells #[.int .i64 0, .bool false, .int .i64 0, .bool false] 50))).aside (keep_grown hg6) HN.out)
              clear hown6 hg6 hv6 hown
              go_wp2_with fail
              go_ret
              exact ⟨_, _, rfl, ⟨_, _, X6.out⟩⟩
      as_aux_lemma =>
        go_wp2_with fail
        go_ret
        exact ⟨_, _, rfl, T2.out.drop⟩
end
end Go.Proofs.Ytlfnkplgjlpaaaa
