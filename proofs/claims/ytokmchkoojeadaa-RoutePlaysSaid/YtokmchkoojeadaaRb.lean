/- The document's Node, Between; SamePeers; its table, Own. -/
import Derived.Test.YtokmchkoojeadaaAw
import Derived.BigQuiet
namespace Go.Proofs.Ytokmchkoojeadaa
open Go.RowKit Go.Sort
set_option linter.unusedVariables false
set_option linter.unusedSimpArgs false
set_option maxRecDepth 100000
theorem btw_iff (ah al xh xl bh bl : Int) : btw ah al xh xl bh bl = true ↔ (ah < bh ∨ ah = bh ∧ al < bl) ∧ ((ah < xh ∨ ah = xh ∧ al < xl) ∧ (xh < bh ∨ xh = bh ∧ xl < bl)) ∨ ¬ (ah < bh ∨ ah = bh ∧ al < bl) ∧ ((ah < xh ∨ ah = xh ∧ al < xl) ∨ (xh < bh ∨ xh = bh ∧ xl < bl)) := by
  unfold btw
  by_cases h : ls ah al bh bl = true
  · rw [if_pos h]; rw [ls_iff] at h; simp only [Bool.and_eq_true, ls_iff]
    constructor
    · intro hh; exact .inl ⟨h, hh⟩
    · rintro (⟨_, hh⟩ | ⟨hn, _⟩)
      · exact hh
      · exact absurd h hn
  · rw [if_neg h]; rw [ls_iff] at h; simp only [Bool.or_eq_true, ls_iff]
    constructor
    · intro hh; exact .inr ⟨h, hh⟩
    · rintro (⟨hn, _⟩ | ⟨_, hh⟩)
      · exact absurd hn h
      · exact hh
theorem btw_ax {ah al bh bl : Int} : btw ah al ah al bh bl = false := by rw [← Bool.not_eq_true, btw_iff]; omega
theorem btw_xb {ah al bh bl : Int} : btw ah al bh bl bh bl = false := by rw [← Bool.not_eq_true, btw_iff]; omega
theorem btw_ab {ah al xh xl : Int} (h : ¬ (xh = ah ∧ xl = al)) : btw ah al xh xl ah al = true := by rw [btw_iff]; omega
theorem beq_no {a b c d : Int} (h : ¬ (a = c ∧ b = d)) : (a == c && b == d) = false := by
  by_cases h1 : a = c
  · have : ¬ b = d := fun e => h ⟨h1, e⟩
    simp [this]
  · simp [h1]
set_option maxHeartbeats 4000000 in
/-- the document's answer -/
theorem rbetween_any (ah al xh xl bh bl : Int) : Ret 36 #[pos ah al, pos xh xl, pos bh bl] (.returned (.bool (btw ah al xh xl bh bl))) := by
  intro w
  have EQ := eql_pos
  have T0 := Lib.hid (three_is w ah al xh xl bh bl)
  have B0 := Lib.hid (three_below w ah al xh xl bh bl)
  by_cases e1 : xh = ah ∧ xl = al
  · obtain ⟨rfl, rfl⟩ := e1
    rw [btw_ax]
    have q1 : (xh == xh && xl == xl) = true := by simp
    go_enter Try.func36, Try.ntmps36
    go_upto_region 1 with (fail)
    have t0 := T0.out
    have b0 := B0.out
    change Code.wp _ _ _ _ (three w xh xl xh xl bh bl)
    generalize three w xh xl xh xl bh bl = w1 at *
    obtain ⟨c0, c1, c2, c3, c4, c5, _⟩ := t0
    go_wp2_with fail
    go_ret
    exact ⟨rfl, b0⟩
  by_cases e2 : xh = bh ∧ xl = bl
  · obtain ⟨rfl, rfl⟩ := e2
    rw [btw_xb]
    have q1 := beq_no e1
    have q2 : (xh == xh && xl == xl) = true := by simp
    clear e1
    go_enter Try.func36, Try.ntmps36
    go_upto_region 1 with (fail)
    have t0 := T0.out
    have b0 := B0.out
    change Code.wp _ _ _ _ (three w ah al xh xl xh xl)
    generalize three w ah al xh xl xh xl = w1 at *
    obtain ⟨c0, c1, c2, c3, c4, c5, _⟩ := t0
    go_wp2_with fail
    go_ret
    exact ⟨rfl, b0⟩
  by_cases e3 : ah = bh ∧ al = bl
  · obtain ⟨rfl, rfl⟩ := e3
    rw [btw_ab e1]
    have q1 := beq_no e1
    have q2 : (ah == ah && al == al) = true := by simp
    clear e1 e2
    go_enter Try.func36, Try.ntmps36
    go_upto_region 1 with (fail)
    have t0 := T0.out
    have b0 := B0.out
    change Code.wp _ _ _ _ (three w ah al xh xl ah al)
    generalize three w ah al xh xl ah al = w1 at *
    obtain ⟨c0, c1, c2, c3, c4, c5, _⟩ := t0
    go_wp2_with fail
    go_ret
    exact ⟨rfl, b0⟩
  have q1 := beq_no e1
  have q2 := beq_no e2
  have q3 := beq_no e3
  clear e1 e2 e3
  have C1 := rless_any ah al bh bl
  have C2 := rless_any ah al xh xl
  have C3 := rless_any xh xl bh bl
  unfold btw
  generalize ls ah al bh bl = p at *
  generalize ls ah al xh xl = q at *
  generalize ls xh xl bh bl = r at *
  have C1 := Lib.hid C1; have C2 := Lib.hid C2; have C3 := Lib.hid C3
  cases p <;> cases q
  all_goals
    go_enter Try.func36, Try.ntmps36
    go_upto_region 1 with (fail)
    have t0 := T0.out
    have b0 := B0.out
    change Code.wp _ _ _ _ (three w ah al xh xl bh bl)
    generalize three w ah al xh xl bh bl = w1 at *
    obtain ⟨c0, c1, c2, c3, c4, c5, _⟩ := t0
    go_wp2_with fail
    refine (C2.out _).mono ?_; rintro e w2 ⟨rfl, b2⟩
    have t2 := T0.out.below b2
    have BB := Lib.hid (below_next b0 b2)
    clear c0 c1 c2 c3 c4 c5 T0 B0 b0 b2
    have T2 := Lib.hid t2
    obtain ⟨c0, c1, c2, c3, c4, c5, _⟩ := t2
    go_wp2_with fail
    refine (C3.out _).mono ?_; rintro e w3 ⟨rfl, b3⟩
    have t3 := T2.out.below b3
    have BB := Lib.hid (below_next BB.out b3)
    clear c0 c1 c2 c3 c4 c5 T2 b3
    obtain ⟨c0, c1, c2, c3, c4, c5, _⟩ := t3
    go_wp2_with fail
    refine (C1.out _).mono ?_; rintro e w4 ⟨rfl, b4⟩
    have BB := Lib.hid (below_next BB.out b4)
    clear b4 c0 c1 c2 c3 c4 c5
    go_wp2_with fail
    go_ret
    exact ⟨by simp, BB.out⟩
set_option maxHeartbeats 400000 in
theorem rnode_any (a : Int) : Still 24 #[.int .i64 a] (.returned (.bool (isN a))) := by
  intro w
  unfold isN
  by_cases h : 0 ≤ a
  · rw [decide_eq_true h, Bool.true_and]
    go_enter Try.func24, Try.ntmps24
    go_wp2_with fail
    go_ret
    exact ⟨by simp, rfl⟩
  · rw [decide_eq_false h, Bool.false_and]
    go_enter Try.func24, Try.ntmps24
    go_wp2_with fail
    go_ret
    exact ⟨by simp, rfl⟩
set_option maxHeartbeats 2000000 in
theorem samepeers_any {p q : Option Addr} {m pc qc : Nat} {M : List Pe} (w : World) (hp : PsRd w p M) (hq : PsRd w q M) (hm : M.length = m) (hle : m ≤ 140737488355328) :
    Calls Try.prog 12 #[.slice p m pc, .slice q m qc] w fun e w' => e = .returned (.bool true) ∧ Below w.heap.size w w' := by
  have HP := Lib.hid hp; have HQ := Lib.hid hq; have HM := Lib.hid hm
  clear hp hq hm
  go_enter Try.func12, Try.ntmps12
  go_wp2_with fail
  go_loopw [5] (fun v5 wr => ∃ j : Nat, v5 = .int .i64 (j : Int) ∧ j ≤ m ∧ Hid (Below w.heap.size w wr)) (fun v5 _ => m - (intOf v5).toNat)
  case atStart => exact ⟨0, rfl, Nat.zero_le _, Lib.hid (Below.refl _ _)⟩
  case round =>
    obtain ⟨j, rfl, hj, HBB⟩ := hrel
    have hj0 : (0 : Int) ≤ (j : Int) := by omega
    have HP := Lib.hid (HP.out.below HBB.out); have HQ := Lib.hid (HQ.out.below HBB.out)
    by_cases hlt : j < m
    · have hji : (j : Int) < (m : Int) := by omega
      obtain ⟨y, hy⟩ : ∃ y, M[j]? = some y := ⟨_, List.getElem?_eq_getElem (by rw [HM.out]; exact hlt)⟩
      obtain ⟨g1, o1, rfl, l1, r1⟩ := HP.out j y hy
      obtain ⟨g2, o2, rfl, l2, r2⟩ := HQ.out j y hy
      have e0 := cell_regrown (r1 0 (by omega)); have e1 := cell_regrown (r1 1 (by omega)); have e2 := cell_regrown (r1 2 (by omega)); have f0 := cell_regrown (r2 0 (by omega)); have f1 := cell_regrown (r2 1 (by omega)); have f2 := cell_regrown (r2 2 (by omega))
      simp only [List.getElem?_cons_succ, List.getElem?_cons_zero, Nat.add_zero] at e0 e1 e2 f0 f1 f2
      clear r1 r2 l1 l2 hy
      go_upto_region 6 with (fail)
      refine wp_region_quiet_below (by kernel_rfl) (by kernel_rfl) ?_
      repeat (go_big_quiet_step (fail))
      refine wpQuiet_nil ?_
      intro _ hw'
      obtain ⟨⟨dq, osq⟩, hw''⟩ := hw'
      subst hw''
      have lk := below_regrown wr dq osq
      go_wp2_with fail
      go_roundw
      case rel => exact ⟨j + 1, by go_num, by omega, Lib.hid (below_next HBB.out lk)⟩
      case measure => simp [intOf]; omega
    · obtain rfl : m = j := by omega
      go_wp2_with fail
      go_ret
      exact ⟨rfl, HBB.out⟩
/-- the document's table: its row -/
abbrev DbR (w : World) (b : Nat) (s p c : Pe) (sv : Value) : Prop := w.heap[b]? = some (.cells (rowT s p c sv) 72 (0, 0))
/-- the document's table with its fingers, in blocks from B on -/
structure DbW (w : World) (B b : Nat) (ao : Option Addr) (cap : Nat) (s p c : Pe) (F : List Pe) : Prop where
  row : DbR w b s p c (.slice ao F.length cap)
  base : B ≤ b
  own : w.ownsRow B 26 3 (.slice ao F.length cap) F.length (fl Pe.list F)
  ne : b ∉ blk ao
section
variable {w w' : World} {B b cap : Nat} {ao : Option Addr} {s p c : Pe} {F : List Pe} {sv : Value}
theorem DbR.at_ (h : DbR w b s p c sv) (i : Nat) : w.cell? ⟨b, i, none⟩ = (rowT s p c sv)[i]? := cell_of_row w b i _ _ (0, 0) h
theorem DbR.lt (h : DbR w b s p c sv) : b < w.heap.size := (Array.getElem?_eq_some_iff.1 h).1
theorem DbR.below (h : DbR w b s p c sv) (k : Below w.heap.size w w') : DbR w' b s p c sv := row_keep h (Keep.of_below k []) (by simp)
theorem DbW.blocks (h : DbW w B b ao cap s p c F) : ∀ g ∈ tbB b ao, B ≤ g ∧ g < w.heap.size := fun g hg => by
  rcases List.mem_cons.1 hg with rfl | hg
  · exact ⟨h.base, (Array.getElem?_eq_some_iff.1 h.row).1⟩
  · exact owns_blk h.own g hg
theorem DbW.keep {U : List Nat} (h : DbW w B b ao cap s p c F) (k : Keep U w w') (hU : ∀ g ∈ tbB b ao, g ∉ U) : DbW w' B b ao cap s p c F :=
  ⟨row_keep h.row k (hU b (List.mem_cons_self ..)), h.base, owns_keep h.own k (blk_own _ _ _ fun g hg => hU g (List.mem_cons_of_mem _ hg)), h.ne⟩
theorem DbW.below (h : DbW w B b ao cap s p c F) (k : Below w.heap.size w w') : DbW w' B b ao cap s p c F := h.keep (Keep.of_below k []) (by simp)
end
/-- is a position own to the node, as the document says -/
def dOwn (s p c : Pe) (h l : Int) : Bool := c.n == s.n || ((h == s.h && l == s.l) || btw p.h p.l h l s.h s.l)
theorem own_doc (s p c : Pe) (h l : Int) : own s (nbP s p c) (nbC s c) h l = dOwn s p c h l := by
  unfold own dOwn
  cases hc : (c.n == s.n) with
  | true => rw [(nb_own (p := p) hc).1, (nb_own (p := p) hc).2]; unfold aln; simp
  | false => rw [(nb_two (p := p) hc).1, (nb_two (p := p) hc).2]; unfold aln; rw [hc]; rfl
set_option maxHeartbeats 4000000 in
theorem down_any {b : Nat} {s p c : Pe} {sv : Value} (hh hl : Int) (w : World) (h : DbR w b s p c sv) : Calls Try.prog 29 #[.pointer (some ⟨b, 0, none⟩), pos hh hl] w fun e w' => e = .returned (.bool (dOwn s p c hh hl)) ∧ Below w.heap.size w w' := by
  have B1 := Lib.hid (below_alloc (Below.refl w.heap.size w) (.cells #[.int .u64 hh, .int .u64 hl] 24))
  have H1 := Lib.hid (h.below B1.out)
  have X0 := Lib.hid (heap_alloc_new w (.cells #[.int .u64 hh, .int .u64 hl] 24))
  have CB := Lib.hid (fun w1 d os => Calls.regrown_of (rbetween_any p.h p.l hh hl s.h s.l (grow (redrawn w1 d) os)))
  have EP := Lib.hid (eql_pos hh hl s.h s.l)
  clear h
  unfold dOwn
  generalize hpq : (hh == s.h && hl == s.l) = pq at *
  generalize hal : (c.n == s.n) = al at *
  generalize btw p.h p.l hh hl s.h s.l = bt at *
  cases al <;> cases pq
  all_goals
    go_enter Try.func29, Try.ntmps29
    go_upto_region 1 with (fail)
    have HBS := Lib.hid B1.out.size
    obtain ⟨x, hx⟩ : ∃ x, x = w.heap.size := ⟨_, rfl⟩
    rw [← hx] at X0 ⊢
    generalize hw1 : w.alloc (.cells #[.int .u64 hh, .int .u64 hl] 24) = w1 at *
    have x0 := cell_regrown (cell_of_row w1 x 0 _ _ (0, 0) X0.out); have x1 := cell_regrown (cell_of_row w1 x 1 _ _ (0, 0) X0.out)
    have c0 := H1.out.at_ 0; have c1 := H1.out.at_ 1; have c2 := H1.out.at_ 2; have c4 := H1.out.at_ 4; have c5 := H1.out.at_ 5; have c6 := H1.out.at_ 6
    simp only [rowT, List.getElem?_toArray, List.getElem?_cons_succ, List.getElem?_cons_zero] at c0 c1 c2 c4 c5 c6
    replace c0 := cell_regrown c0; replace c1 := cell_regrown c1; replace c2 := cell_regrown c2; replace c4 := cell_regrown c4; replace c5 := cell_regrown c5; replace c6 := cell_regrown c6
    have CB2 := Lib.hid (CB.out w1)
    have HX := Lib.hid hx
    have EQ := EP.out
    have H1 := Lib.hid H1.out
    clear hw1 hx
    refine wp_region_quiet_below (by kernel_rfl) (by kernel_rfl) ?_
    repeat (go_big_quiet_step (fail))
    refine wpQuiet_nil ?_
    intro _ hw'
    obtain ⟨⟨dq, osq⟩, hw''⟩ := hw'
    subst hw''
    have lk := below_regrown w1 dq osq
    have X2 := Lib.hid (row_keep X0.out (Keep.of_below lk []) (by simp)); have H2 := Lib.hid (H1.out.below lk)
    clear x0 x1 c0 c1 c2 c4 c5 c6 EQ X0 H1
    generalize grow (redrawn w1 dq) osq = w2 at *
    have CB3 := Lib.hid (CB.out w2)
    have x0 := cell_regrown (cell_of_row w2 x 0 _ _ (0, 0) X2.out); have x1 := cell_regrown (cell_of_row w2 x 1 _ _ (0, 0) X2.out)
    have c1 := H2.out.at_ 1; have c2 := H2.out.at_ 2; have c4 := H2.out.at_ 4; have c5 := H2.out.at_ 5
    simp only [rowT, List.getElem?_toArray, List.getElem?_cons_succ, List.getElem?_cons_zero] at c1 c2 c4 c5
    replace c1 := cell_regrown c1; replace c2 := cell_regrown c2; replace c4 := cell_regrown c4; replace c5 := cell_regrown c5
    first
    | (go_upto_region 3 with (fail)
       refine wp_region_quiet_below (by kernel_rfl) (by kernel_rfl) ?_
       repeat (go_big_quiet_step (first | exact CB3.out _ _))
       refine wpQuiet_nil ?_
       intro _ hw'
       obtain ⟨⟨dr, osr⟩, hw''⟩ := hw'
       subst hw''
       have lk2 := below_regrown w2 dr osr
       clear x0 x1 c1 c2 c4 c5
       generalize grow (redrawn w2 dr) osr = w3 at *
       go_wp2_with fail
       go_ret
       exact ⟨by simp, below_next (B1.out.trans (lk.mono HBS.out)) lk2⟩)
    | (go_wp2_with fail
       go_ret
       exact ⟨by simp, B1.out.trans (lk.mono HBS.out)⟩)
end Go.Proofs.Ytokmchkoojeadaa
