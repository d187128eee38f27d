/- A step of a script: both clocks at once. -/
import Derived.Test.YtkhfbnlmjnbhmaaRefS
import Derived.Test.YtkhfbnlmjnbhmaaDue
namespace Go.Proofs.Ytkhfbnlmjnbhmaa
open Go.RowKit Go.Sort
set_option linter.unusedVariables false

/-- what Set answers -/
def setE (S : List Tm) (id : Nat) (due : Int) : Int := if timeB due = false then 1 else if inS S id = false ∧ S.length = 256 then 62 else 0
def setS (S : List Tm) (id : Nat) (due : Int) (ser : Nat) : List Tm := if setE S id due = 0 then wo S id ++ [(id, due.toNat, ser)] else S
def setN (S : List Tm) (id : Nat) (due : Int) (sets : Nat) : Nat := if setE S id due = 0 then sets + 1 else sets
theorem setN_le (S : List Tm) (id : Nat) (due : Int) (sets : Nat) : setN S id due sets ≤ sets + 1 := by unfold setN; split <;> omega

section
variable {B hc hr rate milli sets : Nat} {S : List Tm} {Bs : List Nat}
theorem setc_any (w : World) (id : Nat) (due : Int) (hid : id < 18446744073709551616) (hs : sets + 1 < 18446744073709551616) (h : Clk w B hc Bs rate milli sets S) :
    Calls Try.prog 18 #[.pointer (some ⟨hc, 0, none⟩), .int .u64 (id : Int), .int .i64 due] w fun e w' => e = .returned (.int .i64 (setE S id due)) ∧ ∃ Bs', Clk w' B hc Bs' rate milli (setN S id due sets) (setS S id due (sets + 1)) ∧ Turned Bs Bs' w w' := by
  cases ht : timeB due with
  | false =>
    have e : setE S id due = 1 := by unfold setE; rw [if_pos ht]
    unfold setN setS; rw [e]
    exact (set_time w id due ht _).mono fun e w' ⟨a, b⟩ => ⟨a, Bs, b ▸ h, b ▸ Turned.refl _ _⟩
  | true =>
    by_cases hf : inS S id = false ∧ S.length = 256
    · have e : setE S id due = 62 := by unfold setE; rw [if_neg (by rw [ht]; simp), if_pos hf]
      unfold setN setS; rw [e]
      exact (set_full w id hid due ht h hf.1 hf.2).mono fun e w' ⟨a, b⟩ => ⟨a, Bs, b ▸ h, b ▸ Turned.refl _ _⟩
    · have e : setE S id due = 0 := by unfold setE; rw [if_neg (by rw [ht]; simp), if_neg hf]
      unfold setN setS; rw [e]
      have hd : 0 ≤ due ∧ due ≤ 1099511627776 := by unfold timeB at ht; simpa using ht
      obtain ⟨d, rfl⟩ : ∃ d : Nat, due = (d : Int) := ⟨due.toNat, by omega⟩
      have hfew : S.length ≤ 256 := by obtain ⟨gm, ao, cap, l, f, _, h1⟩ := h; have := h1.hp.few; have := h1.hs.len; omega
      have hroom : inS S id = true ∨ S.length < 256 := by
        cases hi : inS S id
        · right; rw [hi] at hf; simp at hf; omega
        · exact .inl rfl
      exact set_yes w id d hid (by omega) hs h hroom
theorem rset_any (w : World) (id : Nat) (due : Int) (ser : Nat) (hid : id < 18446744073709551616) (h : Rf w B hr Bs rate milli S) (hser : ∀ x ∈ S, x.2.2 < ser) :
    Calls Try.prog 26 #[.pointer (some ⟨hr, 0, none⟩), .int .u64 (id : Int), .int .i64 due] w fun e w' => e = .returned (.int .i64 (setE S id due)) ∧ ∃ Bs', Rf w' B hr Bs' rate milli (setS S id due ser) ∧ Turned Bs Bs' w w' := by
  cases ht : timeB due with
  | false =>
    have e : setE S id due = 1 := by unfold setE; rw [if_pos ht]
    unfold setS; rw [e]
    exact (rset_time w id due ht _).mono fun e w' ⟨a, b⟩ => ⟨a, Bs, b ▸ h, b ▸ Turned.refl _ _⟩
  | true =>
    have hd : 0 ≤ due ∧ due ≤ 1099511627776 := by unfold timeB at ht; simpa using ht
    obtain ⟨d, rfl⟩ : ∃ d : Nat, due = (d : Int) := ⟨due.toNat, by omega⟩
    by_cases hf : inS S id = false ∧ S.length = 256
    · have e : setE S id (d : Int) = 62 := by unfold setE; rw [if_neg (by rw [ht]; simp), if_pos hf]
      unfold setS; rw [e]
      exact (rset_full w id hid d (by omega) h hf.1 hf.2).mono fun e w' ⟨a, b⟩ => ⟨a, Bs, h.below b, Turned.of_below _ b⟩
    · have e : setE S id (d : Int) = 0 := by unfold setE; rw [if_neg (by rw [ht]; simp), if_neg hf]
      unfold setS; rw [e]
      have hfew : S.length ≤ 256 := by obtain ⟨ao, cap, _, h1⟩ := h; exact h1.few
      have hroom : inS S id = true ∨ S.length < 256 := by
        cases hi : inS S id
        · right; rw [hi] at hf; simp at hf; omega
        · exact .inl rfl
      exact rset_yes w id d ser hid (by omega) h hser hroom
end

/-- both clocks stand alike -/
def Pair (w : World) (B hc hr : Nat) (Bc Br : List Nat) (rate milli sets : Nat) (S : List Tm) : Prop := Clk w B hc Bc rate milli sets S ∧ Rf w B hr Br rate milli S ∧ ∀ q ∈ Bc, q ∉ Br
def Stepped (w : World) (B hc hr sets : Nat) (e : Ending) (w' : World) : Prop :=
  e = .returned (.bool true) ∧ (∃ Bc Br rate milli sets' S, Pair w' B hc hr Bc Br rate milli sets' S ∧ sets' ≤ sets + 1) ∧ Below B w w'
abbrev opv (kind : Int) (id : Nat) (x : Int) : Value := .agg #[.int .i64 kind, .int .u64 (id : Int), .int .i64 x]
abbrev opo (kind : Int) (id : Nat) (x : Int) : Obj := .cells #[.int .i64 kind, .int .u64 (id : Int), .int .i64 x] 34
abbrev BoxO (bx : Nat) (kind : Int) (id : Nat) (x : Int) (w : World) : Prop := w.cell? ⟨bx, 0, none⟩ = some (.int .i64 kind) ∧ w.cell? ⟨bx, 1, none⟩ = some (.int .u64 (id : Int)) ∧ w.cell? ⟨bx, 2, none⟩ = some (.int .i64 x) ∧ bx < w.heap.size
theorem boxoKeep {bx : Nat} {kind : Int} {id : Nat} {x : Int} {T : List Nat} {w w' : World} (h : BoxO bx kind id x w) (hn : bx ∉ T) (k : Keep T w w') : BoxO bx kind id x w' := by
  obtain ⟨h0, h1, h2, h3⟩ := h
  exact ⟨(k.cell h3 hn).trans h0, (k.cell h3 hn).trans h1, (k.cell h3 hn).trans h2, Nat.lt_of_lt_of_le h3 k.size⟩
theorem boxoBelow {bx : Nat} {kind : Int} {id : Nat} {x : Int} {w w' : World} (h : BoxO bx kind id x w) (b : Below w.heap.size w w') : BoxO bx kind id x w' := boxoKeep h (T := []) (by simp) (Keep.of_below b _)
theorem boxoNew (w : World) (kind : Int) (id : Nat) (x : Int) : BoxO w.heap.size kind id x (w.alloc (opo kind id x)) := by
  have h := heap_alloc_new w (opo kind id x)
  exact ⟨cell_of_row _ w.heap.size 0 _ _ (0, 0) h, cell_of_row _ w.heap.size 1 _ _ (0, 0) h, cell_of_row _ w.heap.size 2 _ _ (0, 0) h, by simp⟩

section
variable {w : World} {B hc hr rate milli sets : Nat} {S : List Tm} {Bc Br : List Nat}
/-- a step begins -/
structure Begun (w W : World) (B bx hc hr : Nat) (Bc Br : List Nat) (rate milli sets : Nat) (S : List Tm) (kind : Int) (id : Nat) (x : Int) : Prop where
  clk : Clk W B hc Bc rate milli sets S
  ref : Rf W B hr Br rate milli S
  ap : ∀ q ∈ Bc, q ∉ Br
  box : BoxO bx kind id x W
  nc : bx ∉ Bc
  nr : bx ∉ Br
  bel : Below B w W
  size : B ≤ W.heap.size
theorem Begun.of (h : Pair w B hc hr Bc Br rate milli sets S) (kind : Int) (id : Nat) (x : Int) : Begun w (w.alloc (opo kind id x)) B w.heap.size hc hr Bc Br rate milli sets S kind id x := by
  obtain ⟨h1, h2, h3⟩ := h
  have b := below_alloc (Below.refl w.heap.size w) (opo kind id x)
  have hB : B ≤ w.heap.size := by
    obtain ⟨gm, ao, cap, l, f, _, h4⟩ := h1
    have := h4.hp.base; have := h4.hp.hlt; omega
  exact ⟨h1.below b, h2.below b, h3, boxoNew w kind id x, fun hm => by have := (h1.blocks _ hm).2; omega, fun hm => by have := (h2.blocks _ hm).2; omega, b.mono hB, Nat.le_trans hB b.size⟩

set_option maxHeartbeats 4000000 in
theorem step_pass (id : Nat) (x : Int) (hx : okI x) (h : Pair w B hc hr Bc Br rate milli sets S) :
    Calls Try.prog 10 #[.pointer (some ⟨hc, 0, none⟩), .pointer (some ⟨hr, 0, none⟩), opv 1 id x] w (Stepped w B hc hr sets) := by
  have hg := Begun.of h 1 id x
  clear h
  obtain ⟨hclk, href, hap, hbox, hnc, hnr, hbel, hsize⟩ := hg
  have HC := Lib.hid hclk; have HR := Lib.hid href; have HAP := Lib.hid hap; have HB := Lib.hid hbel; have HBX := Lib.hid hbox
  clear hclk href hap hbel hbox
  go_enter Try.func10, Try.ntmps10
  go_wp2_with fail
  generalize w.alloc (opo 1 id x) = W at *
  generalize w.heap.size = bx at *
  obtain ⟨q0, q1, q2, q3⟩ := HBX.out
  have hS : BoxO bx 1 id x W := HBX.out
  go_region_held3 (fun w' => w'.cell? ⟨bx, 0, none⟩ = some (.int .i64 1) ∧ w'.cell? ⟨bx, 1, none⟩ = some (.int .u64 (id : Int)) ∧ w'.cell? ⟨bx, 2, none⟩ = some (.int .i64 x) ∧ bx < w'.heap.size)
    (first | assumption | exact boxoKeep (by assumption) hnc (by assumption) | exact boxoKeep (by assumption) hnr (by assumption) | exact boxoBelow (by assumption) (Below.refl _ _).drew)
    (first
      | (go_at_call 17; refine (pass_any _ x hx (HC.out.below (Below.refl _ _).drew)).mono ?_; rintro e w3' ⟨rfl, hc3, t3⟩; have hk3 := t3.keep; have HC3 := Lib.hid hc3; have HR3 := Lib.hid ((HR.out.below (Below.refl _ _).drew).keep hk3 (fun q hq hm => HAP.out q hm hq)); clear hc3 t3)
      | (go_at_call 25; refine (rpass_any _ x hx HR3.out).mono ?_; rintro e w4' ⟨rfl, hr4, hk4⟩; have HC4 := Lib.hid (HC3.out.keep hk4 (fun q hq hm => HAP.out q hq hm)); have HR4 := Lib.hid hr4; clear hr4))
  have b1 : Below B W w3' := (Below.refl _ W).drew.mono hsize |>.trans (hk3.below hsize (fun q hq => (HC.out.blocks q hq).1))
  have b2 : Below B w3' w4' := hk4.below (Nat.le_trans hsize b1.size) (fun q hq => (HR.out.blocks q hq).1)
  have BB := Lib.hid ((HB.out.trans b1).trans b2)
  clear b1 b2 hk3 hk4
  go_wp2_with fail
  go_ret
  exact ⟨rfl, ⟨Bc, Br, rate, _, sets, S, ⟨HC4.out, HR4.out, HAP.out⟩, by omega⟩, BB.out⟩
set_option maxHeartbeats 4000000 in
theorem step_stop (id : Nat) (x : Int) (hid : id < 18446744073709551616) (h : Pair w B hc hr Bc Br rate milli sets S) :
    Calls Try.prog 10 #[.pointer (some ⟨hc, 0, none⟩), .pointer (some ⟨hr, 0, none⟩), opv 5 id x] w (Stepped w B hc hr sets) := by
  have hg := Begun.of h 5 id x
  clear h
  obtain ⟨hclk, href, hap, hbox, hnc, hnr, hbel, hsize⟩ := hg
  have HC := Lib.hid hclk; have HR := Lib.hid href; have HAP := Lib.hid hap; have HB := Lib.hid hbel; have HBX := Lib.hid hbox
  clear hclk href hap hbel hbox
  go_enter Try.func10, Try.ntmps10
  go_wp2_with fail
  generalize w.alloc (opo 5 id x) = W at *
  generalize w.heap.size = bx at *
  obtain ⟨q0, q1, q2, q3⟩ := HBX.out
  have hS : BoxO bx 5 id x W := HBX.out
  go_region_held3 (fun w' => w'.cell? ⟨bx, 0, none⟩ = some (.int .i64 5) ∧ w'.cell? ⟨bx, 1, none⟩ = some (.int .u64 (id : Int)) ∧ w'.cell? ⟨bx, 2, none⟩ = some (.int .i64 x) ∧ bx < w'.heap.size)
    (first | assumption | exact boxoKeep (by assumption) hnc (by assumption) | exact boxoKeep (by assumption) hnr (by assumption) | exact boxoBelow (by assumption) (Below.refl _ _).drew)
    (first
      | (go_at_call 21; refine (stop_any _ id hid (HC.out.below (Below.refl _ _).drew)).mono ?_; rintro e w3' ⟨rfl, hc3, t3⟩; have hk3 := t3.keep; have HC3 := Lib.hid hc3; have HR3 := Lib.hid ((HR.out.below (Below.refl _ _).drew).keep hk3 (fun q hq hm => HAP.out q hm hq)); clear hc3 t3)
      | (go_at_call 27; refine (rstop_any _ id hid HR3.out).mono ?_; rintro e w4' ⟨rfl, Br', hr4, t4⟩; have hk4 := t4.keep; have HC4 := Lib.hid (HC3.out.keep hk4 (fun q hq hm => HAP.out q hq hm)); have HR4 := Lib.hid hr4; have HT4 := Lib.hid t4; clear hr4 t4))
  have b1 : Below B W w3' := (Below.refl _ W).drew.mono hsize |>.trans (hk3.below hsize (fun q hq => (HC.out.blocks q hq).1))
  have b2 : Below B w3' w4' := hk4.below (Nat.le_trans hsize b1.size) (fun q hq => (HR.out.blocks q hq).1)
  have BB := Lib.hid ((HB.out.trans b1).trans b2)
  have hap2 := HT4.out.apart (Cs := Bc) (fun q hq hm => HAP.out q hm hq) (fun q hq => (HC3.out.blocks q hq).2)
  clear b1 b2 hk3 hk4
  generalize inS S id = bb at *
  go_wp2_with fail
  go_ret
  exact ⟨by cases bb <;> rfl, ⟨Bc, Br', rate, milli, sets, _, ⟨HC4.out, HR4.out, fun q hq hm => hap2 q hm hq⟩, by omega⟩, BB.out⟩

set_option maxHeartbeats 4000000 in
theorem step_other (kind : Int) (id : Nat) (x : Int) (h1 : kind ≠ 1) (h2 : kind ≠ 2) (h3 : kind ≠ 3) (h4 : kind ≠ 4) (h5 : kind ≠ 5) (h6 : kind ≠ 6) (h : Pair w B hc hr Bc Br rate milli sets S) :
    Calls Try.prog 10 #[.pointer (some ⟨hc, 0, none⟩), .pointer (some ⟨hr, 0, none⟩), opv kind id x] w (Stepped w B hc hr sets) := by
  have hg := Begun.of h kind id x
  have HG := Lib.hid hg
  clear h hg
  have e1 : (kind == 1) = false := by rw [beq_eq_false_iff_ne]; exact h1
  have e2 : (kind == 2) = false := by rw [beq_eq_false_iff_ne]; exact h2
  have e3 : (kind == 3) = false := by rw [beq_eq_false_iff_ne]; exact h3
  have e4 : (kind == 4) = false := by rw [beq_eq_false_iff_ne]; exact h4
  have e5 : (kind == 5) = false := by rw [beq_eq_false_iff_ne]; exact h5
  have e6 : (kind == 6) = false := by rw [beq_eq_false_iff_ne]; exact h6
  clear h1 h2 h3 h4 h5 h6
  go_enter Try.func10, Try.ntmps10
  go_wp2_with fail
  go_ret
  exact ⟨rfl, ⟨Bc, Br, rate, milli, sets, S, ⟨HG.out.clk, HG.out.ref, HG.out.ap⟩, by omega⟩, HG.out.bel⟩

set_option maxHeartbeats 4000000 in
theorem step_turn (id : Nat) (x : Int) (h : Pair w B hc hr Bc Br rate milli sets S) :
    Calls Try.prog 10 #[.pointer (some ⟨hc, 0, none⟩), .pointer (some ⟨hr, 0, none⟩), opv 2 id x] w (Stepped w B hc hr sets) := by
  have hg := Begun.of h 2 id x
  clear h
  obtain ⟨hclk, href, hap, hbox, hnc, hnr, hbel, hsize⟩ := hg
  have HC := Lib.hid hclk; have HR := Lib.hid href; have HAP := Lib.hid hap; have HB := Lib.hid hbel; have HBX := Lib.hid hbox
  clear hclk href hap hbel hbox
  go_enter Try.func10, Try.ntmps10
  go_wp2_with fail
  generalize w.alloc (opo 2 id x) = W at *
  generalize w.heap.size = bx at *
  obtain ⟨q0, q1, q2, q3⟩ := HBX.out
  have HT := Lib.hid (turn_any W x HC.out)
  have k0 := (show Rf W B hr Br rate milli S from HR.out)
  obtain ⟨ao, cap, hBr, hRW⟩ := k0
  have HRW := Lib.hid hRW; have HBR := Lib.hid hBr
  clear hRW hBr q1
  cases hx : rateB x <;> rw [hx] at HT
  · have hd : x < 900 ∨ 1100 < x := by unfold rateB at hx; simp at hx; omega
    clear hx
    rcases hd with hd | hd
    all_goals
      go_wp2_with fail
      refine HT.out.mono ?_; rintro e w3 ⟨rfl, h3, t3⟩
      have b3 := (HB.out.trans (t3.below hsize (fun q hq => (HC.out.blocks q hq).1)))
      have HC3 := Lib.hid h3; have HR3 := Lib.hid (HR.out.keep t3.keep (fun q hq hm => HAP.out q hm hq)); have BB := Lib.hid b3
      clear h3 t3 b3 q0 q2
      go_wp2_with fail
      go_ret
      exact ⟨rfl, ⟨Bc, Br, rate, milli, sets, S, ⟨HC3.out, HR3.out, HAP.out⟩, by omega⟩, BB.out⟩
  · have hd : 900 ≤ x ∧ x ≤ 1100 := by unfold rateB at hx; simpa using hx
    obtain ⟨hd1, hd2⟩ := hd
    obtain ⟨k, rfl⟩ : ∃ k : Nat, x = (k : Int) := ⟨x.toNat, by omega⟩
    clear hx
    go_wp2_with fail
    refine HT.out.mono ?_; rintro e w3 ⟨rfl, h3, t3⟩
    have b3 := (HB.out.trans (t3.below hsize (fun q hq => (HC.out.blocks q hq).1)))
    have hrw3 := HRW.out.keep t3.keep (fun q hq hm => HAP.out q hm (HBR.out ▸ hq))
    have HC3 := Lib.hid h3; have BB := Lib.hid b3
    have c0 := hrw3.k0; have f0 := hrw3.fr 0; have hl3 := hrw3.hlt
    have HR4 := Lib.hid (hrw3.setRate k (by omega))
    have hnb : hr ∉ Bc := fun hm => HAP.out hr hm (by rw [HBR.out]; simp)
    have hrB : B ≤ hr := hrw3.base
    clear h3 t3 b3 q0 q2 hrw3
    go_wp2_with fail
    go_ret
    have kk := Keep.setCell w3 ⟨hr, 0, none⟩ (.int .i64 (k : Int))
    have hc4 := HC3.out.keep kk (fun q hq hm => hnb (by simp at hm; exact hm ▸ hq))
    refine ⟨rfl, ⟨Bc, Br, k, milli, sets, S, ⟨?_, ⟨ao, cap, HBR.out, HR4.out⟩, HAP.out⟩, by omega⟩, BB.out.trans (kk.below (by omega) (by simpa using hrB))⟩
    simpa using hc4
end
end Go.Proofs.Ytkhfbnlmjnbhmaa
