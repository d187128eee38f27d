/- A step of a script: Set. -/
import Derived.Test.YtkhfbnlmjnbhmaaStep
import Derived.Deep.Cut
namespace Go.Proofs.Ytkhfbnlmjnbhmaa
open Go.RowKit Go.Sort
set_option linter.unusedVariables false

theorem clk_ser {w : World} {B hb rate milli sets : Nat} {S : List Tm} {Bs : List Nat} (h : Clk w B hb Bs rate milli sets S) : ∀ x ∈ S, x.2.2 < sets + 1 := fun x hx => by
  obtain ⟨gm, ao, cap, l, f, _, h⟩ := h
  have := h.sr x hx; omega
theorem clk_ml {w : World} {B hb rate milli sets : Nat} {S : List Tm} {Bs : List Nat} (h : Clk w B hb Bs rate milli sets S) : milli ≤ 1099511627776999 := by
  obtain ⟨gm, ao, cap, l, f, _, h⟩ := h
  exact h.ml

section
variable {w : World} {B hc hr rate milli sets : Nat} {S : List Tm} {Bc Br : List Nat}
set_option maxHeartbeats 4000000 in
theorem step_set3 (id : Nat) (x : Int) (hid : id < 18446744073709551616) (hsets : sets + 1 < 18446744073709551616) (h : Pair w B hc hr Bc Br rate milli sets S) :
    Calls Try.prog 10 #[.pointer (some ⟨hc, 0, none⟩), .pointer (some ⟨hr, 0, none⟩), opv 3 id x] w (Stepped w B hc hr sets) := by
  have hg := Begun.of h 3 id x
  clear h
  obtain ⟨hclk, href, hap, hbox, hnc, hnr, hbel, hsize⟩ := hg
  have HC := Lib.hid hclk; have HR := Lib.hid href; have HAP := Lib.hid hap; have HB := Lib.hid hbel; have HBX := Lib.hid hbox
  have hml := clk_ml hclk
  clear hclk href hap hbel hbox
  go_enter Try.func10, Try.ntmps10
  go_wp2_with fail
  generalize w.alloc (opo 3 id x) = W at *
  generalize w.heap.size = bx at *
  obtain ⟨q0, q1, q2, q3⟩ := HBX.out
  go_upto_region 16 with (fail)
  have hS : BoxO bx 3 id x W := HBX.out
  go_region_held3 (fun w' => w'.cell? ⟨bx, 0, none⟩ = some (.int .i64 3) ∧ w'.cell? ⟨bx, 1, none⟩ = some (.int .u64 (id : Int)) ∧ w'.cell? ⟨bx, 2, none⟩ = some (.int .i64 x) ∧ bx < w'.heap.size)
    (first | assumption | exact boxoKeep (by assumption) hnc (by assumption) | exact boxoKeep (by assumption) hnr (by assumption) | exact boxoBelow (by assumption) (Below.refl _ _).drew)
    (first
      | (go_at_call 18; refine (setc_any _ id x hid hsets (HC.out.below (Below.refl _ _).drew)).mono ?_; rintro e w3' ⟨rfl, Bc', hc3, t3⟩; have hk3 := t3.keep; have HC3 := Lib.hid hc3; have HR3 := Lib.hid ((HR.out.below (Below.refl _ _).drew).keep hk3 (fun q hq hm => HAP.out q hm hq)); have HT3 := Lib.hid t3; have HAP3 := Lib.hid (t3.apart (Cs := Br) HAP.out (fun q hq => (HR.out.blocks q hq).2)); clear hc3 t3)
      | (go_at_call 26; refine (rset_any _ id x (sets + 1) hid HR3.out (clk_ser HC.out)).mono ?_; rintro e w4' ⟨rfl, Br', hr4, t4⟩; have hk4 := t4.keep; have HC4 := Lib.hid (HC3.out.keep hk4 (fun q hq hm => HAP3.out q hq hm)); have HR4 := Lib.hid hr4; have HT4 := Lib.hid t4; clear hr4 t4))
  have b1 : Below B W w3' := (Below.refl _ W).drew.mono hsize |>.trans (hk3.below hsize (fun q hq => (HC.out.blocks q hq).1))
  have b2 : Below B w3' w4' := hk4.below (Nat.le_trans hsize b1.size) (fun q hq => (HR.out.blocks q hq).1)
  have BB := Lib.hid ((HB.out.trans b1).trans b2)
  have hap2 := HT4.out.apart (Cs := Bc') (fun q hq hm => HAP3.out q hm hq) (fun q hq => (HC3.out.blocks q hq).2)
  have hle := setN_le S id x sets
  clear b1 b2 hk3 hk4
  generalize setE S id x = ee at *
  go_wp2_with fail
  go_ret
  exact ⟨by simp, ⟨Bc', Br', rate, milli, _, _, ⟨HC4.out, HR4.out, fun q hq hm => hap2 q hm hq⟩, hle⟩, BB.out⟩

set_option maxHeartbeats 4000000 in
theorem step_set4a (id : Nat) (x : Int) (hid : id < 18446744073709551616) (hsets : sets + 1 < 18446744073709551616) (hbig : ¬ x < 2199023255552) (h : Pair w B hc hr Bc Br rate milli sets S) :
    Calls Try.prog 10 #[.pointer (some ⟨hc, 0, none⟩), .pointer (some ⟨hr, 0, none⟩), opv 4 id x] w (Stepped w B hc hr sets) := by
  have hg := Begun.of h 4 id x
  clear h
  obtain ⟨hclk, href, hap, hbox, hnc, hnr, hbel, hsize⟩ := hg
  have HC := Lib.hid hclk; have HR := Lib.hid href; have HAP := Lib.hid hap; have HB := Lib.hid hbel; have HBX := Lib.hid hbox
  have hml := clk_ml hclk
  clear hclk href hap hbel hbox
  go_enter Try.func10, Try.ntmps10
  go_wp2_with fail
  generalize w.alloc (opo 4 id x) = W at *
  generalize w.heap.size = bx at *
  obtain ⟨q0, q1, q2, q3⟩ := HBX.out
  have hlt : decide (x < 2199023255552) = false := by simp; omega
  go_upto_region 16 with (fail)
  have hS : BoxO bx 4 id x W := HBX.out
  go_region_held3 (fun w' => w'.cell? ⟨bx, 0, none⟩ = some (.int .i64 4) ∧ w'.cell? ⟨bx, 1, none⟩ = some (.int .u64 (id : Int)) ∧ w'.cell? ⟨bx, 2, none⟩ = some (.int .i64 x) ∧ bx < w'.heap.size)
    (first | assumption | exact boxoKeep (by assumption) hnc (by assumption) | exact boxoKeep (by assumption) hnr (by assumption) | exact boxoBelow (by assumption) (Below.refl _ _).drew)
    (first
      | (go_at_call 18; refine (setc_any _ id x hid hsets (HC.out.below (Below.refl _ _).drew)).mono ?_; rintro e w3' ⟨rfl, Bc', hc3, t3⟩; have hk3 := t3.keep; have HC3 := Lib.hid hc3; have HR3 := Lib.hid ((HR.out.below (Below.refl _ _).drew).keep hk3 (fun q hq hm => HAP.out q hm hq)); have HT3 := Lib.hid t3; have HAP3 := Lib.hid (t3.apart (Cs := Br) HAP.out (fun q hq => (HR.out.blocks q hq).2)); clear hc3 t3)
      | (go_at_call 26; refine (rset_any _ id x (sets + 1) hid HR3.out (clk_ser HC.out)).mono ?_; rintro e w4' ⟨rfl, Br', hr4, t4⟩; have hk4 := t4.keep; have HC4 := Lib.hid (HC3.out.keep hk4 (fun q hq hm => HAP3.out q hq hm)); have HR4 := Lib.hid hr4; have HT4 := Lib.hid t4; clear hr4 t4))
  have b1 : Below B W w3' := (Below.refl _ W).drew.mono hsize |>.trans (hk3.below hsize (fun q hq => (HC.out.blocks q hq).1))
  have b2 : Below B w3' w4' := hk4.below (Nat.le_trans hsize b1.size) (fun q hq => (HR.out.blocks q hq).1)
  have BB := Lib.hid ((HB.out.trans b1).trans b2)
  have hap2 := HT4.out.apart (Cs := Bc') (fun q hq hm => HAP3.out q hm hq) (fun q hq => (HC3.out.blocks q hq).2)
  have hle := setN_le S id x sets
  clear b1 b2 hk3 hk4
  generalize setE S id x = ee at *
  go_wp2_with fail
  go_ret
  exact ⟨by simp, ⟨Bc', Br', rate, milli, _, _, ⟨HC4.out, HR4.out, fun q hq hm => hap2 q hm hq⟩, hle⟩, BB.out⟩

set_option maxHeartbeats 4000000 in
theorem step_set4b (id : Nat) (x : Int) (hid : id < 18446744073709551616) (hsets : sets + 1 < 18446744073709551616) (hx : okI x) (hsm : x < 2199023255552) (h : Pair w B hc hr Bc Br rate milli sets S) :
    Calls Try.prog 10 #[.pointer (some ⟨hc, 0, none⟩), .pointer (some ⟨hr, 0, none⟩), opv 4 id x] w (Stepped w B hc hr sets) := by
  have hg := Begun.of h 4 id x
  clear h
  obtain ⟨hclk, href, hap, hbox, hnc, hnr, hbel, hsize⟩ := hg
  have HC := Lib.hid hclk; have HR := Lib.hid href; have HAP := Lib.hid hap; have HB := Lib.hid hbel; have HBX := Lib.hid hbox
  have hml := clk_ml hclk
  clear hclk href hap hbel hbox
  go_enter Try.func10, Try.ntmps10
  go_wp2_with fail
  generalize w.alloc (opo 4 id x) = W at *
  generalize w.heap.size = bx at *
  obtain ⟨q0, q1, q2, q3⟩ := HBX.out
  have hlt : decide (x < 2199023255552) = true := by simp; omega
  have RN := Lib.hid (rnow_any W HR.out)
  obtain ⟨t, ht⟩ : ∃ t, milli / 1000 = t := ⟨_, rfl⟩
  have ht2 : t ≤ 1099511627776 := by omega
  rw [ht] at RN
  clear ht
  obtain ⟨hx1, hx2⟩ := hx
  go_wp2_with fail
  refine RN.out.mono ?_; rintro e wq ⟨rfl, rfl⟩
  go_upto_region 16 with (fail)
  have hS : BoxO bx 4 id x W := HBX.out
  go_region_held3 (fun w' => w'.cell? ⟨bx, 0, none⟩ = some (.int .i64 4) ∧ w'.cell? ⟨bx, 1, none⟩ = some (.int .u64 (id : Int)) ∧ w'.cell? ⟨bx, 2, none⟩ = some (.int .i64 x) ∧ bx < w'.heap.size)
    (first | assumption | exact boxoKeep (by assumption) hnc (by assumption) | exact boxoKeep (by assumption) hnr (by assumption) | exact boxoBelow (by assumption) (Below.refl _ _).drew)
    (first
      | (go_at_call 18; refine (setc_any _ id (x + (t : Int)) hid hsets (HC.out.below (Below.refl _ _).drew)).mono ?_; rintro e w3' ⟨rfl, Bc', hc3, t3⟩; have hk3 := t3.keep; have HC3 := Lib.hid hc3; have HR3 := Lib.hid ((HR.out.below (Below.refl _ _).drew).keep hk3 (fun q hq hm => HAP.out q hm hq)); have HT3 := Lib.hid t3; have HAP3 := Lib.hid (t3.apart (Cs := Br) HAP.out (fun q hq => (HR.out.blocks q hq).2)); clear hc3 t3)
      | (go_at_call 26; refine (rset_any _ id (x + (t : Int)) (sets + 1) hid HR3.out (clk_ser HC.out)).mono ?_; rintro e w4' ⟨rfl, Br', hr4, t4⟩; have hk4 := t4.keep; have HC4 := Lib.hid (HC3.out.keep hk4 (fun q hq hm => HAP3.out q hq hm)); have HR4 := Lib.hid hr4; have HT4 := Lib.hid t4; clear hr4 t4))
  have b1 : Below B W w3' := (Below.refl _ W).drew.mono hsize |>.trans (hk3.below hsize (fun q hq => (HC.out.blocks q hq).1))
  have b2 : Below B w3' w4' := hk4.below (Nat.le_trans hsize b1.size) (fun q hq => (HR.out.blocks q hq).1)
  have BB := Lib.hid ((HB.out.trans b1).trans b2)
  have hap2 := HT4.out.apart (Cs := Bc') (fun q hq hm => HAP3.out q hm hq) (fun q hq => (HC3.out.blocks q hq).2)
  have hle := setN_le S id (x + (t : Int)) sets
  clear b1 b2 hk3 hk4
  generalize setE S id (x + (t : Int)) = ee at *
  go_wp2_with fail
  go_ret
  exact ⟨by simp, ⟨Bc', Br', rate, milli, _, _, ⟨HC4.out, HR4.out, fun q hq hm => hap2 q hm hq⟩, hle⟩, BB.out⟩

end
end Go.Proofs.Ytkhfbnlmjnbhmaa
