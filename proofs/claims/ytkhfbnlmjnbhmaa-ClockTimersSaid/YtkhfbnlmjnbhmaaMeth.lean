/- Count, Now, Next, Pass, Turn, and all calls on no clock. -/
import Derived.Test.YtkhfbnlmjnbhmaaClock
namespace Go.Proofs.Ytkhfbnlmjnbhmaa
open Go.RowKit Go.Sort
set_option linter.unusedVariables false

section
variable {w : World} {B hb rate milli sets : Nat} {S : List Tm} {Bs : List Nat}

set_option maxHeartbeats 1000000 in
theorem count_any (w : World) (h : Clk w B hb Bs rate milli sets S) :
    Calls Try.prog 15 #[.pointer (some ⟨hb, 0, none⟩)] w fun e w' => e = .returned (.int .i64 (S.length : Int)) ∧ w = w' := by
  obtain ⟨gm, ao, cap, l, f, rfl, h⟩ := h
  have c2 := h.hp.cl
  rw [h.hs.len] at c2
  have hlt := h.hp.hlt
  clear h
  go_enter Try.func15, Try.ntmps15
  go_wp2_with fail
  go_ret
  exact ⟨rfl, rfl⟩

set_option maxHeartbeats 1000000 in
theorem now_any (w : World) (h : Clk w B hb Bs rate milli sets S) :
    Calls Try.prog 13 #[.pointer (some ⟨hb, 0, none⟩)] w fun e w' => e = .returned (.int .i64 ((milli / 1000 : Nat) : Int)) ∧ w = w' := by
  obtain ⟨gm, ao, cap, l, f, rfl, h⟩ := h
  have c1 := h.k1
  have hlt := h.hp.hlt
  have hm := h.ml
  clear h
  go_enter Try.func13, Try.ntmps13
  go_wp2_with fail
  go_ret
  exact ⟨ret_int (by omega), rfl⟩

/-- when the next is due, and whether there is one -/
def nextD (S : List Tm) : Nat := match minOf S with
  | some x => x.2.1
  | none => 0
theorem nextD_of {S : List Tm} (hd : Dist S) {x : Tm} (h : Min S x) : nextD S = x.2.1 := by unfold nextD; rw [h.minOf hd]
theorem HS.top {l : List Tm} {f : Nat → Option Nat} {S : List Tm} (h : HS l f S) (hp : 0 < l.length) : Min S (tm l 0) :=
  ⟨h.perm.mem_iff.1 (tm_mem hp), fun y hy => by
    obtain ⟨j, hj, hjt⟩ := List.mem_iff_getElem.1 (h.perm.mem_iff.2 hy)
    have e : tm l j = y := by simp [tm, hj, hjt]
    rw [← e]
    exact h.heap.top j hj⟩

set_option maxHeartbeats 1000000 in
theorem next_any (w : World) (h : Clk w B hb Bs rate milli sets S) :
    Calls Try.prog 11 #[.pointer (some ⟨hb, 0, none⟩)] w fun e w' => e = .returned (.tuple #[.int .i64 (nextD S : Int), .bool (decide (0 < S.length))]) ∧ w = w' := by
  have C1 := Lib.hid (count_any w h)
  obtain ⟨gm, ao, cap, l, f, rfl, h⟩ := h
  have hlen := h.hs.len
  by_cases h0 : 0 < S.length
  · obtain ⟨g, rfl, hg, _, _, _, x0, x1, x2⟩ := h.hp.at_ 0 (by omega)
    have HD := Lib.hid (nextD_of h.hs.dist (h.hs.top (by omega)))
    have c2 := h.hp.cl
    rw [hlen] at c2
    have hfew := h.hp.few
    have hfew' : S.length ≤ 256 := by omega
    have hlt := h.hp.hlt
    clear h hlen hfew
    simp only [Nat.zero_mul, Nat.zero_add] at x0 x1 x2
    generalize (tm l 0).2.1 = d at *
    generalize nextD S = D at *
    have HDD := Lib.hid HD.out
    generalize S.length = L at *
    have hn0 : ((L : Int) == 0) = false := by simp; omega
    have HB := Lib.hid (show decide (0 < L) = true by simpa using h0)
    rw [HB.out]
    go_enter Try.func11, Try.ntmps11
    go_wp2_with fail
    refine C1.out.mono ?_; rintro e w1 ⟨rfl, rfl⟩
    go_wp2_with fail
    go_ret2
    exact ⟨by rw [HDD.out]; rfl, rfl⟩
  · obtain rfl : S = [] := List.eq_nil_of_length_eq_zero (by omega)
    clear h hlen
    go_enter Try.func11, Try.ntmps11
    go_wp2_with fail
    refine C1.out.mono ?_; rintro e w1 ⟨rfl, rfl⟩
    go_wp2_with fail
    go_ret2
    exact ⟨rfl, rfl⟩

/-- what Pass answers -/
def passE (rate milli : Nat) (n : Int) : Int := if n < 0 then 1 else if ((1099511627776999 - milli) / rate : Nat) < n then 61 else 0
def passM (rate milli : Nat) (n : Int) : Nat := if passE rate milli n = 0 then milli + n.toNat * rate else milli
theorem pass_fits {rate milli k : Nat} (hr : 0 < rate) (h : k ≤ (1099511627776999 - milli) / rate) (hm : milli ≤ 1099511627776999) : milli + k * rate ≤ 1099511627776999 := by
  have := (Nat.le_div_iff_mul_le hr).1 h
  omega
theorem ClkW.pass {w2 : World} {gm : Nat} {ao : Option Addr} {cap : Nat} {l : List Tm} {f : Nat → Option Nat} (h : ClkW w B hb gm ao cap l f rate milli sets S) (m : Nat) (hm : m ≤ 1099511627776999) (h2 : w2 = w.setCell ⟨hb, 1, none⟩ (.int .i64 (m : Int))) :
    ClkW w2 B hb gm ao cap l f rate m sets S ∧ Keep [hb] w w2 := by
  have k2 : Keep [hb] w w2 := by subst h2; exact Keep.setCell w ⟨hb, 1, none⟩ _
  have h0 := h.k0; have h1 := h.k1; have h4 := h.k4; have f0 := h.f0; have f1 := h.f1; have f4 := h.f4
  have cl := h.hp.cl; have cm := h.hp.cm; have fr := h.hp.fr
  have hlt := h.hp.hlt
  have hs := k2.size
  refine ⟨⟨⟨?_, ?_, ?_, by omega, h.hp.base, h.hp.gbase, owns_keep h.hp.own k2 (blk_own _ _ _ (fun q hq hm => h.hp.nhr (by simp at hm; exact hm ▸ hq))), h.hp.map.keep k2 (by simpa using h.hp.nhg.symm), h.hp.nhg, h.hp.nhr, h.hp.ngr, h.hp.ok, h.hp.few⟩, h.hs, ?_, ?_, ?_, ?_, ?_, ?_, h.rt, hm, h.sr⟩, k2⟩
  all_goals (subst h2; go_simp)
theorem ClkW.turn {w2 : World} {gm : Nat} {ao : Option Addr} {cap : Nat} {l : List Tm} {f : Nat → Option Nat} (h : ClkW w B hb gm ao cap l f rate milli sets S) (m : Nat) (hm : 900 ≤ m ∧ m ≤ 1100) (h2 : w2 = w.setCell ⟨hb, 0, none⟩ (.int .i64 (m : Int))) :
    ClkW w2 B hb gm ao cap l f m milli sets S ∧ Keep [hb] w w2 := by
  have k2 : Keep [hb] w w2 := by subst h2; exact Keep.setCell w ⟨hb, 0, none⟩ _
  have h0 := h.k0; have h1 := h.k1; have h4 := h.k4; have f0 := h.f0; have f1 := h.f1; have f4 := h.f4
  have cl := h.hp.cl; have cm := h.hp.cm; have fr := h.hp.fr
  have hlt := h.hp.hlt
  have hs := k2.size
  refine ⟨⟨⟨?_, ?_, ?_, by omega, h.hp.base, h.hp.gbase, owns_keep h.hp.own k2 (blk_own _ _ _ (fun q hq hm => h.hp.nhr (by simp at hm; exact hm ▸ hq))), h.hp.map.keep k2 (by simpa using h.hp.nhg.symm), h.hp.nhg, h.hp.nhr, h.hp.ngr, h.hp.ok, h.hp.few⟩, h.hs, ?_, ?_, ?_, ?_, ?_, ?_, hm, h.ml, h.sr⟩, k2⟩
  all_goals (subst h2; go_simp)
theorem ClkW.setsTo {w2 : World} {gm : Nat} {ao : Option Addr} {cap : Nat} {l : List Tm} {f : Nat → Option Nat} (h : ClkW w B hb gm ao cap l f rate milli sets S) (m : Nat) (hm : sets ≤ m) (h2 : w2 = w.setCell ⟨hb, 4, none⟩ (.int .u64 (m : Int))) :
    ClkW w2 B hb gm ao cap l f rate milli m S ∧ Keep [hb] w w2 := by
  have k2 : Keep [hb] w w2 := by subst h2; exact Keep.setCell w ⟨hb, 4, none⟩ _
  have h0 := h.k0; have h1 := h.k1; have h4 := h.k4; have f0 := h.f0; have f1 := h.f1; have f4 := h.f4
  have cl := h.hp.cl; have cm := h.hp.cm; have fr := h.hp.fr
  have hlt := h.hp.hlt
  have hs := k2.size
  refine ⟨⟨⟨?_, ?_, ?_, by omega, h.hp.base, h.hp.gbase, owns_keep h.hp.own k2 (blk_own _ _ _ (fun q hq hm => h.hp.nhr (by simp at hm; exact hm ▸ hq))), h.hp.map.keep k2 (by simpa using h.hp.nhg.symm), h.hp.nhg, h.hp.nhr, h.hp.ngr, h.hp.ok, h.hp.few⟩, h.hs, ?_, ?_, ?_, ?_, ?_, ?_, h.rt, h.ml, fun x hx => Nat.le_trans (h.sr x hx) hm⟩, k2⟩
  all_goals (subst h2; go_simp)

set_option maxHeartbeats 2000000 in
theorem pass_any (w : World) (n : Int) (hn : okI n) (h : Clk w B hb Bs rate milli sets S) :
    Calls Try.prog 17 #[.pointer (some ⟨hb, 0, none⟩), .int .i64 n] w fun e w' => e = .returned (.int .i64 (passE rate milli n)) ∧ Clk w' B hb Bs rate (passM rate milli n) sets S ∧ Turned Bs Bs w w' := by
  have HC := Lib.hid h
  obtain ⟨gm, ao, cap, l, f, rfl, h⟩ := h
  have HE := Lib.hid (show passE rate milli n = if n < 0 then 1 else if ((1099511627776999 - milli) / rate : Nat) < n then 61 else 0 from rfl)
  have HM := Lib.hid (show passM rate milli n = if passE rate milli n = 0 then milli + n.toNat * rate else milli from rfl)
  have c0 := h.k0; have c1 := h.k1; have f1 := h.f1
  have hlt := h.hp.hlt
  obtain ⟨hr1, hr2⟩ := h.rt
  have hm := h.ml
  have HW := Lib.hid h
  clear h
  by_cases hneg : n < 0
  · have e1 := Lib.hid (show passE rate milli n = 1 by rw [HE.out, if_pos hneg])
    have e2 := Lib.hid (show passM rate milli n = milli by rw [HM.out, e1.out]; rfl)
    rw [e1.out, e2.out]
    clear e1 e2 HE HM
    go_enter Try.func17, Try.ntmps17
    go_wp2_with fail
    go_ret
    exact ⟨rfl, HC.out, Turned.refl _ _⟩
  · obtain ⟨k, rfl⟩ : ∃ k : Nat, n = (k : Int) := ⟨n.toNat, by omega⟩
    obtain ⟨q, hq⟩ : ∃ q : Nat, q = (1099511627776999 - milli) / rate := ⟨_, rfl⟩
    have hqi : ((1099511627776999 : Int) - (milli : Int)) / (rate : Int) = (q : Int) := by
      have e : ((1099511627776999 - milli : Nat) : Int) = 1099511627776999 - (milli : Int) := by omega
      rw [hq, Int.natCast_ediv, e]
    have hk : k < 9223372036854775808 := by have := hn.2; omega
    clear hneg hn
    by_cases hbig : q < k
    · have e1 := Lib.hid (show passE rate milli (k : Int) = 61 by rw [HE.out, if_neg (by omega), ← hq, if_pos (by omega)])
      have e2 := Lib.hid (show passM rate milli (k : Int) = milli by rw [HM.out, e1.out]; rfl)
      rw [e1.out, e2.out]
      have hq2 : q ≤ 1099511627776999 := by rw [hq]; exact Nat.le_trans (Nat.div_le_self _ _) (by omega)
      have HQ := Lib.hid hq
      clear e1 e2 HE HM hq
      go_enter Try.func17, Try.ntmps17
      go_wp2_with fail
      go_region
      go_wp2_with fail
      go_ret
      exact ⟨rfl, HC.out.below (Below.refl _ _).drew, Turned.of_below _ (Below.refl _ _).drew⟩
    · have hle : k ≤ (1099511627776999 - milli) / rate := by omega
      have hfit := pass_fits (by omega) hle hm
      have e1 := Lib.hid (show passE rate milli (k : Int) = 0 by rw [HE.out, if_neg (by omega), if_neg (by omega)])
      have e2 := Lib.hid (show passM rate milli (k : Int) = milli + k * rate by rw [HM.out, e1.out]; simp)
      rw [e1.out, e2.out]
      have hkq : k ≤ q := by omega
      have hpp : (k : Int) * (rate : Int) = ((k * rate : Nat) : Int) := by simp
      have HP2 := Lib.hid (HW.out.pass (milli + k * rate) hfit rfl)
      have hk2 : k ≤ 1099511627776999 := Nat.le_trans hle (Nat.le_trans (Nat.div_le_self _ _) (by omega))
      clear e1 e2 HE HM hq hle
      generalize k * rate = p at *
      have hpm : ((milli + p : Nat) : Int) = (milli : Int) + (p : Int) := by simp
      rw [hpm] at HP2
      go_enter Try.func17, Try.ntmps17
      go_wp2_with fail
      go_region
      go_wp2_with fail
      go_region
      obtain ⟨h2, k2⟩ := HP2.out
      have b2 : Below (w.setCell ⟨hb, 1, none⟩ (.int .i64 ((milli : Int) + (p : Int)))).heap.size (w.setCell ⟨hb, 1, none⟩ (.int .i64 ((milli : Int) + (p : Int)))) (w.setCell ⟨hb, 1, none⟩ (.int .i64 ((milli : Int) + (p : Int)))).drew.drew := (Below.refl _ _).drew.drew
      have kk : Keep (hb :: gm :: blk ao) w (w.setCell ⟨hb, 1, none⟩ (.int .i64 ((milli : Int) + (p : Int)))).drew.drew := (k2.mono (by simp)).trans (Keep.of_below b2 _)
      have hc : Clk (w.setCell ⟨hb, 1, none⟩ (.int .i64 ((milli : Int) + (p : Int)))).drew.drew B hb (hb :: gm :: blk ao) rate (milli + p) sets S := Clk.below ⟨gm, ao, cap, l, f, rfl, h2⟩ b2
      go_wp2_with fail
      go_ret
      exact ⟨rfl, hc, kk, fun q h => .inl h⟩

set_option maxHeartbeats 2000000 in
theorem turn_any (w : World) (n : Int) (h : Clk w B hb Bs rate milli sets S) :
    Calls Try.prog 20 #[.pointer (some ⟨hb, 0, none⟩), .int .i64 n] w fun e w' => e = .returned (.int .i64 (if rateB n then 0 else 1)) ∧ Clk w' B hb Bs (if rateB n then n.toNat else rate) milli sets S ∧ Turned Bs Bs w w' := by
  have HC := Lib.hid h
  obtain ⟨gm, ao, cap, l, f, rfl, h⟩ := h
  have C1 := Lib.hid (israte_any n)
  have c0 := h.k0; have f0 := h.f0
  have hlt := h.hp.hlt
  cases hr : rateB n <;> rw [hr] at C1
  · clear h
    go_enter Try.func20, Try.ntmps20
    go_wp2_with fail
    refine (C1.out _).mono ?_; rintro e w1 ⟨rfl, rfl⟩
    go_wp2_with fail
    go_ret
    exact ⟨rfl, HC.out, Turned.refl _ _⟩
  · have hn : 900 ≤ n ∧ n ≤ 1100 := by unfold rateB at hr; simpa using hr
    obtain ⟨k, rfl⟩ : ∃ k : Nat, n = (k : Int) := ⟨n.toNat, by omega⟩
    have HP2 := Lib.hid (h.turn k (by omega) rfl)
    clear h hr hn
    go_enter Try.func20, Try.ntmps20
    go_wp2_with fail
    refine (C1.out _).mono ?_; rintro e w1 ⟨rfl, rfl⟩
    go_wp2_with fail
    go_ret
    obtain ⟨h2, k2⟩ := HP2.out
    exact ⟨rfl, ⟨gm, ao, cap, l, f, rfl, h2⟩, k2.mono (by simp), fun q h => .inl h⟩
end
end Go.Proofs.Ytkhfbnlmjnbhmaa
