/- Peers at positions of their own, rising. -/
import Derived.Test.YtokmchkoojeadaaOw
import Derived.Test.YtokmchkoojeadaaLn
namespace Go.Proofs.Ytokmchkoojeadaa
open Go.RowKit Go.Sort
set_option linter.unusedVariables false
set_option linter.unusedSimpArgs false
set_option maxRecDepth 100000
/-- a slice reads as positions, at whatever offset -/
def PosRd (w : World) (xo : Option Addr) (R : List (Int × Int)) : Prop := ∀ j p, R[j]? = some p → ∃ g o, xo = some ⟨g, o, none⟩ ∧ g < w.heap.size ∧ w.cell? ⟨g, o + j * 2, none⟩ = some (.int .u64 p.1) ∧ w.cell? ⟨g, o + j * 2 + 1, none⟩ = some (.int .u64 p.2)
theorem PosRd.below {w w' : World} {xo : Option Addr} {R : List (Int × Int)} (h : PosRd w xo R) (b : Below w.heap.size w w') : PosRd w' xo R := fun j p hp => by
  obtain ⟨g, o, rfl, hg, h0, h1⟩ := h j p hp
  exact ⟨g, o, rfl, Nat.lt_of_lt_of_le hg b.size, (b.cell hg).trans h0, (b.cell hg).trans h1⟩
/-- a peer of those that are known comes behind the new one, or ahead -/
def insStep (h l : Int) (s : List Pe × Bool × Bool) (x : Pe) : List Pe × Bool × Bool := (s.1 ++ (if ls h l x.h x.l && !s.2.1 then [⟨0, h, l⟩] else []) ++ [x], s.2.1 || ls h l x.h x.l, s.2.2 || (x.h == h && x.l == l))
def insAll (h l : Int) (L : List Pe) : List Pe × Bool × Bool := L.foldl (insStep h l) ([], false, false)
def insOne (L : List Pe) (r : Int × Int) : List Pe := let s := insAll r.1 r.2 L; if s.2.2 then L else if s.2.1 then s.1 else s.1 ++ [⟨0, r.1, r.2⟩]
def insMany : List (Int × Int) → List Pe → List Pe
  | [], L => L
  | r :: R, L => if L.length < 12 then insMany R (insOne L r) else L
def numbered (L : List Pe) : List Pe := L.zipIdx.map fun x => ⟨(x.2 : Int), x.1.h, x.1.l⟩
def sortedN (R : List (Int × Int)) : List Pe := let L := insMany R []; numbered (if L.length = 0 then [⟨0, 0, 0⟩] else L)
theorem insAll_take (h l : Int) (L : List Pe) (k : Nat) (x : Pe) (hx : L[k]? = some x) : insAll h l (L.take (k + 1)) = insStep h l (insAll h l (L.take k)) x := by
  unfold insAll
  rw [List.take_add_one, hx, List.foldl_append]
  rfl
theorem insFold_le (h l : Int) : ∀ (L : List Pe) (s : List Pe × Bool × Bool), (L.foldl (insStep h l) s).1.length ≤ s.1.length + 2 * L.length
  | [], s => by simp
  | x :: L, s => by
    have h1 := insFold_le h l L (insStep h l s x)
    have h2 : (insStep h l s x).1.length ≤ s.1.length + 2 := by
      unfold insStep
      split <;> simp
    simp only [List.foldl_cons, List.length_cons] at h1 ⊢
    omega
theorem insAll_le {h l : Int} (L : List Pe) {O : List Pe} {i t : Bool} (he : insAll h l L = (O, i, t)) {k : Nat} (hk : L.length ≤ k) : O.length ≤ 2 * k := by
  have := insFold_le h l L ([], false, false)
  unfold insAll at he
  rw [he] at this
  simp only [List.length_nil] at this
  omega
theorem insFold_len (h l : Int) : ∀ (L : List Pe) (s : List Pe × Bool × Bool), (L.foldl (insStep h l) s).1.length + s.2.1.toNat = s.1.length + L.length + (L.foldl (insStep h l) s).2.1.toNat
  | [], s => by simp
  | x :: L, s => by
    have h1 := insFold_len h l L (insStep h l s x)
    have h2 : (insStep h l s x).1.length + s.2.1.toNat = s.1.length + 1 + (insStep h l s x).2.1.toNat := by
      obtain ⟨a, b, c⟩ := s
      unfold insStep
      cases b <;> cases ls h l x.h x.l <;> simp
    simp only [List.foldl_cons, List.length_cons] at h1 ⊢
    omega
theorem insAll_len {h l : Int} {L O : List Pe} {i t : Bool} (he : insAll h l L = (O, i, t)) : O.length = L.length + i.toNat := by
  have := insFold_len h l L ([], false, false)
  unfold insAll at he
  rw [he] at this
  simpa using this
theorem insMany_step {R : List (Int × Int)} {i : Nat} {r : Int × Int} {L : List Pe} (hr : R[i]? = some r) (hl : L.length < 12) : insMany (R.drop i) L = insMany (R.drop (i + 1)) (insOne L r) := by
  obtain ⟨h1, rfl⟩ := List.getElem?_eq_some_iff.1 hr
  rw [List.drop_eq_getElem_cons h1, insMany, if_pos hl]
theorem insMany_over {R : List (Int × Int)} {L : List Pe} (hl : ¬ L.length < 12) : insMany R L = L := by
  cases R with
  | nil => rfl
  | cons r R => rw [insMany, if_neg hl]
theorem owns_putq {w : World} {B : Nat} {e : TypeId} {z n cap g : Nat} {xs : List Value} (ho : w.ownsRow B e z (.slice (some ⟨g, 0, none⟩) n cap) n xs) (q : Nat) (hq : q < n * z) (v : Value) : (w.setCell ⟨g, q, none⟩ v).ownsRow B e z (.slice (some ⟨g, 0, none⟩) n cap) n (xs.set q v) := by
  refine ⟨by rw [List.length_set]; exact ho.1, ?_⟩
  have hl := ho.1
  rcases ho.2 with ⟨h2, h3⟩ | ⟨g', cap', cur, h2, hb, hg, h3, h4, h5, h6⟩
  · cases h2
  · cases h2
    have hcz : n * z ≤ cap * z := Nat.mul_le_mul_right z h3
    have hcs : q < cur.toList.length := by
      have h7 := congrArg List.length h6
      simp only [List.length_take] at h7
      omega
    refine .inr ⟨g, cap, cur.setIfInBounds q v, rfl, hb, heap_setCell_same w g q cur _ _ hg, h3, h4, by simpa using h5, ?_⟩
    rw [← h6]
    apply List.ext_getElem?
    intro k
    rw [List.getElem?_take]
    by_cases hk : k < n * z
    · rw [if_pos hk, Array.getElem?_toList]
      by_cases ek : k = q
      · subst ek
        rw [Array.getElem?_setIfInBounds_self_of_lt (by simpa using hcs), List.getElem?_set_self (by rw [List.length_take]; omega)]
      · rw [Array.getElem?_setIfInBounds_ne (by omega), List.getElem?_set_ne (by omega), List.getElem?_take, if_pos hk, Array.getElem?_toList]
    · rw [if_neg hk, List.getElem?_eq_none (by rw [List.length_set, List.length_take]; omega)]
theorem owns_pc {w : World} {B : Nat} {e : TypeId} {z n cap g : Nat} {xs : List Value} (ho : w.ownsRow B e z (.slice (some ⟨g, 0, none⟩) n cap) n xs) (q : Nat) (hq : q < n * z) : ∃ v, w.cell? ⟨g, q, none⟩ = some v ∧ w.frozen? ⟨g, q, none⟩ = false ∧ g < w.heap.size ∧ B ≤ g := by
  rcases ho.2 with ⟨h2, h3⟩ | ⟨g', cap', cur, h2, hb, hg, h3, h4, h5, h6⟩
  · subst h3; omega
  · cases h2
    have hl := ho.1
    have hq2 : q < xs.length := by omega
    refine ⟨xs[q], ?_, frozen_of_row w g q cur _ hg, (Array.getElem?_eq_some_iff.1 hg).1, hb⟩
    rw [cell_of_row w g q cur _ (0, 0) hg]
    have := congrArg (·[q]?) h6
    simp only [List.getElem?_take] at this
    rw [if_pos hq, Array.getElem?_toList] at this
    rw [this, List.getElem?_eq_getElem hq2]
/-- the first k of them are numbered -/
def numK (M : List Pe) (k : Nat) : List Pe := M.zipIdx.map fun x => if x.2 < k then ⟨(x.2 : Int), x.1.h, x.1.l⟩ else x.1
theorem numK_at (M : List Pe) (k j : Nat) : (numK M k)[j]? = M[j]?.map fun x => if j < k then ⟨(j : Int), x.h, x.l⟩ else x := by
  unfold numK
  rw [List.getElem?_map, List.getElem?_zipIdx]
  cases M[j]? <;> simp
theorem numK_len (M : List Pe) (k : Nat) : (numK M k).length = M.length := by simp [numK]
theorem numK_zero (M : List Pe) : numK M 0 = M := List.ext_getElem? fun j => by rw [numK_at]; cases M[j]? <;> simp
theorem numbered_at (M : List Pe) (j : Nat) : (numbered M)[j]? = M[j]?.map fun x => ⟨(j : Int), x.h, x.l⟩ := by
  unfold numbered
  rw [List.getElem?_map, List.getElem?_zipIdx]
  cases M[j]? <;> simp
theorem numbered_len (M : List Pe) : (numbered M).length = M.length := by simp [numbered]
theorem numK_all (M : List Pe) : numK M M.length = numbered M := List.ext_getElem? fun j => by
  rw [numK_at, numbered_at]
  by_cases h : j < M.length
  · rw [List.getElem?_eq_getElem h]; simp [h]
  · rw [List.getElem?_eq_none (by omega)]; rfl
theorem numK_set (M : List Pe) (k : Nat) (x : Pe) (hx : M[k]? = some x) : numK M (k + 1) = (numK M k).set k ⟨(k : Int), x.h, x.l⟩ := List.ext_getElem? fun j => by
  have hk := (List.getElem?_eq_some_iff.1 hx).1
  by_cases e : j = k
  · subst e
    rw [List.getElem?_set_self (by rw [numK_len]; exact hk), numK_at, hx]
    simp
  · rw [List.getElem?_set_ne (by omega), numK_at, numK_at]
    have : (j < k + 1) = (j < k) := by simp; omega
    simp only [this]
theorem num_push {w : World} {B n cap g k : Nat} {M : List Pe} {x : Pe} (ho : w.ownsRow B 26 3 (.slice (some ⟨g, 0, none⟩) n cap) n (fl Pe.list (numK M k))) (hx : M[k]? = some x) (hn : M.length = n) :
    (w.setCell ⟨g, k * 3, none⟩ (.int .i64 (k : Int))).ownsRow B 26 3 (.slice (some ⟨g, 0, none⟩) n cap) n (fl Pe.list (numK M (k + 1))) := by
  have hk := (List.getElem?_eq_some_iff.1 hx).1
  have hkl : k < (numK M k).length := by rw [numK_len]; exact hk
  have hxk : (numK M k)[k]? = some x := by rw [numK_at, hx]; simp
  have h := owns_putq ho (k * 3) (by omega) (.int .i64 (k : Int))
  have e : (fl Pe.list (numK M k)).set (k * 3) (.int .i64 (k : Int)) = fl Pe.list (numK M (k + 1)) := by
    rw [numK_set M k x hx]
    have hlen := fl_len pe_len (numK M k)
    refine fl_set pe_len _ _ _ _ (by simp) hkl (fun i hi => ?_) (fun q hq => ?_)
    · have hat := fl_at pe_len (numK M k) k i hi
      rw [hxk] at hat
      rcases (by omega : i = 0 ∨ i = 1 ∨ i = 2) with rfl | rfl | rfl
      · rw [Nat.add_zero, List.getElem?_set_self (by omega)]; rfl
      · rw [List.getElem?_set_ne (by omega), hat]; rfl
      · rw [List.getElem?_set_ne (by omega), hat]; rfl
    · rw [List.getElem?_set_ne (by omega)]
  rw [← e]
  exact h
/-- the two lists in blocks of their own, apart -/
structure SoI (w wr : World) (lo : Option Addr) (lc : Nat) (L : List Pe) (oo : Option Addr) (oc : Nat) (O : List Pe) : Prop where
  l : wr.ownsRow w.heap.size 26 3 (.slice lo L.length lc) L.length (fl Pe.list L)
  o : wr.ownsRow w.heap.size 26 3 (.slice oo O.length oc) O.length (fl Pe.list O)
  ne : ∀ g ∈ blk lo, g ∉ blk oo
  b : Below w.heap.size w wr
section
variable {w wr w' w3 w4 : World} {lo oo : Option Addr} {lc oc : Nat} {L O : List Pe}
theorem SoI.below (S : SoI w wr lo lc L oo oc O) (k : Below wr.heap.size wr w') : SoI w w' lo lc L oo oc O :=
  ⟨owns_keep S.l (Keep.of_below k []) (by simp), owns_keep S.o (Keep.of_below k []) (by simp), S.ne, below_next S.b k⟩
theorem SoI.push (S : SoI w wr lo lc L oo oc O) (k : Below wr.heap.size wr w3) {ga ca : Nat} {x : Pe} (own4 : w4.ownsRow w.heap.size 26 3 (.slice (some ⟨ga, 0, none⟩) (O.length + 1) ca) (O.length + 1) (fl Pe.list O ++ x.list))
    (gr4 : w3.grownBy w4 (Value.slice oo O.length oc).ownBlock) (at4 : (Value.slice oo O.length oc).ownBlock = some ga ∨ ga = w3.heap.size) : SoI w w4 lo lc L (some ⟨ga, 0, none⟩) ca (O ++ [x]) := by
  have S3 := S.below k
  have kg : Keep (blk oo) w3 w4 := keep_grown gr4
  refine ⟨owns_keep S3.l kg (blk_own _ _ _ fun q hq => S.ne q hq), ?_, ?_, ?_⟩
  · rw [List.length_append, fl_app, fl_one]; exact own4
  · intro g hg hm
    simp only [blk, List.mem_singleton] at hm
    subst hm
    rcases own_gg at4 with h | h
    · exact S.ne _ hg h
    · have := (owns_blk S3.l _ hg).2; omega
  · exact S3.b.trans (kg.below S3.b.size fun q hq => (owns_blk S3.o q hq).1)
end
set_option maxHeartbeats 12800000 in
theorem sorted_any {xo : Option Addr} {n cap : Nat} {R : List (Int × Int)} (w : World) (h : PosRd w xo R) (hn : R.length = n) (hle : n ≤ 140737488355328) :
    Calls Try.prog 13 #[.slice xo n cap] w fun e w' => ∃ lo lc, e = .returned (.slice lo (sortedN R).length lc) ∧ w'.ownsRow w.heap.size 26 3 (.slice lo (sortedN R).length lc) (sortedN R).length (fl Pe.list (sortedN R)) ∧ Below w.heap.size w w' := by
  have H := Lib.hid h; have HN := Lib.hid hn
  have hni : (n : Int) ≤ 140737488355328 := by omega
  obtain ⟨i0, hi0, hz0, hz1, hz2⟩ := info_parts peer_info
  have HI0 := Lib.hid hi0; have HZ0 := Lib.hid hz0; have HZ1 := Lib.hid hz1; have HZ2 := Lib.hid hz2
  clear h hn hi0 hz0 hz1 hz2
  go_enter Try.func13, Try.ntmps13
  go_wp2_with fail
  go_loopw [3, 4] (fun v3 v4 wr => ∃ (lo : Option Addr) (lc i : Nat) (L : List Pe), v3 = .slice lo L.length lc ∧ v4 = .int .i64 (i : Int) ∧ i ≤ n ∧ Hid (insMany R [] = insMany (R.drop i) L) ∧ L.length ≤ 12 ∧ Hid (wr.ownsRow w.heap.size 26 3 (.slice lo L.length lc) L.length (fl Pe.list L)) ∧ Hid (Below w.heap.size w wr)) (fun _ v4 _ => n - (intOf v4).toNat)
  case atStart => exact ⟨none, 0, 0, [], rfl, rfl, Nat.zero_le _, Lib.hid rfl, by simp, Lib.hid ⟨rfl, .inl ⟨rfl, rfl⟩⟩, Lib.hid (Below.refl _ _)⟩
  case round =>
    obtain ⟨lo, lc, i, L, rfl, rfl, hi, HM, hL12, HO, HB⟩ := hrel
    obtain ⟨ll, hll⟩ : ∃ q, L.length = q := ⟨_, rfl⟩
    rw [hll] at HO hL12 ⊢
    have HLL := Lib.hid hll
    have hi0 : (0 : Int) ≤ (i : Int) := by omega
    clear hll
    by_cases hgo : i < n ∧ ll < 12
    · obtain ⟨hin, hl⟩ := hgo
      have hii : (i : Int) < (n : Int) := by omega
      have hli : (ll : Int) < 12 := by omega
      obtain ⟨r, hr⟩ : ∃ r, R[i]? = some r := ⟨_, List.getElem?_eq_getElem (by rw [HN.out]; exact hin)⟩
      have HR := Lib.hid hr
      clear hr
      go_upto_region 5 with (fail)
      obtain ⟨gr, ro, hxo, _, _, _⟩ := (H.out.below HB.out) i r HR.out
      subst hxo
      go_wp2_with fail
      have HSL := Lib.hid (show wr.ownsRow w.heap.size 26 3 (.slice lo L.length lc) L.length (fl Pe.list L) from by rw [HLL.out]; exact HO.out)
      go_loopw [5, 6, 7, 8] (fun v5 v6 v7 v8 w1 => ∃ (oo : Option Addr) (oc k : Nat) (O : List Pe) (inn tw : Bool), v5 = .slice oo O.length oc ∧ v6 = .bool inn ∧ v7 = .bool tw ∧ v8 = .int .i64 (k : Int) ∧ k ≤ ll ∧ Hid (insAll r.1 r.2 (L.take k) = (O, inn, tw)) ∧ Hid (SoI w w1 lo lc L oo oc O)) (fun _ _ _ v8 _ => ll - (intOf v8).toNat)
      case atStart => exact ⟨none, 0, 0, [], false, false, rfl, rfl, rfl, rfl, Nat.zero_le _, Lib.hid rfl, Lib.hid ⟨HSL.out, ⟨rfl, .inl ⟨rfl, rfl⟩⟩, fun _ _ h => (by simp [blk] at h), HB.out⟩⟩
      case round =>
        obtain ⟨oo, oc, k, O, inn, tw, rfl, rfl, rfl, rfl, hk, HE, S⟩ := hrel
        obtain ⟨ol, hol⟩ : ∃ q, O.length = q := ⟨_, rfl⟩
        have hol24 : ol ≤ 2 * k := by rw [← hol]; exact insAll_le (L.take k) HE.out (by rw [List.length_take]; omega)
        rw [hol]
        have HOL := Lib.hid hol
        have hk0 : (0 : Int) ≤ (k : Int) := by omega
        clear hol
        by_cases hkl : k < ll
        · have hkll : (k : Int) < (ll : Int) := by omega
          obtain ⟨x, hx⟩ : ∃ x, L[k]? = some x := ⟨_, List.getElem?_eq_getElem (by rw [HLL.out]; exact hkl)⟩
          have HX := Lib.hid hx
          obtain ⟨g, hg, _, _, _, _⟩ := owns_none S.out.l (by rw [HLL.out]; omega)
          subst hg
          obtain ⟨ev, hev⟩ : ∃ y, (x.h == r.1 && x.l == r.2) = y := ⟨_, rfl⟩
          obtain ⟨lw, hlw⟩ : ∃ y, ls r.1 r.2 x.h x.l = y := ⟨_, rfl⟩
          have HEV := Lib.hid hev; have HLW := Lib.hid hlw
          clear hx hev hlw
          cases tw
          all_goals
            go_upto_region 11 with (fail)
            have q1 := owns_px S.out.l HX.out (q := 1) (by omega); have q2 := owns_px S.out.l HX.out (q := 2) (by omega); have q0 := owns_px S.out.l HX.out (q := 0) (by omega)
            simp only [List.getElem?_cons_succ, List.getElem?_cons_zero, Nat.add_zero] at q0 q1 q2
            obtain ⟨gr', ro', e, hgr, r0, r1⟩ := (H.out.below S.out.b) i r HR.out
            cases e
            replace q1 := cell_regrown q1; replace q2 := cell_regrown q2; replace r0 := cell_regrown r0; replace r1 := cell_regrown r1
            have EQ := eql_pos x.h x.l r.1 r.2
            rw [HEV.out] at EQ
            refine wp_region_quiet_below (by kernel_rfl) (by kernel_rfl) ?_
            repeat (go_big_quiet_step (fail))
            refine wpQuiet_nil ?_
            intro _ hw'
            obtain ⟨⟨dq, osq⟩, hw''⟩ := hw'
            subst hw''
            have S2 := Lib.hid (S.out.below (below_regrown wr dq osq))
            clear q0 q1 q2 r0 r1 hgr EQ
            generalize grow (redrawn wr dq) osq = w2 at *
            go_upto_region 12 with (fail)
            have q1 := owns_px S2.out.l HX.out (q := 1) (by omega); have q2 := owns_px S2.out.l HX.out (q := 2) (by omega); have q0 := owns_px S2.out.l HX.out (q := 0) (by omega)
            simp only [List.getElem?_cons_succ, List.getElem?_cons_zero, Nat.add_zero] at q0 q1 q2
            obtain ⟨gr', ro', e, hgr, r0, r1⟩ := (H.out.below S2.out.b) i r HR.out
            cases e
            replace q1 := cell_regrown q1; replace q2 := cell_regrown q2; replace r0 := cell_regrown r0; replace r1 := cell_regrown r1
            have CB := Lib.hid (fun d os => Calls.regrown_of (rless_any r.1 r.2 x.h x.l (grow (redrawn w2 d) os)))
            rw [HLW.out] at CB
            refine wp_region_quiet_below (by kernel_rfl) (by kernel_rfl) ?_
            repeat (go_big_quiet_step (exact CB.out _ _))
            refine wpQuiet_nil ?_
            intro _ hw'
            obtain ⟨⟨dq, osq⟩, hw''⟩ := hw'
            subst hw''
            have S3 := Lib.hid (S2.out.below (below_regrown w2 dq osq))
            clear q0 q1 q2 r0 r1 hgr CB
            generalize grow (redrawn w2 dq) osq = w3 at *
            cases lw
            case false =>
              have AO5 := Lib.hid (show (w3.alloc (.cells #[.int .i64 (Pe.n x), .int .u64 (Pe.h x), .int .u64 (Pe.l x)] 26)).ownsRow w.heap.size 26 3 (.slice oo (ol) oc) (ol) (fl Pe.list (O)) from by
                have := (S3.out.below (below_alloc (Below.refl _ _) (.cells #[.int .i64 (Pe.n x), .int .u64 (Pe.h x), .int .u64 (Pe.l x)] 26))).o
                rw [HOL.out] at this
                exact this)
              have q1 := owns_px S3.out.l HX.out (q := 1) (by omega); have q2 := owns_px S3.out.l HX.out (q := 2) (by omega); have q0 := owns_px S3.out.l HX.out (q := 0) (by omega)
              simp only [List.getElem?_cons_succ, List.getElem?_cons_zero, Nat.add_zero] at q0 q1 q2
              obtain ⟨gr', ro', e, hgr, r0, r1⟩ := (H.out.below S3.out.b) i r HR.out
              cases e
              go_wp2_with (at_builtin; refine wpList_append_lies _ rfl (.tmp 64) (.tmp 69) 39 rfl w.heap.size 26 i0 _ 3 24 Try.underlying39 HI0.out HZ0.out HZ1.out HZ2.out rfl (by decide) (.slice oo (ol) oc) (ol) (fl Pe.list (O)) rfl AO5.out ⟨w3.heap.size, 0, none⟩ 1 1 (Pe.list x) rfl rfl (news_pe (x := x) (heap_alloc_new w3 _)) (pe_one x) (by decide) (by unfold maxLen; omega) (by omega) (by have := S3.out.b.size; simp; omega) _ rfl ?_; intro ga ca v4 own4 gr4 at4 lt4)
              have S5 := Lib.hid (S3.out.push (below_alloc (Below.refl w3.heap.size w3) (.cells #[.int .i64 (Pe.n x), .int .u64 (Pe.h x), .int .u64 (Pe.l x)] 26)) (x := x) (by rw [HOL.out]; exact own4) (by rw [HOL.out]; exact gr4) (by rw [HOL.out]; exact at4))
              clear own4 gr4 at4 lt4
              clear q0 q1 q2 r0 r1 hgr
              go_wp2_with fail
              go_roundw
              case rel => exact ⟨_, _, k + 1, O ++ [x], _, _, by rw [List.length_append, HOL.out]; rfl, rfl, rfl, by go_num, by omega, Lib.hid (by rw [insAll_take _ _ _ _ _ HX.out, HE.out]; simp [insStep, HLW.out, HEV.out]), S5⟩
              case measure => simp [intOf]; omega
            case true =>
              cases inn
              case true =>
                have AO5 := Lib.hid (show (w3.alloc (.cells #[.int .i64 (Pe.n x), .int .u64 (Pe.h x), .int .u64 (Pe.l x)] 26)).ownsRow w.heap.size 26 3 (.slice oo (ol) oc) (ol) (fl Pe.list (O)) from by
                  have := (S3.out.below (below_alloc (Below.refl _ _) (.cells #[.int .i64 (Pe.n x), .int .u64 (Pe.h x), .int .u64 (Pe.l x)] 26))).o
                  rw [HOL.out] at this
                  exact this)
                have q1 := owns_px S3.out.l HX.out (q := 1) (by omega); have q2 := owns_px S3.out.l HX.out (q := 2) (by omega); have q0 := owns_px S3.out.l HX.out (q := 0) (by omega)
                simp only [List.getElem?_cons_succ, List.getElem?_cons_zero, Nat.add_zero] at q0 q1 q2
                obtain ⟨gr', ro', e, hgr, r0, r1⟩ := (H.out.below S3.out.b) i r HR.out
                cases e
                go_wp2_with (at_builtin; refine wpList_append_lies _ rfl (.tmp 64) (.tmp 69) 39 rfl w.heap.size 26 i0 _ 3 24 Try.underlying39 HI0.out HZ0.out HZ1.out HZ2.out rfl (by decide) (.slice oo (ol) oc) (ol) (fl Pe.list (O)) rfl AO5.out ⟨w3.heap.size, 0, none⟩ 1 1 (Pe.list x) rfl rfl (news_pe (x := x) (heap_alloc_new w3 _)) (pe_one x) (by decide) (by unfold maxLen; omega) (by omega) (by have := S3.out.b.size; simp; omega) _ rfl ?_; intro ga ca v4 own4 gr4 at4 lt4)
                have S5 := Lib.hid (S3.out.push (below_alloc (Below.refl w3.heap.size w3) (.cells #[.int .i64 (Pe.n x), .int .u64 (Pe.h x), .int .u64 (Pe.l x)] 26)) (x := x) (by rw [HOL.out]; exact own4) (by rw [HOL.out]; exact gr4) (by rw [HOL.out]; exact at4))
                clear own4 gr4 at4 lt4
                clear q0 q1 q2 r0 r1 hgr
                go_wp2_with fail
                go_roundw
                case rel => exact ⟨_, _, k + 1, O ++ [x], _, _, by rw [List.length_append, HOL.out]; rfl, rfl, rfl, by go_num, by omega, Lib.hid (by rw [insAll_take _ _ _ _ _ HX.out, HE.out]; simp [insStep, HLW.out, HEV.out]), S5⟩
                case measure => simp [intOf]; omega
              case false =>
                have AO4 := Lib.hid (show (w3.alloc (.cells #[.int .i64 (Pe.n (⟨0, r.1, r.2⟩ : Pe)), .int .u64 (Pe.h (⟨0, r.1, r.2⟩ : Pe)), .int .u64 (Pe.l (⟨0, r.1, r.2⟩ : Pe))] 26)).ownsRow w.heap.size 26 3 (.slice oo (ol) oc) (ol) (fl Pe.list (O)) from by
                  have := (S3.out.below (below_alloc (Below.refl _ _) (.cells #[.int .i64 (Pe.n (⟨0, r.1, r.2⟩ : Pe)), .int .u64 (Pe.h (⟨0, r.1, r.2⟩ : Pe)), .int .u64 (Pe.l (⟨0, r.1, r.2⟩ : Pe))] 26))).o
                  rw [HOL.out] at this
                  exact this)
                have q1 := owns_px S3.out.l HX.out (q := 1) (by omega); have q2 := owns_px S3.out.l HX.out (q := 2) (by omega); have q0 := owns_px S3.out.l HX.out (q := 0) (by omega)
                simp only [List.getElem?_cons_succ, List.getElem?_cons_zero, Nat.add_zero] at q0 q1 q2
                obtain ⟨gr', ro', e, hgr, r0, r1⟩ := (H.out.below S3.out.b) i r HR.out
                cases e
                go_upto_region 16 with (at_builtin; refine wpList_append_lies _ rfl (.tmp 56) (.tmp 62) 39 rfl w.heap.size 26 i0 _ 3 24 Try.underlying39 HI0.out HZ0.out HZ1.out HZ2.out rfl (by decide) (.slice oo (ol) oc) (ol) (fl Pe.list (O)) rfl AO4.out ⟨w3.heap.size, 0, none⟩ 1 1 (Pe.list (⟨0, r.1, r.2⟩ : Pe)) rfl rfl (news_pe (x := (⟨0, r.1, r.2⟩ : Pe)) (heap_alloc_new w3 _)) (pe_one (⟨0, r.1, r.2⟩ : Pe)) (by decide) (by unfold maxLen; omega) (by omega) (by have := S3.out.b.size; simp; omega) _ rfl ?_; intro ga ca v4 own4 gr4 at4 lt4)
                clear q0 q1 q2 r0 r1 hgr
                have S4 := Lib.hid (S3.out.push (below_alloc (Below.refl w3.heap.size w3) (.cells #[.int .i64 (Pe.n (⟨0, r.1, r.2⟩ : Pe)), .int .u64 (Pe.h (⟨0, r.1, r.2⟩ : Pe)), .int .u64 (Pe.l (⟨0, r.1, r.2⟩ : Pe))] 26)) (x := (⟨0, r.1, r.2⟩ : Pe)) (by rw [HOL.out]; exact own4) (by rw [HOL.out]; exact gr4) (by rw [HOL.out]; exact at4))
                clear own4 gr4 at4 lt4
                have HOL4 := Lib.hid (show (O ++ [(⟨0, r.1, r.2⟩ : Pe)]).length = ol + 1 from by rw [List.length_append, HOL.out]; rfl)
                have AO5 := Lib.hid (show (v4.alloc (.cells #[.int .i64 (Pe.n x), .int .u64 (Pe.h x), .int .u64 (Pe.l x)] 26)).ownsRow w.heap.size 26 3 (.slice (some ⟨ga, 0, none⟩) (ol + 1) ca) (ol + 1) (fl Pe.list ((O ++ [(⟨0, r.1, r.2⟩ : Pe)]))) from by
                  have := (S4.out.below (below_alloc (Below.refl _ _) (.cells #[.int .i64 (Pe.n x), .int .u64 (Pe.h x), .int .u64 (Pe.l x)] 26))).o
                  rw [HOL4.out] at this
                  exact this)
                have q1 := owns_px S4.out.l HX.out (q := 1) (by omega); have q2 := owns_px S4.out.l HX.out (q := 2) (by omega); have q0 := owns_px S4.out.l HX.out (q := 0) (by omega)
                simp only [List.getElem?_cons_succ, List.getElem?_cons_zero, Nat.add_zero] at q0 q1 q2
                obtain ⟨gr', ro', e, hgr, r0, r1⟩ := (H.out.below S4.out.b) i r HR.out
                cases e
                go_wp2_with (at_builtin; refine wpList_append_lies _ rfl (.tmp 64) (.tmp 69) 39 rfl w.heap.size 26 i0 _ 3 24 Try.underlying39 HI0.out HZ0.out HZ1.out HZ2.out rfl (by decide) (.slice (some ⟨ga, 0, none⟩) (ol + 1) ca) (ol + 1) (fl Pe.list ((O ++ [(⟨0, r.1, r.2⟩ : Pe)]))) rfl AO5.out ⟨v4.heap.size, 0, none⟩ 1 1 (Pe.list x) rfl rfl (news_pe (x := x) (heap_alloc_new v4 _)) (pe_one x) (by decide) (by unfold maxLen; omega) (by omega) (by have := S4.out.b.size; simp; omega) _ rfl ?_; intro ga5 ca5 v5 own4 gr4 at4 lt4)
                have S5 := Lib.hid (S4.out.push (below_alloc (Below.refl v4.heap.size v4) (.cells #[.int .i64 (Pe.n x), .int .u64 (Pe.h x), .int .u64 (Pe.l x)] 26)) (x := x) (by rw [HOL4.out]; exact own4) (by rw [HOL4.out]; exact gr4) (by rw [HOL4.out]; exact at4))
                clear own4 gr4 at4 lt4
                clear q0 q1 q2 r0 r1 hgr
                go_wp2_with fail
                go_roundw
                case rel => exact ⟨_, _, k + 1, (O ++ [(⟨0, r.1, r.2⟩ : Pe)]) ++ [x], _, _, by rw [List.length_append, HOL4.out]; rfl, rfl, rfl, by go_num, by omega, Lib.hid (by rw [insAll_take _ _ _ _ _ HX.out, HE.out]; simp [insStep, HLW.out, HEV.out]), S5⟩
                case measure => simp [intOf]; omega
        · have hkll : ¬ (k : Int) < (ll : Int) := by omega
          have HE2 := Lib.hid (show insAll r.1 r.2 L = (O, inn, tw) from by have := HE.out; rwa [List.take_of_length_le (by rw [HLL.out]; omega)] at this)
          have HLN := Lib.hid (insAll_len HE2.out)
          have HM2 := Lib.hid (HM.out.trans (insMany_step HR.out (by rw [HLL.out]; exact hl)))
          cases inn
          case true =>
            cases tw
            case true =>
              go_wp2_with fail
              go_roundw
              case rel => exact ⟨lo, lc, i + 1, L, by rw [HLL.out], by go_num, by omega, Lib.hid (by rw [HM2.out]; simp [insOne, HE2.out]), by have t1 := HLN.out; have t2 := HLL.out; simp at t1 ⊢; omega, Lib.hid S.out.l, Lib.hid S.out.b⟩
              case measure => simp [intOf]; omega
            case false =>
              go_wp2_with fail
              go_roundw
              case rel => exact ⟨oo, oc, i + 1, O, by rw [HOL.out], by go_num, by omega, Lib.hid (by rw [HM2.out]; simp [insOne, HE2.out]), by have t1 := HLN.out; have t2 := HLL.out; simp at t1 ⊢; omega, Lib.hid S.out.o, Lib.hid S.out.b⟩
              case measure => simp [intOf]; omega
          case false =>
            have AO6 := Lib.hid (show (wr.alloc (.cells #[.int .i64 (Pe.n (⟨0, r.1, r.2⟩ : Pe)), .int .u64 (Pe.h (⟨0, r.1, r.2⟩ : Pe)), .int .u64 (Pe.l (⟨0, r.1, r.2⟩ : Pe))] 26)).ownsRow w.heap.size 26 3 (.slice oo (ol) oc) (ol) (fl Pe.list (O)) from by
              have := (S.out.below (below_alloc (Below.refl _ _) (.cells #[.int .i64 (Pe.n (⟨0, r.1, r.2⟩ : Pe)), .int .u64 (Pe.h (⟨0, r.1, r.2⟩ : Pe)), .int .u64 (Pe.l (⟨0, r.1, r.2⟩ : Pe))] 26))).o
              rw [HOL.out] at this
              exact this)
            obtain ⟨gr', ro', e, hgr, r0, r1⟩ := (H.out.below S.out.b) i r HR.out
            cases e
            go_upto_region 19 with (at_builtin; refine wpList_append_lies _ rfl (.tmp 73) (.tmp 79) 39 rfl w.heap.size 26 i0 _ 3 24 Try.underlying39 HI0.out HZ0.out HZ1.out HZ2.out rfl (by decide) (.slice oo (ol) oc) (ol) (fl Pe.list (O)) rfl AO6.out ⟨wr.heap.size, 0, none⟩ 1 1 (Pe.list (⟨0, r.1, r.2⟩ : Pe)) rfl rfl (news_pe (x := (⟨0, r.1, r.2⟩ : Pe)) (heap_alloc_new wr _)) (pe_one (⟨0, r.1, r.2⟩ : Pe)) (by decide) (by unfold maxLen; omega) (by omega) (by have := S.out.b.size; simp; omega) _ rfl ?_; intro ga ca v4 own4 gr4 at4 lt4)
            have S6 := Lib.hid (S.out.push (below_alloc (Below.refl wr.heap.size wr) (.cells #[.int .i64 (Pe.n (⟨0, r.1, r.2⟩ : Pe)), .int .u64 (Pe.h (⟨0, r.1, r.2⟩ : Pe)), .int .u64 (Pe.l (⟨0, r.1, r.2⟩ : Pe))] 26)) (x := (⟨0, r.1, r.2⟩ : Pe)) (by rw [HOL.out]; exact own4) (by rw [HOL.out]; exact gr4) (by rw [HOL.out]; exact at4))
            clear own4 gr4 at4 lt4
            clear r0 r1 hgr
            cases tw
            case true =>
              go_wp2_with fail
              go_roundw
              case rel => exact ⟨lo, lc, i + 1, L, by rw [HLL.out], by go_num, by omega, Lib.hid (by rw [HM2.out]; simp [insOne, HE2.out]), by have t1 := HLN.out; have t2 := HLL.out; simp at t1 ⊢; omega, Lib.hid S6.out.l, Lib.hid S6.out.b⟩
              case measure => simp [intOf]; omega
            case false =>
              go_wp2_with fail
              go_roundw
              case rel => exact ⟨(some ⟨ga, 0, none⟩), ca, i + 1, O ++ [(⟨0, r.1, r.2⟩ : Pe)], by rw [List.length_append, HOL.out]; rfl, by go_num, by omega, Lib.hid (by rw [HM2.out]; simp [insOne, HE2.out]), by have t1 := HLN.out; have t2 := HLL.out; simp at t1 ⊢; omega, Lib.hid S6.out.o, Lib.hid S6.out.b⟩
              case measure => simp [intOf]; omega
    · have HF := Lib.hid (show insMany R [] = L from by
        rw [HM.out]
        rcases (by omega : ¬ i < n ∨ ¬ ll < 12) with h | h
        · rw [List.drop_eq_nil_of_le (by rw [HN.out]; omega)]; rfl
        · exact insMany_over (by rw [HLL.out]; exact h))
      by_cases hin : i < n
      · have hii : (i : Int) < (n : Int) := by omega
        have hli : ¬ (ll : Int) < 12 := by omega
        have hz : ¬ ll = 0 := by omega
        clear hgo
        have hzi : ¬ (ll : Int) = 0 := by omega
        obtain ⟨g, hg, _, _, _, _⟩ := owns_none HO.out (by omega)
        subst hg
        have HOW := HO; have HBW := HB; have HML := HLL
        have HFM := Lib.hid (show sortedN R = numbered L from by unfold sortedN; rw [HF.out]; simp [HLL.out, hz])
        go_wp2_with fail
        go_loopw [10] (fun v10 w1 => ∃ k : Nat, v10 = .int .i64 (k : Int) ∧ k ≤ ll ∧ Hid (w1.ownsRow w.heap.size 26 3 (.slice (some ⟨g, 0, none⟩) ll lc) ll (fl Pe.list (numK L k))) ∧ Hid (Below w.heap.size w w1)) (fun v10 _ => ll - (intOf v10).toNat)
        case atStart => exact ⟨0, rfl, Nat.zero_le _, Lib.hid (by rw [numK_zero]; exact HOW.out), HBW⟩
        case round =>
          obtain ⟨k, rfl, hk, HK, HB2⟩ := hrel
          have hk0 : (0 : Int) ≤ (k : Int) := by omega
          by_cases hkl : k < ll
          · have hkll : (k : Int) < (ll : Int) := by omega
            obtain ⟨x, hx⟩ : ∃ x, L[k]? = some x := ⟨_, List.getElem?_eq_getElem (by rw [HML.out]; exact hkl)⟩
            have HX := Lib.hid hx
            obtain ⟨cv, hcv, hfz, hgl, hgB⟩ := owns_pc HK.out (k * 3) (by omega)
            have HGL := Lib.hid hgl; have HGB := Lib.hid hgB
            clear hx hgB
            go_wp2_with fail
            go_roundw
            case rel => exact ⟨k + 1, by go_num, by omega, Lib.hid (num_push HK.out HX.out HML.out), Lib.hid (HB2.out.trans ((Keep.setCell wr ⟨g, k * 3, none⟩ (.int .i64 (k : Int))).below HB2.out.size (fun q hq => by simp only [List.mem_singleton] at hq; subst hq; exact HGB.out)))⟩
            case measure => simp [intOf]; omega
          · have hkll : ¬ (k : Int) < (ll : Int) := by omega
            have hkk : k = ll := by omega
            have HSN := Lib.hid (show sortedN R = numK L k ∧ (numK L k).length = ll from ⟨by rw [HFM.out, ← numK_all, HML.out, hkk], by rw [numK_len, HML.out]⟩)
            go_wp2_with fail
            go_ret
            rw [HSN.out.1, HSN.out.2]
            exact ⟨_, _, rfl, HK.out, HB2.out⟩
      · have hii : ¬ (i : Int) < (n : Int) := by omega
        clear hgo
        by_cases hz : ll = 0
        · subst hz
          go_wp2_with fail
          have HOW := Lib.hid (show (wr.alloc (.cells #[.int .i64 0, .int .u64 0, .int .u64 0] 26)).ownsRow w.heap.size 26 3 (.slice (some ⟨wr.heap.size, 0, none⟩) 1 1) 1 (fl Pe.list [⟨0, 0, 0⟩]) from ⟨rfl, .inr ⟨wr.heap.size, 1, _, rfl, HB.out.size, heap_alloc_new wr _, by omega, by unfold maxLen; omega, rfl, rfl⟩⟩)
          have HBW := Lib.hid (HB.out.trans ((below_alloc (Below.refl wr.heap.size wr) (.cells #[.int .i64 0, .int .u64 0, .int .u64 0] 26)).mono HB.out.size))
          have HML := Lib.hid (show ([⟨0, 0, 0⟩] : List Pe).length = 1 from rfl)
          have HFM := Lib.hid (show sortedN R = numbered [⟨0, 0, 0⟩] from by unfold sortedN; rw [HF.out]; simp [HLL.out])
          generalize wr.alloc (.cells #[.int .i64 0, .int .u64 0, .int .u64 0] 26) = wz at *
          obtain ⟨g, hg⟩ : ∃ q, q = wr.heap.size := ⟨_, rfl⟩
          rw [← hg] at HOW ⊢
          clear hg
          go_loopw [10] (fun v10 w1 => ∃ k : Nat, v10 = .int .i64 (k : Int) ∧ k ≤ 1 ∧ Hid (w1.ownsRow w.heap.size 26 3 (.slice (some ⟨g, 0, none⟩) 1 1) 1 (fl Pe.list (numK ([⟨0, 0, 0⟩] : List Pe) k))) ∧ Hid (Below w.heap.size w w1)) (fun v10 _ => 1 - (intOf v10).toNat)
          case atStart => exact ⟨0, rfl, Nat.zero_le _, Lib.hid (by rw [numK_zero]; exact HOW.out), HBW⟩
          case round =>
            obtain ⟨k, rfl, hk, HK, HB2⟩ := hrel
            have hk0 : (0 : Int) ≤ (k : Int) := by omega
            by_cases hkl : k < 1
            · have hkll : (k : Int) < (1 : Int) := by omega
              obtain ⟨x, hx⟩ : ∃ x, ([⟨0, 0, 0⟩] : List Pe)[k]? = some x := ⟨_, List.getElem?_eq_getElem (by rw [HML.out]; exact hkl)⟩
              have HX := Lib.hid hx
              obtain ⟨cv, hcv, hfz, hgl, hgB⟩ := owns_pc HK.out (k * 3) (by omega)
              have HGL := Lib.hid hgl; have HGB := Lib.hid hgB
              clear hx hgB
              go_wp2_with fail
              go_roundw
              case rel => exact ⟨k + 1, by go_num, by omega, Lib.hid (num_push HK.out HX.out HML.out), Lib.hid (HB2.out.trans ((Keep.setCell wr ⟨g, k * 3, none⟩ (.int .i64 (k : Int))).below HB2.out.size (fun q hq => by simp only [List.mem_singleton] at hq; subst hq; exact HGB.out)))⟩
              case measure => simp [intOf]; omega
            · have hkll : ¬ (k : Int) < (1 : Int) := by omega
              have hkk : k = 1 := by omega
              have HSN := Lib.hid (show sortedN R = numK ([⟨0, 0, 0⟩] : List Pe) k ∧ (numK ([⟨0, 0, 0⟩] : List Pe) k).length = 1 from ⟨by rw [HFM.out, ← numK_all, HML.out, hkk], by rw [numK_len, HML.out]⟩)
              go_wp2_with fail
              go_ret
              rw [HSN.out.1, HSN.out.2]
              exact ⟨_, _, rfl, HK.out, HB2.out⟩
        · have hzi : ¬ (ll : Int) = 0 := by omega
          obtain ⟨g, hg, _, _, _, _⟩ := owns_none HO.out (by omega)
          subst hg
          have HOW := HO; have HBW := HB; have HML := HLL
          have HFM := Lib.hid (show sortedN R = numbered L from by unfold sortedN; rw [HF.out]; simp [HLL.out, hz])
          go_wp2_with fail
          go_loopw [10] (fun v10 w1 => ∃ k : Nat, v10 = .int .i64 (k : Int) ∧ k ≤ ll ∧ Hid (w1.ownsRow w.heap.size 26 3 (.slice (some ⟨g, 0, none⟩) ll lc) ll (fl Pe.list (numK L k))) ∧ Hid (Below w.heap.size w w1)) (fun v10 _ => ll - (intOf v10).toNat)
          case atStart => exact ⟨0, rfl, Nat.zero_le _, Lib.hid (by rw [numK_zero]; exact HOW.out), HBW⟩
          case round =>
            obtain ⟨k, rfl, hk, HK, HB2⟩ := hrel
            have hk0 : (0 : Int) ≤ (k : Int) := by omega
            by_cases hkl : k < ll
            · have hkll : (k : Int) < (ll : Int) := by omega
              obtain ⟨x, hx⟩ : ∃ x, L[k]? = some x := ⟨_, List.getElem?_eq_getElem (by rw [HML.out]; exact hkl)⟩
              have HX := Lib.hid hx
              obtain ⟨cv, hcv, hfz, hgl, hgB⟩ := owns_pc HK.out (k * 3) (by omega)
              have HGL := Lib.hid hgl; have HGB := Lib.hid hgB
              clear hx hgB
              go_wp2_with fail
              go_roundw
              case rel => exact ⟨k + 1, by go_num, by omega, Lib.hid (num_push HK.out HX.out HML.out), Lib.hid (HB2.out.trans ((Keep.setCell wr ⟨g, k * 3, none⟩ (.int .i64 (k : Int))).below HB2.out.size (fun q hq => by simp only [List.mem_singleton] at hq; subst hq; exact HGB.out)))⟩
              case measure => simp [intOf]; omega
            · have hkll : ¬ (k : Int) < (ll : Int) := by omega
              have hkk : k = ll := by omega
              have HSN := Lib.hid (show sortedN R = numK L k ∧ (numK L k).length = ll from ⟨by rw [HFM.out, ← numK_all, HML.out, hkk], by rw [numK_len, HML.out]⟩)
              go_wp2_with fail
              go_ret
              rw [HSN.out.1, HSN.out.2]
              exact ⟨_, _, rfl, HK.out, HB2.out⟩
end Go.Proofs.Ytokmchkoojeadaa
