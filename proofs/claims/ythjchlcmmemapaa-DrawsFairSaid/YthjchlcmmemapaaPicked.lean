/- picked of the statements. -/
import Derived.Test.YthjchlcmmemapaaMixed
namespace Go.Proofs.Ythjchlcmmemapaa
open Go.RowKit Go.Sort
set_option linter.unusedVariables false

theorem run_cuth (w : World) (g o n cap hi : Nat) (h : hi ≤ cap) : (Instr.sliceAt 30 (.slice (some ⟨g, o, none⟩) n cap) none (some (.int .i64 (hi : Int))) none).run Try.prog w = .ok (.slice (some ⟨g, o, none⟩) hi cap) w := by
  rw [run_sliceAt_slice _ _ _ _ _ _ byte_elem, run_slice_h w _ _ n cap byte_elem .i64 (hi : Int) (by omega) (by omega), byte_size]
  simp [Result.andThen, sliced, Addr.add_lit]

theorem Rd.keep0 {w w' : World} {ao : Option Addr} {l : List Int} {S : List Nat} (h : Rd w ao l) (k : Keep S w w') (hn : 0 < l.length → ∀ g ∈ blk ao, g ∉ S) : Rd w' ao l := by
  refine ⟨h.lt, fun j hj => ?_⟩
  obtain ⟨g, o, rfl, h2, h3⟩ := h.at_ j hj
  exact ⟨g, o, rfl, Nat.lt_of_lt_of_le h2 k.size, (k.cell h2 (hn (by omega) g (by simp [blk]))).trans h3⟩
theorem last_bt (l : List Int) (x : Int) (n : Nat) (h : l.length = n) : bt (l ++ [x]) n = x := by
  subst h
  simp [bt]

set_option maxRecDepth 10000 in
set_option maxHeartbeats 8000000 in
/-- the walk, whatever Pick and its like of the document's answer come to -/
theorem picked_walk (B g1 g2 s s' n : Nat) (ao : Option Addr) (cap : Nat) (l : List Int) (hl : l.length = n) (hz : n ≤ 17592186043904) (w : World) (hr : Rd w ao l) (hb : Both w B g1 g2 s)
    (x y : Int) (v : Value) (m : Bool)
    (P1 : ∀ (bo : Option Addr) (c : Nat) (w' : World), Rd w' bo l → g1 ∉ blk bo → Both w' B g1 g2 s → Calls Try.prog 21 #[.pointer (some ⟨g1, 0, none⟩), .slice bo n c] w' fun e w'' => e = .returned (.tuple #[.int .i64 x, .int .i64 y]) ∧ Gen w'' B g1 s' ∧ Keep [g1] w' w'')
    (P2 : ∀ w', Rd w' ao l → Calls Try.prog 27 #[.slice ao n cap] w' fun e w'' => (∃ v', (m = true → v' = v) ∧ e = .returned (.tuple #[v', .bool m])) ∧ w' = w'')
    (P3 : m = true → y = 0 ∧ ∀ w', Rd w' ao l → Gen w' B g2 s → Calls Try.prog 28 #[.pointer (some ⟨g2, 0, none⟩), .slice ao n cap, v] w' fun e w'' => e = .returned (.int .i64 x) ∧ Gen w'' B g2 s' ∧ Keep [g2] w' w'')
    (P4 : m = false → x = 0 ∧ y = 1 ∧ s' = s) (h1 : 0 < n → g1 ∉ blk ao) :
    Calls Try.prog 15 #[.pointer (some ⟨g1, 0, none⟩), .pointer (some ⟨g2, 0, none⟩), .slice ao n cap] w (Went B g1 g2 w) := by
  have HR := Lib.hid hr; have HL := Lib.hid hl; have HB := Lib.hid hb
  have hl1 := hb.one.lt; have hl2 := hb.two.lt; have hne := hb.ne
  have Q1 := Lib.hid P1; have Q2 := Lib.hid P2; have Q3 := Lib.hid P3; have Q4 := Lib.hid P4
  have H1 := Lib.hid h1
  clear hr hl hb P1 P2 P3 P4 h1
  go_enter Try.func15, Try.ntmps15
  go_wp2_with (first
    | (at_builtin; refine wpList_app rfl (.tmp 13) (.tmp 14) rfl rfl (Own.none' w w.heap.size (Nat.le_refl _)) rfl (HR.out.below (below_alloc (Below.refl _ _) _)) HL.out (by simp) (by omega) ?_; intro a1 c1 w1 own1 kp1 nb1; simp only [Nat.zero_add, List.nil_append] at own1; have hs1 : w.heap.size ≤ w1.heap.size := by { have := kp1.size; simp at this; omega }; have b1 := (Own.none' w w.heap.size (Nat.le_refl _)).step (below_alloc (Below.refl _ _) _) (by simp) kp1)
    | (at_builtin; refine wpList_app rfl (.tmp 15) (.tmp 16) rfl rfl (own1.below (below_alloc (Below.refl _ _) _)) rfl (Own.one w1 0 77 (by unfold okI; omega) (by omega)).rd rfl (by simp; omega) (by omega) ?_; intro a2 c2 w2 own2 kp2 nb2; have hle2 := own2.le))
  have b2 := (own1.below (below_alloc (Below.refl _ _) _)).step (b1.alloc (by omega) _) (by simp; omega) kp2
  have hs2 := b2.size
  have hq2 := own2.lt_size
  obtain ⟨g, o, rfl, hB, hgs, hc77, _⟩ := own2.at_ n (by omega)
  rw [last_bt l 77 n HL.out] at hc77
  have hrd : Rd w2 (some ⟨g, o, none⟩) l := by have := own2.rd.take n; rwa [List.take_left' HL.out] at this
  have hcut := run_cuth w2 g o (n + 1) c2 n (by omega)
  have HRD := Lib.hid hrd; have HB2 := Lib.hid (HB.out.below b2); have HR2 := Lib.hid (HR.out.below b2); have B2 := Lib.hid b2
  clear own1 own2 kp1 kp2 nb1 nb2 b1 b2 hrd hq2
  have hng : g1 ∉ blk (some ⟨g, o, none⟩) := by simp [blk]; omega
  go_wp2_with (refine wpList_value rfl _ (exec_slice 30 (.tmp 20) none (some (.tmp 22)) rfl rfl rfl rfl hcut) ?_)
  refine (Q1.out _ _ w2 HRD.out hng HB2.out).mono ?_; rintro e w3 ⟨rfl, hg3, k3⟩
  have hs3 := k3.size
  have hrd3 := HRD.out.keep k3 (fun q hq hm => by rw [List.mem_singleton] at hm; subst hm; exact hng hq)
  have hr3 := HR2.out.keep0 k3 (fun h0 q hq hm => by rw [List.mem_singleton] at hm; subst hm; exact H1.out (by have := HL.out; omega) hq)
  have hh3 := HB2.out.two.keep k3 (by simpa using fun h => hne h.symm)
  have hc3 := (k3.cell (a := ⟨g, o + n, none⟩) hgs (by simp; omega)).trans hc77
  have hcut3 := run_cuth w3 g o (n + 1) c2 n (by omega)
  have kk3 := (Keep.of_below B2.out [g1]).trans k3
  have HRD3 := Lib.hid hrd3; have HR3 := Lib.hid hr3; have HG3 := Lib.hid hg3; have HH3 := Lib.hid hh3; have KK3 := Lib.hid kk3
  have hgs3 : g < w3.heap.size := by omega
  clear hrd3 hr3 hg3 hh3 kk3 k3 hcut hc77 HRD HB2 HR2 B2 Q1
  go_wp2_with (refine wpList_value rfl _ (exec_slice 30 (.tmp 27) none (some (.tmp 29)) rfl rfl rfl rfl hcut3) ?_)
  refine (same_any n hz l HL.out _ _ _ _ w3 HRD3.out HR3.out).mono ?_; rintro e w4 ⟨rfl, b4⟩
  have hc4 := (b4.cell (p := ⟨g, o + n, none⟩) hgs3).trans hc3
  have HR4 := Lib.hid (HR3.out.below b4); have HG4 := Lib.hid (HG3.out.below b4); have HH4 := Lib.hid (HH3.out.below b4); have KK4 := Lib.hid (KK3.out.trans (Keep.of_below b4 [g1]))
  clear hc3 hcut3 b4 HRD3 HR3 HG3 HH3 KK3
  go_wp2_with fail
  refine (Q2.out w4 HR4.out).mono ?_; rintro e w5 ⟨⟨v', hv, rfl⟩, rfl⟩
  cases m with
  | false =>
    obtain ⟨rfl, rfl, rfl⟩ := Q4.out rfl
    clear Q2 Q3 Q4
    go_wp2_with fail
    go_ret
    exact ⟨s', rfl, ⟨HG4.out, HH4.out, hne⟩, KK4.out.wide (by simp)⟩
  | true =>
    obtain rfl := hv rfl
    obtain ⟨rfl, q3⟩ := Q3.out rfl
    have C3 := Lib.hid (q3 w4 HR4.out HH4.out)
    clear q3 Q2 Q3 Q4
    go_wp2_with fail
    refine C3.out.mono ?_; rintro e w6 ⟨rfl, hh6, k6⟩
    have hg6 := HG4.out.keep k6 (by simpa using hne)
    have kk6 := (KK4.out.wide (T := [g1, g2]) (by simp)).trans (k6.wide (T := [g1, g2]) (by simp))
    clear hc4
    go_wp2_with fail
    go_ret
    exact ⟨s', rfl, ⟨hg6, hh6, hne⟩, kk6⟩

theorem picked_any (B g1 g2 s n : Nat) (ao : Option Addr) (cap : Nat) (l : List Int) (hl : l.length = n) (hz : n ≤ 17592186043904) (hao : 0 < n → ∀ q ∈ blk ao, q < B) (w : World) (hr : Rd w ao l) (hb : Both w B g1 g2 s) :
    Calls Try.prog 15 #[.pointer (some ⟨g1, 0, none⟩), .pointer (some ⟨g2, 0, none⟩), .slice ao n cap] w (Went B g1 g2 w) := by
  have h1 : 0 < n → g1 ∉ blk ao := fun h0 h => by have := hao h0 _ h; have := hb.one.base; omega
  have h2 : 0 < n → g2 ∉ blk ao := fun h0 h => by have := hao h0 _ h; have := hb.two.base; omega
  by_cases hy : n ≤ 1000 ∧ may l n
  · obtain ⟨hn, hm⟩ := hy
    by_cases hp : 0 < pre l n
    · obtain ⟨p, hpn, p1, p2⟩ := place_ex (s := s) hp
      exact picked_walk B g1 g2 s (nx s) n ao cap l hl hz w hr hb p 0 (.int .u64 (pre l n : Nat)) true
        (fun bo c w' hr' hng hb' => pick_yes B g1 s bo n c l hl hn hm hp p hpn p1 p2 w' hr' hb'.one hng)
        (fun w' hr' => (maypick_yes ao n cap l hl hn hm true (decide_eq_true hp).symm w' hr').mono fun e w'' ⟨a, b⟩ => ⟨⟨_, fun _ => rfl, a⟩, b⟩)
        (fun _ => ⟨rfl, fun w' hr' hg' => rpick_any B g2 s ao n cap l hl hn hm p hpn p1 p2 w' hr' hg' (h2 (by omega))⟩) (fun h => by cases h) h1
    · exact picked_walk B g1 g2 s s n ao cap l hl hz w hr hb 0 1 (.int .u64 (pre l n : Nat)) false
        (fun bo c w' hr' hng hb' => (pick_no (some ⟨g1, 0, none⟩) bo n c l hl hz (.inr (.inr (by omega))) w' hr').mono fun e w'' ⟨a, b⟩ => ⟨a, b ▸ hb'.one, b ▸ Keep.refl _ _⟩)
        (fun w' hr' => (maypick_yes ao n cap l hl hn hm false (decide_eq_false hp).symm w' hr').mono fun e w'' ⟨a, b⟩ => ⟨⟨_, fun _ => rfl, a⟩, b⟩)
        (fun h => by cases h) (fun _ => ⟨rfl, rfl, rfl⟩) h1
  · exact picked_walk B g1 g2 s s n ao cap l hl hz w hr hb 0 1 (.int .u64 0) false
      (fun bo c w' hr' hng hb' => (pick_no (some ⟨g1, 0, none⟩) bo n c l hl hz (.inr (.inl hy)) w' hr').mono fun e w'' ⟨a, b⟩ => ⟨a, b ▸ hb'.one, b ▸ Keep.refl _ _⟩)
      (fun w' hr' => (maypick_no ao n cap l hl hz hy w' hr').mono fun e w'' ⟨⟨v, a⟩, b⟩ => ⟨⟨v, (fun h => by cases h), a⟩, b⟩)
      (fun h => by cases h) (fun _ => ⟨rfl, rfl, rfl⟩) h1
end Go.Proofs.Ythjchlcmmemapaa
