/- The head of the statements; DrawsNil, DrawsApart: the walks. -/
import Derived.Test.YthjchlcmmemapaaPicked
import Derived.Test.YthjchlcmmemapaaArg
namespace Go.Proofs.Ythjchlcmmemapaa
open Go.RowKit Go.Sort
set_option linter.unusedVariables false

theorem nextG (B g s : Nat) (w : World) (h : Gen w B g s) : Calls Try.prog 9 #[.pointer (some ⟨g, 0, none⟩)] w fun e w' => e = .returned (.int .u64 (mixN (nx s) : Nat)) ∧ Gen w' B g (nx s) ∧ Keep [g] w w' :=
  (next_any B g s w h).mono fun e w' ⟨a, b⟩ => ⟨a, b ▸ h.set _ (nx_lt s), b ▸ Keep.setCell w ⟨g, 0, none⟩ _⟩
theorem skipG (B g s x : Nat) (w : World) (h : Gen w B g s) (hx : x < 18446744073709551616) : Calls Try.prog 11 #[.pointer (some ⟨g, 0, none⟩), .int .u64 (x : Int)] w fun e w' => e = .returned (.tuple #[]) ∧ Gen w' B g (sk s x) ∧ Keep [g] w w' :=
  (skip_any B g s w h x hx).mono fun e w' ⟨a, b⟩ => ⟨a, b ▸ h.set _ (sk_lt s x), b ▸ Keep.setCell w ⟨g, 0, none⟩ _⟩
theorem newG (B s : Nat) (w : World) (hB : B ≤ w.heap.size) (hs : s < 18446744073709551616) : Calls Try.prog 8 #[.int .u64 (s : Int)] w fun e w' => ∃ g, e = .returned (.pointer (some ⟨g, 0, none⟩)) ∧ w.heap.size ≤ g ∧ Gen w' B g s ∧ Below w.heap.size w w' :=
  (new_any s w).mono fun e w' ⟨a, b⟩ => ⟨w.heap.size, a, Nat.le_refl _, b ▸ Gen.new w B s _ hB hs, b ▸ below_alloc (Below.refl _ _) _⟩
theorem first_two : mixN (nx 0) = 16294208416658607535 ∧ mixN (nx (nx 0)) = 7960286522194355700 := by decide

set_option maxHeartbeats 1000000 in
theorem awake_any (w : World) : Calls Try.prog 7 #[] w fun e w' => e = .returned (.bool true) ∧ Below w.heap.size w w' := by
  have N0 := Lib.hid (newG w.heap.size 0 w (Nat.le_refl _) (by omega))
  have N1 := Lib.hid (fun g w' h => nextG w.heap.size g 0 w' h)
  have N2 := Lib.hid (fun g w' h => nextG w.heap.size g (nx 0) w' h)
  obtain ⟨f1, f2⟩ := first_two
  rw [f1] at N1
  rw [f2] at N2
  obtain ⟨s1, hs1⟩ : ∃ s1, nx 0 = s1 := ⟨_, rfl⟩
  rw [hs1] at N1 N2
  clear f1 f2 hs1
  go_enter Try.func7, Try.ntmps7
  go_wp2_with fail
  refine N0.out.mono ?_; rintro e w1 ⟨g, rfl, hg, h1, b1⟩
  have H1 := Lib.hid h1; have B1 := Lib.hid b1; have hs1 := b1.size; have hl1 := h1.lt
  clear h1 b1
  go_wp2_with fail
  refine (N1.out g w1 H1.out).mono ?_; rintro e w2 ⟨rfl, h2, k2⟩
  have H2 := Lib.hid h2; have B2 := Lib.hid (B1.out.trans (k2.below hs1 (by simpa using hg))); have hs2 := k2.size
  clear h2 k2
  go_wp2_with fail
  refine (N2.out g w2 H2.out).mono ?_; rintro e w3 ⟨rfl, h3, k3⟩
  have B3 := Lib.hid (B2.out.trans (k3.below (by omega) (by simpa using hg)))
  clear h3 k3
  go_wp2_with fail
  go_ret
  exact ⟨rfl, B3.out⟩

set_option maxHeartbeats 4000000 in
theorem drawsNil_law (n : Int) (wn : (Lit.int .i64 n).wf = true) (ao : Option Addr) (m cap : Nat) (l : List Int) (hl : l.length = m) (hc : m ≤ cap) (hm : cap ≤ maxLen) (hz : m ≤ 17592186043904) (W : World) (hr : Rd W ao l) :
    Calls Try.prog 6 #[.int .i64 n, .slice ao m cap] W (LawOk W) := by
  have PN := Lib.hid (fun w hr => pick_no none ao m cap l hl hz (.inl rfl) w hr)
  have BN := Lib.hid (fun w => belowN_no none n (.inl rfl) w)
  have ON := Lib.hid (fun w => order_no none n (.inl rfl) w)
  have HR := Lib.hid hr
  clear hr hl wn hc hm
  go_enter Try.func6, Try.ntmps6
  go_wp2_with fail
  refine (awake_any _).mono ?_; rintro e w1 ⟨rfl, b1⟩
  have B1 := Lib.hid b1; clear b1
  go_wp2_with fail
  refine (skip_nil _ _).mono ?_; rintro e w2 ⟨rfl, rfl⟩
  go_wp2_with fail
  refine (BN.out _).mono ?_; rintro e w2 ⟨rfl, rfl⟩
  go_wp2_with fail
  refine (PN.out _ (HR.out.below B1.out)).mono ?_; rintro e w2 ⟨rfl, rfl⟩
  go_wp2_with fail
  refine (ON.out _).mono ?_; rintro e w2 ⟨rfl, rfl⟩
  go_wp2_with fail
  refine (next_nil _).mono ?_; rintro e w2 ⟨rfl, rfl⟩
  go_wp2_with fail
  refine (state_nil _).mono ?_; rintro e w2 ⟨rfl, rfl⟩
  go_wp2_with fail
  refine (fork_nil _ _).mono ?_; rintro e w2 ⟨rfl, rfl⟩
  go_wp2_with fail
  go_ret
  exact ⟨rfl, B1.out⟩
end Go.Proofs.Ythjchlcmmemapaa
