/- mix, halves, upper of package draws; Mix, upper of the document's answer. -/
import Derived.Test.YthjchlcmmemapaaMix
namespace Go.Proofs.Ythjchlcmmemapaa
open Go.RowKit Go.Sort
set_option linter.unusedVariables false

theorem xs_spec (k n x : Nat) (hn : n = 2 ^ k) (hx : x < 18446744073709551616) : bits .xor .u64 (x : Int) ((x : Int) / (n : Int)) = ((xs k x : Nat) : Int) := by
  rw [xorShift_u64 x n hx, hn]; rfl
theorem xs30 (x : Nat) (hx : x < 18446744073709551616) : bits .xor .u64 (x : Int) ((x : Int) / 1073741824) = ((xs 30 x : Nat) : Int) := xs_spec 30 1073741824 x rfl hx
theorem xs27 (x : Nat) (hx : x < 18446744073709551616) : bits .xor .u64 (x : Int) ((x : Int) / 134217728) = ((xs 27 x : Nat) : Int) := xs_spec 27 134217728 x rfl hx
theorem xs31 (x : Nat) (hx : x < 18446744073709551616) : bits .xor .u64 (x : Int) ((x : Int) / 2147483648) = ((xs 31 x : Nat) : Int) := xs_spec 31 2147483648 x rfl hx
theorem wq (x : Nat) (k : Nat) (hx : x < 18446744073709551616) : IntKind.u64.wrap ((x : Int) / (k : Int)) = (x : Int) / (k : Int) := by
  rw [IntKind.wrap_u64]
  have h : (x : Int) / (k : Int) = ((x / k : Nat) : Int) := by simp
  have := Nat.div_le_self x k
  rw [h]
  generalize x / k = q at *
  exact Int.emod_eq_of_lt (by omega) (by omega)
theorem m1_eq (x : Nat) (hx : x < 18446744073709551616) : IntKind.u64.wrap (bits .xor .u64 (x : Int) ((x : Int) / 1073741824) * 13787848793156543929) = ((mix1 x : Nat) : Int) := by
  rw [xs30 x hx, IntKind.wrap_u64, mix1]; omega
theorem m2_eq (x : Nat) (hx : x < 18446744073709551616) : IntKind.u64.wrap (bits .xor .u64 (x : Int) ((x : Int) / 134217728) * 10723151780598845931) = ((mix2 x : Nat) : Int) := by
  rw [xs27 x hx, IntKind.wrap_u64, mix2]; omega

set_option maxHeartbeats 1000000 in
theorem mix_any (x : Nat) (hx : x < 18446744073709551616) (w : World) : Calls Try.prog 22 #[.int .u64 (x : Int)] w fun e w' => e = .returned (.int .u64 (mixN x : Nat)) ∧ w = w' := by
  have e1 := m1_eq x hx
  have e2 := m2_eq (mix1 x) (mix1_lt x)
  have e3 := xs31 (mix2 (mix1 x)) (mix2_lt _)
  have d3 := Lib.hid (show mixN x = xs 31 (mix2 (mix1 x)) from rfl)
  go_enter Try.func22, Try.ntmps22
  go_wp2_with fail
  go_ret
  exact ⟨ret_int (by rw [d3.out]), rfl⟩

set_option maxHeartbeats 1000000 in
theorem rmix_any (x : Nat) (hx : x < 18446744073709551616) (w : World) : Calls Try.prog 23 #[.int .u64 (x : Int)] w fun e w' => e = .returned (.int .u64 (mixN x : Nat)) ∧ w = w' := by
  have e1 := m1_eq x hx
  have e2 := m2_eq (mix1 x) (mix1_lt x)
  have e3 := xs31 (mix2 (mix1 x)) (mix2_lt _)
  have d3 := Lib.hid (show mixN x = xs 31 (mix2 (mix1 x)) from rfl)
  have q1 : IntKind.u64.wrap ((x : Int) / 1073741824) = (x : Int) / 1073741824 := wq x 1073741824 hx
  have q2 : IntKind.u64.wrap ((mix1 x : Nat) / 134217728 : Int) = (mix1 x : Nat) / 134217728 := wq _ 134217728 (mix1_lt _)
  have q3 : IntKind.u64.wrap ((mix2 (mix1 x) : Nat) / 2147483648 : Int) = (mix2 (mix1 x) : Nat) / 2147483648 := wq _ 2147483648 (mix2_lt _)
  go_enter Try.func23, Try.ntmps23
  go_wp2_with fail
  go_ret
  refine ⟨ret_int ?_, rfl⟩
  first
    | rw [d3.out]

set_option maxHeartbeats 1000000 in
theorem halves_any (x : Nat) (hx : x < 18446744073709551616) (w : World) : Calls Try.prog 33 #[.int .u64 (x : Int)] w fun e w' => e = .returned (.tuple #[.int .u64 ((x / 4294967296 : Nat) : Int), .int .u64 ((x % 4294967296 : Nat) : Int)]) ∧ w = w' := by
  go_enter Try.func33, Try.ntmps33
  go_wp2_with fail
  go_ret2
  refine ⟨?_, rfl⟩
  first
    | (have e1 : (x : Int) / 4294967296 = ((x / 4294967296 : Nat) : Int) := by omega
       have e2 : (x : Int) % 4294967296 = ((x % 4294967296 : Nat) : Int) := by omega
       rw [e1, e2]
       rfl)

set_option maxHeartbeats 2000000 in
theorem upper_any (x n : Nat) (hx : x < 18446744073709551616) (hn : n < 18446744073709551616) (w : World) : Calls Try.prog 32 #[.int .u64 (x : Int), .int .u64 (n : Int)] w fun e w' => e = .returned (.int .u64 (upN x n : Nat)) ∧ w = w' := by
  have HE := Lib.hid (upN_halves x n)
  have h1 := halves_any x hx
  have h2 := halves_any n hn
  have ha : x / 4294967296 < 4294967296 := by omega
  have hb : x % 4294967296 < 4294967296 := by omega
  have hc : n / 4294967296 < 4294967296 := by omega
  have hd : n % 4294967296 < 4294967296 := by omega
  generalize upN x n = r at *
  generalize x / 4294967296 = a at *
  generalize x % 4294967296 = b at *
  generalize n / 4294967296 = c at *
  generalize n % 4294967296 = d at *
  have p1 := half_mul ha hc
  have p2 := half_mul ha hd
  have p3 := half_mul hb hc
  have p4 := half_mul hb hd
  have q1 : (a : Int) * (c : Int) = ((a * c : Nat) : Int) := by simp
  have q2 : (a : Int) * (d : Int) = ((a * d : Nat) : Int) := by simp
  have q3 : (b : Int) * (c : Int) = ((b * c : Nat) : Int) := by simp
  have q4 : (b : Int) * (d : Int) = ((b * d : Nat) : Int) := by simp
  have h3 := halves_any (b * d) (by omega)
  have h4 := halves_any (a * d + b * d / 4294967296) (by show _ < 18446744073709551616; omega)
  have h5 := halves_any (b * c + (a * d + b * d / 4294967296) % 4294967296) (by show _ < 18446744073709551616; omega)
  generalize a * c = A at *
  generalize a * d = B at *
  generalize b * c = C at *
  generalize b * d = D at *
  have H1 := Lib.hid h1; have H2 := Lib.hid h2; have H3 := Lib.hid h3; have H4 := Lib.hid h4; have H5 := Lib.hid h5
  clear h1 h2 h3 h4 h5
  go_enter Try.func32, Try.ntmps32
  go_wp2_with fail
  refine (H1.out _).mono ?_; rintro e w1 ⟨rfl, rfl⟩
  go_wp2_with fail
  refine (H2.out _).mono ?_; rintro e w1 ⟨rfl, rfl⟩
  go_wp2_with fail
  refine (H3.out _).mono ?_; rintro e w1 ⟨rfl, rfl⟩
  go_wp2_with fail
  refine (H4.out _).mono ?_; rintro e w1 ⟨rfl, rfl⟩
  go_wp2_with fail
  refine (H5.out _).mono ?_; rintro e w1 ⟨rfl, rfl⟩
  go_wp2_with fail
  go_ret
  refine ⟨ret_int ?_, rfl⟩
  first
    | (rw [HE.out]; done)
    | (rw [HE.out]; omega)

set_option maxHeartbeats 2000000 in
theorem rupper_any (x n : Nat) (hx : x < 18446744073709551616) (hn : n < 18446744073709551616) (w : World) : Calls Try.prog 25 #[.int .u64 (x : Int), .int .u64 (n : Int)] w fun e w' => e = .returned (.int .u64 (upN x n : Nat)) ∧ w = w' := by
  have HE := Lib.hid (upN_halves x n)
  have ha : x / 4294967296 < 4294967296 := by omega
  have hb : x % 4294967296 < 4294967296 := by omega
  have hc : n / 4294967296 < 4294967296 := by omega
  have hd : n % 4294967296 < 4294967296 := by omega
  have xa : (x : Int) / 4294967296 = ((x / 4294967296 : Nat) : Int) := by omega
  have xb : (x : Int) % 4294967296 = ((x % 4294967296 : Nat) : Int) := by omega
  have na : (n : Int) / 4294967296 = ((n / 4294967296 : Nat) : Int) := by omega
  have nb : (n : Int) % 4294967296 = ((n % 4294967296 : Nat) : Int) := by omega
  generalize upN x n = r at *
  generalize x / 4294967296 = a at *
  generalize x % 4294967296 = b at *
  generalize n / 4294967296 = c at *
  generalize n % 4294967296 = d at *
  have p1 := half_mul ha hc
  have p2 := half_mul ha hd
  have p3 := half_mul hb hc
  have p4 := half_mul hb hd
  have q1 : (a : Int) * (c : Int) = ((a * c : Nat) : Int) := by simp
  have q2 : (a : Int) * (d : Int) = ((a * d : Nat) : Int) := by simp
  have q3 : (b : Int) * (c : Int) = ((b * c : Nat) : Int) := by simp
  have q4 : (b : Int) * (d : Int) = ((b * d : Nat) : Int) := by simp
  generalize a * c = A at *
  generalize a * d = B at *
  generalize b * c = C at *
  generalize b * d = D at *
  go_enter Try.func25, Try.ntmps25
  go_wp2_with fail
  go_ret
  refine ⟨ret_int ?_, rfl⟩
  first
    | (rw [HE.out]; done)
    | (rw [HE.out]; omega)
end Go.Proofs.Ythjchlcmmemapaa
