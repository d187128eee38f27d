/- A step of a script: Due. -/
import Derived.Test.YtkhfbnlmjnbhmaaRDue
import Derived.Test.YtkhfbnlmjnbhmaaRow1
import Derived.Test.YtkhfbnlmjnbhmaaStep
namespace Go.Proofs.Ytkhfbnlmjnbhmaa
open Go.RowKit Go.Sort
set_option linter.unusedVariables false

section
variable {w : World} {B hc hr rate milli sets : Nat} {S : List Tm} {Bc Br : List Nat}
set_option maxRecDepth 10000 in
set_option maxHeartbeats 8000000 in
theorem step_due (id : Nat) (x : Int) (h : Pair w B hc hr Bc Br rate milli sets S) :
    Calls Try.prog 10 #[.pointer (some ⟨hc, 0, none⟩), .pointer (some ⟨hr, 0, none⟩), opv 6 id x] w (Stepped w B hc hr sets) := by
  have hg := Begun.of h 6 id x
  have hdf : DF (milli / 1000) S (dues (milli / 1000) S.length S) := by
    obtain ⟨⟨gm, ao, cap, l, f, _, h1⟩, _, _⟩ := h
    exact dues_df _ _ _ (Nat.le_refl _) h1.hs.dist
  have hfew : S.length ≤ 256 := by obtain ⟨_, ⟨ao, cap, _, h1⟩, _⟩ := h; exact h1.few
  clear h
  obtain ⟨hclk, href, hap, hbox, hnc, hnr, hbel, hsize⟩ := hg
  have HC := Lib.hid hclk; have HR := Lib.hid href; have HAP := Lib.hid hap; have HB := Lib.hid hbel; have HBX := Lib.hid hbox
  clear hclk href hap hbel hbox
  have HD1 := Lib.hid (fun w h => due_any (B := B) (hb := hc) (rate := rate) (milli := milli) (sets := sets) (S := S) (Bs := Bc) w h)
  have HD2 := Lib.hid (fun w h => rdue_any (B := B) (hb := hr) (rate := rate) (milli := milli) (S := S) (Bs := Br) w h)
  have hDl := hdf.len
  obtain ⟨D, hD⟩ : ∃ D, dues (milli / 1000) S.length S = D := ⟨_, rfl⟩
  rw [hD] at HD1 HD2 hDl
  clear hD hdf
  obtain ⟨n, hn⟩ : ∃ n, D.1.length = n := ⟨_, rfl⟩
  have HN := Lib.hid hn
  rw [hn] at HD1 HD2 hDl
  have hn256 : n ≤ 256 := by omega
  clear hn hDl hfew
  have HDD1 := Lib.hid (HD1.out)
  go_enter Try.func10, Try.ntmps10
  go_wp2_with fail
  generalize w.alloc (opo 6 id x) = W at *
  generalize w.heap.size = bx at *
  obtain ⟨q0, q1, q2, q3⟩ := HBX.out
  clear q1 q2
  go_wp2_with fail
  refine (HD1.out W HC.out).mono ?_; rintro e w3 ⟨v1, rfl, own1, hc3, hk3⟩
  obtain ⟨ao1, cap1, rfl, hle1, hmx1⟩ := owns_shape own1
  have HO3 := Lib.hid own1; have HC3 := Lib.hid hc3; have HR3 := Lib.hid (HR.out.keep hk3 (fun q hq hm => HAP.out q hm hq)); have HK3 := Lib.hid hk3
  have hs3 := hk3.size
  clear own1 hc3 hk3 HD1 HDD1 q0
  go_wp2_with fail
  refine (HD2.out w3 HR3.out).mono ?_; rintro e w4 ⟨v2, Br', rfl, own2, hr4, t4⟩
  obtain ⟨ao2, cap2, rfl, hle2, hmx2⟩ := owns_shape own2
  have hb1 : ∀ q ∈ blk ao1, W.heap.size ≤ q ∧ q < w3.heap.size := fun q hq => owns_blk HO3.out q hq
  have own1' := owns_keep HO3.out t4.keep (blk_own _ _ _ (fun q hq hm => by have e1 := (hb1 q hq).1; have e2 := (HR.out.blocks q hm).2; omega))
  have HA1 := Lib.hid (t4.apart (Cs := blk ao1) (fun q hq hm => by have e1 := (hb1 q hm).1; have e2 := (HR.out.blocks q hq).2; omega) (fun q hq => (hb1 q hq).2))
  have HA2 := Lib.hid (t4.apart (Cs := Bc) (fun q hq hm => HAP.out q hm hq) (fun q hq => (HC3.out.blocks q hq).2))
  have HC4 := Lib.hid (HC3.out.keep t4.keep (fun q hq hm => HAP.out q hq hm)); have HR4 := Lib.hid hr4
  have HO4 := Lib.hid own1'; have HO42 := Lib.hid own2
  have HB1 := Lib.hid (fun q hq => (hb1 q hq).1)
  have HSM := Lib.hid (same_any w4 own1' own2 HN.out hn256)
  have BB4 := Lib.hid ((HB.out.trans (HK3.out.below hsize (fun q hq => (HC.out.blocks q hq).1))).trans (t4.keep.below (Nat.le_trans hsize hs3) (fun q hq => (HR.out.blocks q hq).1)))
  have hs4 := t4.keep.size
  clear own1' own2 hr4 t4 hb1 HD2 HC3 HR3 HO3
  go_wp2_with fail
  refine HSM.out.mono ?_; rintro e w5 ⟨rfl, b5⟩
  have HC5 := Lib.hid (HC4.out.below b5); have HR5 := Lib.hid (HR4.out.below b5); have HO5 := Lib.hid (owns_keep HO4.out (Keep.of_below b5 []) (by simp))
  have BB5 := Lib.hid (BB4.out.trans (b5.mono (Nat.le_trans hsize (Nat.le_trans hs3 hs4))))
  have hs5 := b5.size
  clear b5 HC4 HR4 HO4 HO42 HSM
  obtain ⟨i0, hi0, hz0, hz1, hz2⟩ := info_parts u64_info
  have HI0 := Lib.hid hi0; have HZ0 := Lib.hid hz0; have HZ1 := Lib.hid hz1; have HZ2 := Lib.hid hz2
  clear hi0 hz0 hz1 hz2
  go_wp2_with fail
  go_loopw [12] (fun i wr => ∃ k xs, k ≤ n ∧ i = .int .i64 ((k : Nat) : Int) ∧ wr.ownsRow W.heap.size 32 1 (.slice ao1 n cap1) n xs ∧ Clk wr B hc Bc rate milli sets D.2 ∧ Rf wr B hr Br' rate milli D.2 ∧ Below B w wr ∧ W.heap.size ≤ wr.heap.size) (fun i _ => n - (intOf i).toNat)
  case atStart => exact ⟨0, _, by omega, rfl, HO5.out, HC5.out, HR5.out, BB5.out, by omega⟩
  case round =>
    clear HO5 HC5 HR5 BB5
    obtain ⟨k, xs, hk, rfl, ho, hcc, hrr, hbb, hsz⟩ := hrel
    by_cases hlt : k < n
    · obtain ⟨g, v, rfl, hg, hgb, _, hcell, hfr⟩ := owns_cell1 ho k hlt
      have kk := Keep.setCell wr ⟨g, k, none⟩ (.int .u64 99)
      have HO6 := Lib.hid (owns_put1 ho k hlt (.int .u64 99))
      have HC6 := Lib.hid (hcc.keep kk (fun q hq hm => by simp at hm; subst hm; have := (HC.out.blocks q hq).2; omega))
      have HR6 := Lib.hid (hrr.keep kk (fun q hq hm => by simp at hm; subst hm; exact HA1.out q hq (by simp [blk])))
      have BB6 := Lib.hid (hbb.trans (kk.below (Nat.le_trans hsize hsz) (by simp; omega)))
      have hs6 := kk.size
      clear ho hcc hrr hbb kk
      go_wp2_with fail
      go_roundw
      case rel => exact ⟨k + 1, _, by omega, by go_num, HO6.out, HC6.out, HR6.out, BB6.out, by omega⟩
      case measure => simp [intOf]; omega
    · obtain rfl : k = n := by omega
      have HO6 := Lib.hid ho; have HC6 := Lib.hid hcc; have HR6 := Lib.hid hrr; have BB6 := Lib.hid hbb
      clear ho hcc hrr hbb
      go_wp2_with (at_builtin; refine wpList_append_lies _ rfl (.tmp 102) (.tmp 103) 49 rfl W.heap.size 32 i0 (.int .u64 0) 1 8 Try.underlying49 HI0.out HZ0.out HZ1.out HZ2.out rfl (by omega) (.slice ao1 k cap1) k xs rfl (HO6.out.alloc _) ⟨wr.heap.size, 0, none⟩ 2 2 [.int .u64 99, .int .u64 99] rfl rfl (World.news_of_block (cs := #[.int .u64 99, .int .u64 99]) (t := 32) (fr := (0, 0)) (heap_alloc_new wr _)) (by simp [Value.oneCell']) (by omega) (by unfold maxLen; omega) (by omega) (by simp; omega) (wr.heap.size + 1) (by simp) ?_; intro gg cap4 w7 hown7 hgrow7 hat7 hlt7)
      have kg := (Keep.of_below (below_alloc (Below.refl _ wr) _) (blk ao1)).trans (keep_grown hgrow7)
      have HC7 := Lib.hid (HC6.out.keep kg (fun q hq hm => by have e1 := HB1.out q hm; have e2 := (HC.out.blocks q hq).2; omega))
      have HR7 := Lib.hid (HR6.out.keep kg (fun q hq hm => HA1.out q hq hm))
      have BB7 := Lib.hid (BB6.out.trans (kg.below (Nat.le_trans hsize hsz) (fun q hq => by have e1 := HB1.out q hq; omega)))
      clear kg hown7 hgrow7 hat7 hlt7
      go_wp2_with fail
      go_ret
      exact ⟨rfl, ⟨Bc, Br', rate, milli, sets, _, ⟨HC7.out, HR7.out, fun q hq hm => HA2.out q hm hq⟩, by omega⟩, BB7.out⟩
end
end Go.Proofs.Ytkhfbnlmjnbhmaa
