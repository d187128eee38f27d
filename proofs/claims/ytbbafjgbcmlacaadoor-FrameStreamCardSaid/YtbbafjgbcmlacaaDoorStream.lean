/- FrameStream: the walk. -/
import Derived.Test.YtbbafjgbcmlacaaDoorStreamL
import Derived.Test.YtbbafjgbcmlacaaDoorTwo
import Derived.Test.YtbbafjgbcmlacaaDoorAwake
import Derived.Test.YtbbafjgbcmlacaaDoorFeed
import Derived.Test.YtbbafjgbcmlacaaDoorArg2
namespace Go.Proofs.YtbbafjgbcmlacaaDoor
open Go.RowKit Go.Sort
set_option linter.unusedVariables false

/-- a reader, and the stream that it is fed from, apart from it -/
structure Str (B : Nat) (w : World) (R : Nat) (a : Option Addr) (c : Nat) (l : List Nat) (aA : Option Addr) (M cA : Nat) (X : List Nat) : Prop where
  held : Held w B R a l.length c l
  all : Own w B aA M cA X
  s1 : R ∉ blk aA
  s2 : ∀ g ∈ blk a, g ∉ blk aA
section
variable {B : Nat} {w w' : World} {R : Nat} {a aA : Option Addr} {c M cA : Nat} {l X : List Nat}
theorem Str.below (h : Str B w R a c l aA M cA X) (b : Below w.heap.size w w') : Str B w' R a c l aA M cA X := ⟨h.held.below b, h.all.below b, h.s1, h.s2⟩
theorem Str.step {S : List Nat} {a' : Option Addr} {c' : Nat} {l' : List Nat} (h : Str B w R a c l aA M cA X) (k : Keep S w w') (hS : ∀ g ∈ S, g = R ∨ g ∈ blk a) (hh : Held w' B R a' l'.length c' l') (hn : ∀ g ∈ blk a', g ∈ blk a ∨ w.heap.size ≤ g) : Str B w' R a' c' l' aA M cA X := by
  refine ⟨hh, h.all.keep k (fun g hg hm => ?_), h.s1, fun g hg hm => ?_⟩
  · rcases hS g hm with e | e
    · exact h.s1 (e ▸ hg)
    · exact h.s2 g e hg
  · rcases hn g hg with e | e
    · exact h.s2 g e hm
    · have := (h.all.lt_size g hm).2; omega
theorem Str.reader (h : Str B w R a c l aA M cA X) {S : List Nat} (hS : ∀ g ∈ S, g = R ∨ g ∈ blk a) : ∀ g ∈ S, B ≤ g := fun g hg => by
  rcases hS g hg with rfl | e
  · exact h.held.base
  · exact (h.held.own.lt_size g e).1
end

theorem str_len2 {L : Nat → List Nat} {j t p M : Nat} {l : List Nat} (h : cat L t ++ l = (cat L j).take p) (hM : (cat L j).length = M) (hp : p ≤ M) : l.length ≤ p := by
  have := congrArg List.length h
  rw [List.length_append, List.length_take] at this
  omega
theorem str_len {L : Nat → List Nat} {j t p M : Nat} {l : List Nat} (h : cat L t ++ l = (cat L j).take p) (hM : (cat L j).length = M) : l.length ≤ M := by
  have := congrArg List.length h
  rw [List.length_append, List.length_take] at this
  omega
theorem wrap_n (ao : Option Addr) (n cap : Nat) (l : List Nat) (hl : l.length = n) (hn : n ≤ 9223372036854775807) (w : World) (ht : Tab w) (hr : Rd w ao l) :
    Calls Tryd.prog 10 #[.slice ao n cap] w fun e w' => (65536 < n ∧ e = .returned (.tuple #[.slice none 0 0, .int .i64 31]) ∧ w' = w) ∨
      (n ≤ 65536 ∧ ∃ ab cb q, q = n + 10 ∧ e = .returned (.tuple #[.slice ab q cb, .int .i64 0]) ∧ Own w' w.heap.size ab q cb (frameOf l) ∧ Below w.heap.size w w') := by
  have h := wrap_any ao n cap l hl hn w ht hr
  unfold Wrapped at h
  rw [hl] at h
  refine h.mono ?_
  rintro e w' (h | ⟨h, ab, cb, he, ho, hb⟩)
  · exact .inl h
  · exact .inr ⟨h, ab, cb, _, rfl, he, ho, hb⟩

set_option maxRecDepth 10000 in
set_option maxHeartbeats 8000000 in
theorem frameStream_law (ao : Option Addr) (n cap : Nat) (L : Nat → List Nat) (hc : n ≤ cap) (hm : cap ≤ maxLen) (co : Option Addr) (nc cap' : Nat) (C : Nat → Int) (kc : nc ≤ cap') (km : cap' ≤ maxLen) (kz : nc ≤ 140737488351232)
    (W : World) (ht : Tab W) (hr : BodiesRd W ao n L) (kr : IntsRd W co nc C) :
    Calls Tryd.prog 6 #[.slice ao n cap, .slice co nc cap'] W (LawOk W) := by
  have hn : n ≤ 9223372036854775807 := Nat.le_trans hc hm
  have HA := Lib.hid (awake_any W ht)
  have HT := Lib.hid ht; have HR := Lib.hid hr; have KR := Lib.hid kr
  clear ht hr hc hm kc km kr
  go_enter Tryd.func6, Tryd.ntmps6
  go_wp2_with fail
  refine HA.out.mono ?_
  rintro e w1 ⟨rfl, b1⟩
  go_wp2_with fail
  refine (new_any w1).mono ?_
  rintro e w2 ⟨rfl, rfl⟩
  have h1 := Lib.hid (Held.new w1 W.heap.size b1.size 58)
  have b2 := Lib.hid (below_alloc b1 (.cells #[.slice none 0 0] 58))
  generalize w1.alloc (.cells #[.slice none 0 0] 58) = w2 at *
  generalize w1.heap.size = R at *
  clear b1
  go_wp2_with fail
  rename_i K hKc
  have hK : ∀ {x2 x3 x4 x9 x10 x11 x12 x13 x14 x15 x16 x17 x18 x19 x20 x21 x22 x23 x24 x25 x26 x27 x28 x29 x30 x31 x32 x33 x34 x35 x36 x37 x38 x39 x40 x41 x42 x43 x44 x45 x46 x47 x48 x49 x50 x51 x52 x53 x54 x55 x56 x57 x58 x59 x60 x61 x62 x63 x64 x65 x66 x67 x68 x69 x70 x71 x72 x73 x74 x75 x76 x77 x78 x79 x80 x81 x82 x83 x84 x85 x86 x87 x88 x89 x90 x91 x92 x93 x94 x95 x96 x97 x98 x99 x100 x101 x102 x103 x104 x105 x106 x107 x108 x109 x110 x111 x112 x113 x114 x115 x116 x117 x118 x119 x120 x121 x122 x123 x124 x125 x126 x127 x128 x129 x130 x131 x132 x133 x134 x135 x136 x137 x138 x139 x140 x141 x142 x143 x144 : Value} {j : Nat} {aA : Option Addr} {cA M : Nat} {wx : World}, j ≤ 200 → j ≤ n → M ≤ 131072 → Hid (∀ i, i < j → (L i).length ≤ 65536) → Hid (Str W.heap.size wx R none 0 [] aA M cA (cat L j)) → Hid (Below W.heap.size W wx) →
      K ⟨#[.slice ao n cap, .slice co nc cap', x2, x3, x4, .bool true, .pointer (some ⟨R, 0, none⟩), .slice aA M cA, .int .i64 (j : Int), x9, x10, x11, x12, x13, x14, x15, x16, x17, x18, x19, x20, x21, x22, x23, x24, x25, x26, x27, x28, x29, x30, x31, x32, x33, x34, x35, x36, x37, x38, x39, x40, x41, x42, x43, x44, x45, x46, x47, x48, x49, x50, x51, x52, x53, x54, x55, x56, x57, x58, x59, x60, x61, x62, x63, x64, x65, x66, x67, x68, x69, x70, x71, x72, x73, x74, x75, x76, x77, x78, x79, x80, x81, x82, x83, x84, x85, x86, x87, x88, x89, x90, x91, x92, x93, x94, x95, x96, x97, x98, x99, x100, x101, x102, x103, x104, x105, x106, x107, x108, x109, x110, x111, x112, x113, x114, x115, x116, x117, x118, x119, x120, x121, x122, x123, x124, x125, x126, x127, x128, x129, x130, x131, x132, x133, x134, x135, x136, x137, x138, x139, x140, x141, x142, x143, x144], []⟩ wx := by
    clear h1 b2
    intro x2 x3 x4 x9 x10 x11 x12 x13 x14 x15 x16 x17 x18 x19 x20 x21 x22 x23 x24 x25 x26 x27 x28 x29 x30 x31 x32 x33 x34 x35 x36 x37 x38 x39 x40 x41 x42 x43 x44 x45 x46 x47 x48 x49 x50 x51 x52 x53 x54 x55 x56 x57 x58 x59 x60 x61 x62 x63 x64 x65 x66 x67 x68 x69 x70 x71 x72 x73 x74 x75 x76 x77 x78 x79 x80 x81 x82 x83 x84 x85 x86 x87 x88 x89 x90 x91 x92 x93 x94 x95 x96 x97 x98 x99 x100 x101 x102 x103 x104 x105 x106 x107 x108 x109 x110 x111 x112 x113 x114 x115 x116 x117 x118 x119 x120 x121 x122 x123 x124 x125 x126 x127 x128 x129 x130 x131 x132 x133 x134 x135 x136 x137 x138 x139 x140 x141 x142 x143 x144 j aA cA M wx hj2 hj1 hM hL hS hB
    refine hKc _ _ ?_
    clear hKc
    go_wp2_with fail
    -- second loop
    go_loopw [12, 13, 14] (fun tl at_ k wr => ∃ (t p q : Nat) (a : Option Addr) (c : Nat) (l : List Nat), t ≤ j ∧ p ≤ M ∧ q ≤ nc + 1 ∧ (nc < q → p = M) ∧ tl = .int .i64 (t : Int) ∧ at_ = .int .i64 (p : Int) ∧ k = .int .i64 (q : Int) ∧ Hid (cat L t ++ l = (cat L j).take p) ∧ Hid (got l = false) ∧ Hid (Str W.heap.size wr R a c l aA M cA (cat L j)) ∧ Hid (Below W.heap.size W wr)) (fun _ _ k _ => nc + 2 - (intOf k).toNat)
    case atStart => exact ⟨0, 0, 0, none, 0, [], by omega, by omega, by omega, by omega, rfl, rfl, rfl, by rw [Hid, List.take_zero]; rfl, rfl, hS, hB⟩
    case round =>
      clear hS hB
      obtain ⟨t, p, q, a, c, l, htj, hpM, hqn, hqp, rfl, rfl, rfl, hEq, hGt, hSt, hBw⟩ := hrel
      have HQP := Lib.hid hqp
      by_cases hp : p < M
      · have hq : q ≤ nc := by
          rcases Nat.lt_or_ge nc q with h | h
          · have := hqp h; omega
          · exact h
        clear hqp
        have hcs : (∃ s : Nat, q < nc ∧ C q = (s : Int) ∧ p + s < M) ∨ (∃ s : Nat, p + s = M ∧ ((q < nc ∧ C q < 0) ∨ (q < nc ∧ 0 ≤ C q ∧ (M : Int) - p ≤ C q) ∨ ¬ q < nc)) := by
          by_cases h1 : q < nc
          · by_cases h2 : C q < 0
            · exact .inr ⟨M - p, by omega, .inl ⟨h1, h2⟩⟩
            · by_cases h3 : (M : Int) - p ≤ C q
              · exact .inr ⟨M - p, by omega, .inr (.inl ⟨h1, by omega, h3⟩)⟩
              · exact .inl ⟨(C q).toNat, h1, by omega, by omega⟩
          · exact .inr ⟨M - p, by omega, .inr (.inr h1)⟩
        rcases hcs with ⟨s, h1, h2, h3⟩ | ⟨s, h3, h4⟩
        · obtain ⟨g2, o2, rfl, hg2, q2, hx1, hx2⟩ := (KR.out.below hBw.out) q h1
          rw [h2] at q2 hx1 hx2
          have hlp := str_len2 hEq.out hSt.out.all.len (by omega)
          have hsl : (((cat L j).drop p).take s).length = s := by have := hSt.out.all.len; rw [List.length_take, List.length_drop]; omega
          obtain ⟨gA, oA, hA, _, _⟩ := hSt.out.all.rd.at_ p (by have := hSt.out.all.len; omega)
          subst hA
          have hcA := hSt.out.all.le
          have FD := Lib.hid (feed_in W.heap.size R a l.length c l (some ⟨gA, oA + p, none⟩) s (cA - p) (((cat L j).drop p).take s) hsl (by omega) wr (hSt.out.all.rd.off p s) hSt.out.held)
          go_wp2_with fail
          refine FD.out.mono ?_
          clear FD
          rintro e wf ⟨a', c', rfl, hh, kf, nf⟩
          rw [hsl] at hh
          have hll : (l ++ ((cat L j).drop p).take s).length = l.length + s := by rw [List.length_append, hsl]
          rw [← hll] at hh
          have hS2 := hSt.out.step kf (fun q hq => by rcases List.mem_cons.1 hq with h | h; exact .inl h; exact .inr h) hh nf
          have hB2 := Lib.hid (Below.keep hBw.out hBw.out.size kf (hSt.out.reader (fun q hq => by rcases List.mem_cons.1 hq with h | h; exact .inl h; exact .inr h)))
          have hE2 := Lib.hid (show cat L t ++ (l ++ ((cat L j).drop p).take s) = (cat L j).take (p + s) by rw [← List.append_assoc, hEq.out, List.take_add])
          have ST2 := Lib.hid hS2
          generalize l ++ ((cat L j).drop p).take s = l2 at *
          clear hh kf nf hll hsl hS2 hSt hBw hEq hGt
          go_wp2_with fail
          go_loopw [12] (fun tl wr => ∃ (t : Nat) (a : Option Addr) (c : Nat) (l : List Nat), t ≤ j ∧ tl = .int .i64 (t : Int) ∧ Hid (cat L t ++ l = (cat L j).take (p + s)) ∧ Hid (Str W.heap.size wr R a c l (some ⟨gA, oA, none⟩) M cA (cat L j)) ∧ Hid (Below W.heap.size W wr)) (fun tl _ => 201 - (intOf tl).toNat)
          case atStart => exact ⟨t, a', c', l2, by omega, rfl, hE2, ST2, hB2⟩
          case round =>
            clear hE2 ST2 hB2
            obtain ⟨t, a, c, l, htj, rfl, hE3, hS3, hB3⟩ := hrel
            have hll := str_len hE3.out hS3.out.all.len
            have HX := Lib.hid (next_any W.heap.size R a l.length c l (by omega) wr (HT.out.below hB3.out) hS3.out.held)
            obtain ⟨hf0, hstep⟩ := stream_step L j t (p + s) l htj hL.out hE3.out
            rcases hstep with ⟨hgt, htl, hbd, hrs⟩ | ⟨hgt, hfin⟩
            · obtain ⟨g9, o9, bo9, c9, e9, hg9, q9, hbc9, hcm9, hrd9⟩ := HR.out t (by omega)
              have hLt := hL.out t htl
              have HY : Calls Tryd.prog 21 #[.pointer (some ⟨R, 0, none⟩)] wr fun e w' => ∃ ab cb a5 c5, e = .returned (.tuple #[.slice ab (L t).length cb, .bool true, .int .i64 0]) ∧ Own w' wr.heap.size ab (L t).length cb (L t) ∧ Held w' W.heap.size R a5 (rest l).length c5 (rest l) ∧ Keep [R] wr w' ∧ (∀ g ∈ blk a5, g ∈ blk a ∨ wr.heap.size ≤ g) := by
                refine HX.out.mono ?_
                rintro e w' ⟨ab, cb, a5, c5, he, ob, hh5, k5, n5, d5⟩
                rw [hgt, hf0, hbd] at he
                rw [hbd] at ob
                exact ⟨ab, cb, a5, c5, he, ob, hh5, k5, n5⟩
              have HY2 := Lib.hid HY
              have HRS := Lib.hid hrs
              have HRD := Lib.hid hrd9
              obtain ⟨B, hBe⟩ : ∃ B, B = (L t).length := ⟨_, rfl⟩
              rw [← hBe] at HY2 q9 hLt
              have HBE := Lib.hid hBe
              subst e9
              clear HX HY hrs hrd9 hBe hgt hbd hf0 hll hbc9 hcm9
              go_wp2_with fail
              refine HY2.out.mono ?_
              rintro e wx ⟨ab, cb, a5, c5, rfl, ob, hh5, k5, n5⟩
              have hS5 := hS3.out.step k5 (fun q hq => .inl (by simpa using hq)) hh5 n5
              have hB5 := Below.keep hB3.out hB3.out.size k5 (fun q hq => by simp at hq; rw [hq]; exact hS3.out.held.base)
              have q9' := (hB5.cell (p := ⟨g9, o9 + t, none⟩) hg9).trans q9
              have SM := Lib.hid (same_any ab bo9 B B cb c9 (L t) (L t) HBE.out.symm HBE.out.symm (by omega) wx ob.rd (HRD.out.below hB5))
              have SS := Lib.hid hS5; have BB := Lib.hid hB5
              clear hS5 hB5 ob hh5 k5 n5 q9 HY2 hS3 hB3
              go_wp2_with fail
              refine SM.out.mono ?_
              rintro e wy ⟨rfl, b6⟩
              rw [beq_self_eq_true]
              have SS2 := Lib.hid (SS.out.below b6)
              have BB2 := Lib.hid (BB.out.trans (b6.mono BB.out.size))
              clear SS BB SM q9' b6
              go_wp2_with fail
              go_roundw
              case rel => exact ⟨t + 1, a5, c5, rest l, by omega, by go_num, HRS.out, SS2.out, BB2.out⟩
              case measure => (simp [intOf] <;> omega)
            · have HY : Calls Tryd.prog 21 #[.pointer (some ⟨R, 0, none⟩)] wr fun e w' => ∃ v a5 c5, e = .returned (.tuple #[v, .bool false, .int .i64 0]) ∧ Held w' W.heap.size R a5 l.length c5 l ∧ Keep [R] wr w' ∧ (∀ g ∈ blk a5, g ∈ blk a ∨ wr.heap.size ≤ g) := by
                refine HX.out.mono ?_
                rintro e w' ⟨ab, cb, a5, c5, he, ob, hh5, k5, n5, d5⟩
                rw [hgt, hf0] at he
                have hre : rest l = l := by unfold rest; rw [if_neg (by rw [hgt]; simp)]
                rw [hre] at hh5
                exact ⟨_, a5, c5, he, hh5, k5, n5⟩
              have HY2 := Lib.hid HY; have HG := Lib.hid hgt
              clear HX HY hgt hf0 hll hfin
              go_wp2_with fail
              refine HY2.out.mono ?_
              rintro e wx ⟨v, a5, c5, rfl, hh5, k5, n5⟩
              have hS5 := Lib.hid (hS3.out.step k5 (fun q hq => .inl (by simpa using hq)) hh5 n5)
              have hB5 := Lib.hid (Below.keep hB3.out hB3.out.size k5 (fun q hq => by simp at hq; rw [hq]; exact hS3.out.held.base))
              clear hh5 k5 n5 HY2 hS3 hB3
              go_wp2_with fail
              go_roundw
              case rel => exact ⟨t, p + s, q + 1, a5, c5, l, by omega, by omega, by omega, by omega, rfl, by go_num, by go_num, hE3.out, HG.out, hS5.out, hB5.out⟩
              case measure => (simp [intOf] <;> omega)
        · obtain rfl : s = M - p := by omega
          have hlp := str_len2 hEq.out hSt.out.all.len (by omega)
          have hsl : (((cat L j).drop p).take (M - p)).length = (M - p) := by have := hSt.out.all.len; rw [List.length_take, List.length_drop]; omega
          obtain ⟨gA, oA, hA, _, _⟩ := hSt.out.all.rd.at_ p (by have := hSt.out.all.len; omega)
          subst hA
          have hcA := hSt.out.all.le
          have FD := Lib.hid (feed_in W.heap.size R a l.length c l (some ⟨gA, oA + p, none⟩) (M - p) (cA - p) (((cat L j).drop p).take (M - p)) hsl (by omega) wr (hSt.out.all.rd.off p (M - p)) hSt.out.held)
          rcases h4 with ⟨h5, h6⟩ | ⟨h5, h6, h7⟩ | h5
          · obtain ⟨g2, o2, rfl, hg2, q2, hx1, hx2⟩ := (KR.out.below hBw.out) q h5
            go_wp2_with fail
            refine FD.out.mono ?_
            clear FD
            rintro e wf ⟨a', c', rfl, hh, kf, nf⟩
            rw [hsl] at hh
            have hll : (l ++ ((cat L j).drop p).take (M - p)).length = l.length + (M - p) := by rw [List.length_append, hsl]
            rw [← hll] at hh
            have hS2 := hSt.out.step kf (fun q hq => by rcases List.mem_cons.1 hq with h | h; exact .inl h; exact .inr h) hh nf
            have hB2 := Lib.hid (Below.keep hBw.out hBw.out.size kf (hSt.out.reader (fun q hq => by rcases List.mem_cons.1 hq with h | h; exact .inl h; exact .inr h)))
            have hE2 := Lib.hid (show cat L t ++ (l ++ ((cat L j).drop p).take (M - p)) = (cat L j).take (p + (M - p)) by rw [← List.append_assoc, hEq.out, List.take_add])
            have ST2 := Lib.hid hS2
            generalize l ++ ((cat L j).drop p).take (M - p) = l2 at *
            clear hh kf nf hll hsl hS2 hSt hBw hEq hGt
            go_wp2_with fail
            go_loopw [12] (fun tl wr => ∃ (t : Nat) (a : Option Addr) (c : Nat) (l : List Nat), t ≤ j ∧ tl = .int .i64 (t : Int) ∧ Hid (cat L t ++ l = (cat L j).take (p + (M - p))) ∧ Hid (Str W.heap.size wr R a c l (some ⟨gA, oA, none⟩) M cA (cat L j)) ∧ Hid (Below W.heap.size W wr)) (fun tl _ => 201 - (intOf tl).toNat)
            case atStart => exact ⟨t, a', c', l2, by omega, rfl, hE2, ST2, hB2⟩
            case round =>
              clear hE2 ST2 hB2
              obtain ⟨t, a, c, l, htj, rfl, hE3, hS3, hB3⟩ := hrel
              have hll := str_len hE3.out hS3.out.all.len
              have HX := Lib.hid (next_any W.heap.size R a l.length c l (by omega) wr (HT.out.below hB3.out) hS3.out.held)
              obtain ⟨hf0, hstep⟩ := stream_step L j t (p + (M - p)) l htj hL.out hE3.out
              rcases hstep with ⟨hgt, htl, hbd, hrs⟩ | ⟨hgt, hfin⟩
              · obtain ⟨g9, o9, bo9, c9, e9, hg9, q9, hbc9, hcm9, hrd9⟩ := HR.out t (by omega)
                have hLt := hL.out t htl
                have HY : Calls Tryd.prog 21 #[.pointer (some ⟨R, 0, none⟩)] wr fun e w' => ∃ ab cb a5 c5, e = .returned (.tuple #[.slice ab (L t).length cb, .bool true, .int .i64 0]) ∧ Own w' wr.heap.size ab (L t).length cb (L t) ∧ Held w' W.heap.size R a5 (rest l).length c5 (rest l) ∧ Keep [R] wr w' ∧ (∀ g ∈ blk a5, g ∈ blk a ∨ wr.heap.size ≤ g) := by
                  refine HX.out.mono ?_
                  rintro e w' ⟨ab, cb, a5, c5, he, ob, hh5, k5, n5, d5⟩
                  rw [hgt, hf0, hbd] at he
                  rw [hbd] at ob
                  exact ⟨ab, cb, a5, c5, he, ob, hh5, k5, n5⟩
                have HY2 := Lib.hid HY
                have HRS := Lib.hid hrs
                have HRD := Lib.hid hrd9
                obtain ⟨B, hBe⟩ : ∃ B, B = (L t).length := ⟨_, rfl⟩
                rw [← hBe] at HY2 q9 hLt
                have HBE := Lib.hid hBe
                subst e9
                clear HX HY hrs hrd9 hBe hgt hbd hf0 hll hbc9 hcm9
                go_wp2_with fail
                refine HY2.out.mono ?_
                rintro e wx ⟨ab, cb, a5, c5, rfl, ob, hh5, k5, n5⟩
                have hS5 := hS3.out.step k5 (fun q hq => .inl (by simpa using hq)) hh5 n5
                have hB5 := Below.keep hB3.out hB3.out.size k5 (fun q hq => by simp at hq; rw [hq]; exact hS3.out.held.base)
                have q9' := (hB5.cell (p := ⟨g9, o9 + t, none⟩) hg9).trans q9
                have SM := Lib.hid (same_any ab bo9 B B cb c9 (L t) (L t) HBE.out.symm HBE.out.symm (by omega) wx ob.rd (HRD.out.below hB5))
                have SS := Lib.hid hS5; have BB := Lib.hid hB5
                clear hS5 hB5 ob hh5 k5 n5 q9 HY2 hS3 hB3
                go_wp2_with fail
                refine SM.out.mono ?_
                rintro e wy ⟨rfl, b6⟩
                rw [beq_self_eq_true]
                have SS2 := Lib.hid (SS.out.below b6)
                have BB2 := Lib.hid (BB.out.trans (b6.mono BB.out.size))
                clear SS BB SM q9' b6
                go_wp2_with fail
                go_roundw
                case rel => exact ⟨t + 1, a5, c5, rest l, by omega, by go_num, HRS.out, SS2.out, BB2.out⟩
                case measure => (simp [intOf] <;> omega)
              · have HY : Calls Tryd.prog 21 #[.pointer (some ⟨R, 0, none⟩)] wr fun e w' => ∃ v a5 c5, e = .returned (.tuple #[v, .bool false, .int .i64 0]) ∧ Held w' W.heap.size R a5 l.length c5 l ∧ Keep [R] wr w' ∧ (∀ g ∈ blk a5, g ∈ blk a ∨ wr.heap.size ≤ g) := by
                  refine HX.out.mono ?_
                  rintro e w' ⟨ab, cb, a5, c5, he, ob, hh5, k5, n5, d5⟩
                  rw [hgt, hf0] at he
                  have hre : rest l = l := by unfold rest; rw [if_neg (by rw [hgt]; simp)]
                  rw [hre] at hh5
                  exact ⟨_, a5, c5, he, hh5, k5, n5⟩
                have HY2 := Lib.hid HY; have HG := Lib.hid hgt
                clear HX HY hgt hf0 hll hfin
                go_wp2_with fail
                refine HY2.out.mono ?_
                rintro e wx ⟨v, a5, c5, rfl, hh5, k5, n5⟩
                have hS5 := Lib.hid (hS3.out.step k5 (fun q hq => .inl (by simpa using hq)) hh5 n5)
                have hB5 := Lib.hid (Below.keep hB3.out hB3.out.size k5 (fun q hq => by simp at hq; rw [hq]; exact hS3.out.held.base))
                clear hh5 k5 n5 HY2 hS3 hB3
                go_wp2_with fail
                go_roundw
                case rel => exact ⟨t, p + (M - p), q + 1, a5, c5, l, by omega, by omega, by omega, by omega, rfl, by go_num, by go_num, hE3.out, HG.out, hS5.out, hB5.out⟩
                case measure => (simp [intOf] <;> omega)
          · obtain ⟨g2, o2, rfl, hg2, q2, hx1, hx2⟩ := (KR.out.below hBw.out) q h5
            go_wp2_with fail
            refine FD.out.mono ?_
            clear FD
            rintro e wf ⟨a', c', rfl, hh, kf, nf⟩
            rw [hsl] at hh
            have hll : (l ++ ((cat L j).drop p).take (M - p)).length = l.length + (M - p) := by rw [List.length_append, hsl]
            rw [← hll] at hh
            have hS2 := hSt.out.step kf (fun q hq => by rcases List.mem_cons.1 hq with h | h; exact .inl h; exact .inr h) hh nf
            have hB2 := Lib.hid (Below.keep hBw.out hBw.out.size kf (hSt.out.reader (fun q hq => by rcases List.mem_cons.1 hq with h | h; exact .inl h; exact .inr h)))
            have hE2 := Lib.hid (show cat L t ++ (l ++ ((cat L j).drop p).take (M - p)) = (cat L j).take (p + (M - p)) by rw [← List.append_assoc, hEq.out, List.take_add])
            have ST2 := Lib.hid hS2
            generalize l ++ ((cat L j).drop p).take (M - p) = l2 at *
            clear hh kf nf hll hsl hS2 hSt hBw hEq hGt
            go_wp2_with fail
            go_loopw [12] (fun tl wr => ∃ (t : Nat) (a : Option Addr) (c : Nat) (l : List Nat), t ≤ j ∧ tl = .int .i64 (t : Int) ∧ Hid (cat L t ++ l = (cat L j).take (p + (M - p))) ∧ Hid (Str W.heap.size wr R a c l (some ⟨gA, oA, none⟩) M cA (cat L j)) ∧ Hid (Below W.heap.size W wr)) (fun tl _ => 201 - (intOf tl).toNat)
            case atStart => exact ⟨t, a', c', l2, by omega, rfl, hE2, ST2, hB2⟩
            case round =>
              clear hE2 ST2 hB2
              obtain ⟨t, a, c, l, htj, rfl, hE3, hS3, hB3⟩ := hrel
              have hll := str_len hE3.out hS3.out.all.len
              have HX := Lib.hid (next_any W.heap.size R a l.length c l (by omega) wr (HT.out.below hB3.out) hS3.out.held)
              obtain ⟨hf0, hstep⟩ := stream_step L j t (p + (M - p)) l htj hL.out hE3.out
              rcases hstep with ⟨hgt, htl, hbd, hrs⟩ | ⟨hgt, hfin⟩
              · obtain ⟨g9, o9, bo9, c9, e9, hg9, q9, hbc9, hcm9, hrd9⟩ := HR.out t (by omega)
                have hLt := hL.out t htl
                have HY : Calls Tryd.prog 21 #[.pointer (some ⟨R, 0, none⟩)] wr fun e w' => ∃ ab cb a5 c5, e = .returned (.tuple #[.slice ab (L t).length cb, .bool true, .int .i64 0]) ∧ Own w' wr.heap.size ab (L t).length cb (L t) ∧ Held w' W.heap.size R a5 (rest l).length c5 (rest l) ∧ Keep [R] wr w' ∧ (∀ g ∈ blk a5, g ∈ blk a ∨ wr.heap.size ≤ g) := by
                  refine HX.out.mono ?_
                  rintro e w' ⟨ab, cb, a5, c5, he, ob, hh5, k5, n5, d5⟩
                  rw [hgt, hf0, hbd] at he
                  rw [hbd] at ob
                  exact ⟨ab, cb, a5, c5, he, ob, hh5, k5, n5⟩
                have HY2 := Lib.hid HY
                have HRS := Lib.hid hrs
                have HRD := Lib.hid hrd9
                obtain ⟨B, hBe⟩ : ∃ B, B = (L t).length := ⟨_, rfl⟩
                rw [← hBe] at HY2 q9 hLt
                have HBE := Lib.hid hBe
                subst e9
                clear HX HY hrs hrd9 hBe hgt hbd hf0 hll hbc9 hcm9
                go_wp2_with fail
                refine HY2.out.mono ?_
                rintro e wx ⟨ab, cb, a5, c5, rfl, ob, hh5, k5, n5⟩
                have hS5 := hS3.out.step k5 (fun q hq => .inl (by simpa using hq)) hh5 n5
                have hB5 := Below.keep hB3.out hB3.out.size k5 (fun q hq => by simp at hq; rw [hq]; exact hS3.out.held.base)
                have q9' := (hB5.cell (p := ⟨g9, o9 + t, none⟩) hg9).trans q9
                have SM := Lib.hid (same_any ab bo9 B B cb c9 (L t) (L t) HBE.out.symm HBE.out.symm (by omega) wx ob.rd (HRD.out.below hB5))
                have SS := Lib.hid hS5; have BB := Lib.hid hB5
                clear hS5 hB5 ob hh5 k5 n5 q9 HY2 hS3 hB3
                go_wp2_with fail
                refine SM.out.mono ?_
                rintro e wy ⟨rfl, b6⟩
                rw [beq_self_eq_true]
                have SS2 := Lib.hid (SS.out.below b6)
                have BB2 := Lib.hid (BB.out.trans (b6.mono BB.out.size))
                clear SS BB SM q9' b6
                go_wp2_with fail
                go_roundw
                case rel => exact ⟨t + 1, a5, c5, rest l, by omega, by go_num, HRS.out, SS2.out, BB2.out⟩
                case measure => (simp [intOf] <;> omega)
              · have HY : Calls Tryd.prog 21 #[.pointer (some ⟨R, 0, none⟩)] wr fun e w' => ∃ v a5 c5, e = .returned (.tuple #[v, .bool false, .int .i64 0]) ∧ Held w' W.heap.size R a5 l.length c5 l ∧ Keep [R] wr w' ∧ (∀ g ∈ blk a5, g ∈ blk a ∨ wr.heap.size ≤ g) := by
                  refine HX.out.mono ?_
                  rintro e w' ⟨ab, cb, a5, c5, he, ob, hh5, k5, n5, d5⟩
                  rw [hgt, hf0] at he
                  have hre : rest l = l := by unfold rest; rw [if_neg (by rw [hgt]; simp)]
                  rw [hre] at hh5
                  exact ⟨_, a5, c5, he, hh5, k5, n5⟩
                have HY2 := Lib.hid HY; have HG := Lib.hid hgt
                clear HX HY hgt hf0 hll hfin
                go_wp2_with fail
                refine HY2.out.mono ?_
                rintro e wx ⟨v, a5, c5, rfl, hh5, k5, n5⟩
                have hS5 := Lib.hid (hS3.out.step k5 (fun q hq => .inl (by simpa using hq)) hh5 n5)
                have hB5 := Lib.hid (Below.keep hB3.out hB3.out.size k5 (fun q hq => by simp at hq; rw [hq]; exact hS3.out.held.base))
                clear hh5 k5 n5 HY2 hS3 hB3
                go_wp2_with fail
                go_roundw
                case rel => exact ⟨t, p + (M - p), q + 1, a5, c5, l, by omega, by omega, by omega, by omega, rfl, by go_num, by go_num, hE3.out, HG.out, hS5.out, hB5.out⟩
                case measure => (simp [intOf] <;> omega)
          · go_wp2_with fail
            refine FD.out.mono ?_
            clear FD
            rintro e wf ⟨a', c', rfl, hh, kf, nf⟩
            rw [hsl] at hh
            have hll : (l ++ ((cat L j).drop p).take (M - p)).length = l.length + (M - p) := by rw [List.length_append, hsl]
            rw [← hll] at hh
            have hS2 := hSt.out.step kf (fun q hq => by rcases List.mem_cons.1 hq with h | h; exact .inl h; exact .inr h) hh nf
            have hB2 := Lib.hid (Below.keep hBw.out hBw.out.size kf (hSt.out.reader (fun q hq => by rcases List.mem_cons.1 hq with h | h; exact .inl h; exact .inr h)))
            have hE2 := Lib.hid (show cat L t ++ (l ++ ((cat L j).drop p).take (M - p)) = (cat L j).take (p + (M - p)) by rw [← List.append_assoc, hEq.out, List.take_add])
            have ST2 := Lib.hid hS2
            generalize l ++ ((cat L j).drop p).take (M - p) = l2 at *
            clear hh kf nf hll hsl hS2 hSt hBw hEq hGt
            go_wp2_with fail
            go_loopw [12] (fun tl wr => ∃ (t : Nat) (a : Option Addr) (c : Nat) (l : List Nat), t ≤ j ∧ tl = .int .i64 (t : Int) ∧ Hid (cat L t ++ l = (cat L j).take (p + (M - p))) ∧ Hid (Str W.heap.size wr R a c l (some ⟨gA, oA, none⟩) M cA (cat L j)) ∧ Hid (Below W.heap.size W wr)) (fun tl _ => 201 - (intOf tl).toNat)
            case atStart => exact ⟨t, a', c', l2, by omega, rfl, hE2, ST2, hB2⟩
            case round =>
              clear hE2 ST2 hB2
              obtain ⟨t, a, c, l, htj, rfl, hE3, hS3, hB3⟩ := hrel
              have hll := str_len hE3.out hS3.out.all.len
              have HX := Lib.hid (next_any W.heap.size R a l.length c l (by omega) wr (HT.out.below hB3.out) hS3.out.held)
              obtain ⟨hf0, hstep⟩ := stream_step L j t (p + (M - p)) l htj hL.out hE3.out
              rcases hstep with ⟨hgt, htl, hbd, hrs⟩ | ⟨hgt, hfin⟩
              · obtain ⟨g9, o9, bo9, c9, e9, hg9, q9, hbc9, hcm9, hrd9⟩ := HR.out t (by omega)
                have hLt := hL.out t htl
                have HY : Calls Tryd.prog 21 #[.pointer (some ⟨R, 0, none⟩)] wr fun e w' => ∃ ab cb a5 c5, e = .returned (.tuple #[.slice ab (L t).length cb, .bool true, .int .i64 0]) ∧ Own w' wr.heap.size ab (L t).length cb (L t) ∧ Held w' W.heap.size R a5 (rest l).length c5 (rest l) ∧ Keep [R] wr w' ∧ (∀ g ∈ blk a5, g ∈ blk a ∨ wr.heap.size ≤ g) := by
                  refine HX.out.mono ?_
                  rintro e w' ⟨ab, cb, a5, c5, he, ob, hh5, k5, n5, d5⟩
                  rw [hgt, hf0, hbd] at he
                  rw [hbd] at ob
                  exact ⟨ab, cb, a5, c5, he, ob, hh5, k5, n5⟩
                have HY2 := Lib.hid HY
                have HRS := Lib.hid hrs
                have HRD := Lib.hid hrd9
                obtain ⟨B, hBe⟩ : ∃ B, B = (L t).length := ⟨_, rfl⟩
                rw [← hBe] at HY2 q9 hLt
                have HBE := Lib.hid hBe
                subst e9
                clear HX HY hrs hrd9 hBe hgt hbd hf0 hll hbc9 hcm9
                go_wp2_with fail
                refine HY2.out.mono ?_
                rintro e wx ⟨ab, cb, a5, c5, rfl, ob, hh5, k5, n5⟩
                have hS5 := hS3.out.step k5 (fun q hq => .inl (by simpa using hq)) hh5 n5
                have hB5 := Below.keep hB3.out hB3.out.size k5 (fun q hq => by simp at hq; rw [hq]; exact hS3.out.held.base)
                have q9' := (hB5.cell (p := ⟨g9, o9 + t, none⟩) hg9).trans q9
                have SM := Lib.hid (same_any ab bo9 B B cb c9 (L t) (L t) HBE.out.symm HBE.out.symm (by omega) wx ob.rd (HRD.out.below hB5))
                have SS := Lib.hid hS5; have BB := Lib.hid hB5
                clear hS5 hB5 ob hh5 k5 n5 q9 HY2 hS3 hB3
                go_wp2_with fail
                refine SM.out.mono ?_
                rintro e wy ⟨rfl, b6⟩
                rw [beq_self_eq_true]
                have SS2 := Lib.hid (SS.out.below b6)
                have BB2 := Lib.hid (BB.out.trans (b6.mono BB.out.size))
                clear SS BB SM q9' b6
                go_wp2_with fail
                go_roundw
                case rel => exact ⟨t + 1, a5, c5, rest l, by omega, by go_num, HRS.out, SS2.out, BB2.out⟩
                case measure => (simp [intOf] <;> omega)
              · have HY : Calls Tryd.prog 21 #[.pointer (some ⟨R, 0, none⟩)] wr fun e w' => ∃ v a5 c5, e = .returned (.tuple #[v, .bool false, .int .i64 0]) ∧ Held w' W.heap.size R a5 l.length c5 l ∧ Keep [R] wr w' ∧ (∀ g ∈ blk a5, g ∈ blk a ∨ wr.heap.size ≤ g) := by
                  refine HX.out.mono ?_
                  rintro e w' ⟨ab, cb, a5, c5, he, ob, hh5, k5, n5, d5⟩
                  rw [hgt, hf0] at he
                  have hre : rest l = l := by unfold rest; rw [if_neg (by rw [hgt]; simp)]
                  rw [hre] at hh5
                  exact ⟨_, a5, c5, he, hh5, k5, n5⟩
                have HY2 := Lib.hid HY; have HG := Lib.hid hgt
                clear HX HY hgt hf0 hll hfin
                go_wp2_with fail
                refine HY2.out.mono ?_
                rintro e wx ⟨v, a5, c5, rfl, hh5, k5, n5⟩
                have hS5 := Lib.hid (hS3.out.step k5 (fun q hq => .inl (by simpa using hq)) hh5 n5)
                have hB5 := Lib.hid (Below.keep hB3.out hB3.out.size k5 (fun q hq => by simp at hq; rw [hq]; exact hS3.out.held.base))
                clear hh5 k5 n5 HY2 hS3 hB3
                go_wp2_with fail
                go_roundw
                case rel => exact ⟨t, p + (M - p), q + 1, a5, c5, l, by omega, by omega, by omega, by omega, rfl, by go_num, by go_num, hE3.out, HG.out, hS5.out, hB5.out⟩
                case measure => (simp [intOf] <;> omega)
      · obtain ⟨hf0, hst⟩ := stream_step L j t p l htj hL.out hEq.out
        have hpe : p = (cat L j).length := by have := hSt.out.all.len; omega
        rcases hst with ⟨hgt, _⟩ | ⟨_, hfin⟩
        · rw [hGt.out] at hgt; cases hgt
        · obtain ⟨rfl, rfl⟩ := hfin hpe
          have WT := Lib.hid (waiting_any W.heap.size R a 0 c [] wr hSt.out.held)
          clear hpe hf0 hqp
          go_wp2_with fail
          refine WT.out.mono ?_
          rintro e wz ⟨rfl, rfl⟩
          go_wp2_with fail
          go_ret
          exact ⟨rfl, hBw.out⟩
  clear hKc
  go_loopw [7, 8, 9] (fun all nn i wr => ∃ (j : Nat) (aA : Option Addr) (cA M : Nat), j ≤ n ∧ j ≤ 200 ∧ i = .int .i64 (j : Int) ∧ nn = .int .i64 (j : Int) ∧ all = .slice aA M cA ∧ M ≤ 131072 ∧ Hid (∀ i, i < j → (L i).length ≤ 65536) ∧ Hid (Str W.heap.size wr R none 0 [] aA M cA (cat L j)) ∧ Hid (Below W.heap.size W wr)) (fun _ _ i _ => 201 - (intOf i).toNat)
  case atStart => exact ⟨0, none, 0, 0, by omega, by omega, rfl, rfl, rfl, by omega, fun i hi => by omega, ⟨h1.out, Own.nil _ _, by simp [blk], by simp [blk]⟩, b2⟩
  case round =>
    clear h1 b2
    obtain ⟨j, aA, cA, M, hj1, hj2, rfl, rfl, rfl, hM, hL, hS, hB⟩ := hrel
    by_cases hgo : j < n ∧ j < 200
    · obtain ⟨hj3, hj4⟩ := hgo
      obtain ⟨g, o, bo, c, rfl, hg, q0, hbc, hcm, hrd⟩ := (HR.out.below hB.out) j hj3
      have HRD := Lib.hid hrd; clear hrd
      have hbl : (L j).length ≤ 9223372036854775807 := Nat.le_trans hbc hcm
      obtain ⟨m, hmm⟩ : ∃ m, m = (L j).length := ⟨_, rfl⟩
      rw [← hmm] at q0 hbl hbc
      have WR := Lib.hid (wrap_n bo m c (L j) hmm.symm hbl wr (HT.out.below hB.out) HRD.out)
      have HMM := Lib.hid hmm; clear hmm
      go_wp2_with fail
      refine WR.out.mono ?_
      rintro e w4 (⟨h, rfl, rfl⟩ | ⟨h, ab, cb, q, hq, rfl, ob, b4⟩)
      · go_wp2_with fail
        exact hK hj2 hj1 hM hL hS hB
      · have hs4 := b4.size
        have hql : q ≤ 65546 := by omega
        have HQ := Lib.hid hq; clear hq
        by_cases hfit : M + q ≤ 131072
        · have A4 := Lib.hid (hS.out.below b4)
          have B4 := Lib.hid (hB.out.trans (b4.mono hB.out.size))
          have OB := Lib.hid ob; clear ob
          have hw4 := B4.out.size
          have HFL := Lib.hid (show (frameOf (L j)).length = q by rw [frameOf_length, ← HMM.out, HQ.out])
          go_wp2_with (at_builtin; refine wpList_app rfl (.tmp 55) (.tmp 56) rfl rfl A4.out.all rfl OB.out.rd HFL.out hw4 (by omega) ?_; intro aA2 cA2 w5 oA kA nA)
          have hS5 : Str W.heap.size w5 R none 0 [] aA2 (M + q) cA2 (cat L (j + 1)) := ⟨A4.out.held.keep kA A4.out.s1 (by simp [blk]), oA, fun hm => by
            rcases nA R hm with h | h
            · exact A4.out.s1 h
            · have := A4.out.held.lt; omega, by simp [blk]⟩
          have B5 := Below.keep B4.out hw4 kA (fun q hq => (A4.out.all.lt_size q hq).1)
          clear oA kA nA
          go_roundw
          case rel => exact ⟨j + 1, aA2, cA2, M + q, by omega, by omega, by go_num, by go_num, rfl, hfit, fun i hi => by
            by_cases e : i = j
            · subst e; rw [← HMM.out]; exact h
            · exact hL.out i (by omega), hS5, B5⟩
          case measure => (simp [intOf] <;> omega)
        · have A4 := Lib.hid (hS.out.below b4)
          have B4 := Lib.hid (hB.out.trans (b4.mono hB.out.size))
          go_wp2_with fail
          exact hK hj2 hj1 hM hL A4 B4
    · have hex : ¬ j < n ∨ (j < n ∧ ¬ j < 200) := by omega
      clear hgo
      rcases hex with h | ⟨h, h'⟩
      all_goals
        go_wp2_with fail
        exact hK hj2 hj1 hM hL hS hB
end Go.Proofs.YtbbafjgbcmlacaaDoor
