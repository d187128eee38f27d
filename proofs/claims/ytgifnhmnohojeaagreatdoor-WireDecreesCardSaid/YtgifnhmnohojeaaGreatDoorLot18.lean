/- The document's decree of a value. A decree's chain of numbers is its codec. The document's decree of a value: the walk. -/
import Derived.Test.YtgifnhmnohojeaaGreatDoorLot17

namespace Go.Proofs.YtgifnhmnohojeaaGreatDoor
open Go.RowKit
set_option linter.unusedVariables false

theorem inNum_lt {size most : Nat} {l : List Nat} {ok : Bool} (hl : Bytes l) (h : size ≤ 8) : (inNum size most l ok).1 < 256 ^ size := by
  unfold inNum
  split
  · rename_i h1
    have := unle_lt (l.take size) (Bytes.take hl size)
    rwa [List.length_take, Nat.min_eq_left h1.2] at this
  · exact Nat.pow_pos (by omega)
theorem inNum_bytes {size most : Nat} {l : List Nat} {ok : Bool} (hl : Bytes l) : Bytes (inNum size most l ok).2.1 := by
  unfold inNum
  split
  · exact fun c hc => hl c (List.mem_of_mem_drop hc)
  · exact hl
set_option maxHeartbeats 1000000 in
theorem infour_any (l : List Nat) (ok : Bool) (g : Nat) (w : World) (h : InIs w g l ok) (hl : Bytes l) :
    Calls Tryz.prog 46 #[.pointer (some ⟨g, 0, none⟩)] w fun e w' => e = .returned (.int .u32 ((inNum 4 4294967295 l ok).1 : Int)) ∧ InIs w' g (inNum 4 4294967295 l ok).2.1 (inNum 4 4294967295 l ok).2.2 ∧ Keep [g] w w' := by
  have T := Lib.hid (innum_any 4 4294967295 l ok g (by omega) w h)
  have hv : (inNum 4 4294967295 l ok).1 < 4294967296 := inNum_lt (size := 4) hl (by omega)
  generalize inNum 4 4294967295 l ok = r at *
  obtain ⟨v, l2, ok2⟩ := r
  have HV := Lib.hid (show v < 4294967296 from hv)
  clear hv hl h
  go_enter Tryz.func46, Tryz.ntmps46
  go_wp2_with fail
  refine T.out.mono ?_
  rintro e w' ⟨rfl, h2, h3⟩
  have hv : v < 4294967296 := HV.out
  have H2 := Lib.hid h2
  have H3 := Lib.hid h3
  clear h2 h3
  go_wp2_with fail
  go_ret
  exact ⟨ret_int (by first | rfl | (show (v : Int) % 4294967296 = v; omega)), H2.out, H3.out⟩

/-- the chain of a decree's numbers -/
structure Chain (l : List Nat) where
  r1 : Nat × List Nat × Bool
  r2 : Nat × List Nat × Bool
  r3 : Nat × List Nat × Bool
  r4 : Nat × List Nat × Bool
  r5 : Nat × List Nat × Bool
  r6 : Nat × List Nat × Bool
  r7 : Nat × List Nat × Bool
  h1 : r1 = inNum 1 5 l true
  h2 : r2 = inNum 1 255 r1.2.1 r1.2.2
  h3 : r3 = inNum 1 255 r2.2.1 r2.2.2
  h4 : r4 = inNum 1 63 r3.2.1 r3.2.2
  h5 : r5 = inNum 1 64 r4.2.1 r4.2.2
  h6 : r6 = inNum 4 4294967295 r5.2.1 r5.2.2
  h7 : r7 = inNum 4 4294967295 r6.2.1 r6.2.2
def chain (l : List Nat) : Chain l := ⟨_, _, _, _, _, _, _, rfl, rfl, rfl, rfl, rfl, rfl, rfl⟩
theorem inNum_not {size most : Nat} {l : List Nat} : inNum size most l false = (0, l, false) := by unfold inNum; rw [if_neg (by simp)]
theorem inNum_dec {size most : Nat} {l : List Nat} : (num' size most).dec l = if (inNum size most l true).2.2 = true then some ((inNum size most l true).1, (inNum size most l true).2.1) else none := by
  unfold inNum
  by_cases h : size ≤ l.length
  · by_cases h2 : unle (l.take size) ≤ most
    · simp [num', h, h2]
    · simp [num', h, h2]
  · simp [num', h]
end Go.Proofs.YtgifnhmnohojeaaGreatDoor


namespace Go.Proofs.YtgifnhmnohojeaaGreatDoor
open Go.RowKit
set_option linter.unusedVariables false

theorem fall {s m v' : Nat} {l l' : List Nat} {b' : Bool} (h : (v', l', b') = inNum s m l false) : b' = false := by
  rw [inNum_not] at h; cases h; rfl
theorem num_of {s m v' : Nat} {l l' : List Nat} {b' : Bool} (h : (v', l', b') = inNum s m l true) : (num' s m).dec l = if b' = true then some (v', l') else none := by
  rw [inNum_dec, ← h]
theorem whole_of {s m v' : Nat} {l l' : List Nat} {b' : Bool} (h : (v', l', b') = inNum s m l true) : (whole s m).dec l = if b' = true then some ((v' : Int), l') else none := by
  show ((num' s m).dec l).map _ = _
  rw [num_of h]
  cases b' <;> rfl
theorem dcr_dec_eq (l : List Nat) : dcrC.dec l = ((whole 1 5).dec l).bind fun p => ((whole 1 255).dec p.2).bind fun q => ((whole 1 255).dec q.2).bind fun r => ((whole 1 63).dec r.2).bind fun s => ((whole 1 64).dec s.2).bind fun t => ((num' 4 4294967295).dec t.2).bind fun u => ((num' 4 4294967295).dec u.2).bind fun v => some (⟨p.1, q.1, r.1, ⟨s.1, t.1⟩, u.1, v.1⟩, v.2) := by
  simp only [dcrC, Cod.map, Cod.two, Cod.dep, node, arcC, bucketC, four_]
  cases (whole 1 5).dec l with
  | none => rfl
  | some p =>
    obtain ⟨p1, p2⟩ := p
    simp only [Option.bind_some]
    cases (whole 1 255).dec p2 with
    | none => rfl
    | some q =>
      obtain ⟨q1, q2⟩ := q
      simp only [Option.bind_some]
      cases (whole 1 255).dec q2 with
      | none => rfl
      | some r =>
        obtain ⟨r1, r2⟩ := r
        simp only [Option.bind_some]
        cases (whole 1 63).dec r2 with
        | none => rfl
        | some s =>
          obtain ⟨s1, s2⟩ := s
          simp only [Option.bind_some]
          cases (whole 1 64).dec s2 with
          | none => rfl
          | some t =>
            obtain ⟨t1, t2⟩ := t
            simp only [Option.bind_some, Option.map_some]
            cases (num' 4 4294967295).dec t2 with
            | none => rfl
            | some u =>
              obtain ⟨u1, u2⟩ := u
              simp only [Option.bind_some]
              cases (num' 4 4294967295).dec u2 with
              | none => rfl
              | some v => rfl
theorem chain_dec (l : List Nat) (C : Chain l) : dcrC.dec l = if C.r7.2.2 = true then some (⟨C.r1.1, C.r2.1, C.r3.1, ⟨C.r4.1, C.r5.1⟩, C.r6.1, C.r7.1⟩, C.r7.2.1) else none := by
  obtain ⟨⟨v1, l1, b1⟩, ⟨v2, l2, b2⟩, ⟨v3, l3, b3⟩, ⟨v4, l4, b4⟩, ⟨v5, l5, b5⟩, ⟨v6, l6, b6⟩, ⟨v7, l7, b7⟩, h1, h2, h3, h4, h5, h6, h7⟩ := C
  simp only at h1 h2 h3 h4 h5 h6 h7 ⊢
  rw [dcr_dec_eq, whole_of h1]
  cases b1 with
  | false =>
    obtain rfl := fall h2
    obtain rfl := fall h3
    obtain rfl := fall h4
    obtain rfl := fall h5
    obtain rfl := fall h6
    obtain rfl := fall h7
    rfl
  | true =>
    simp only [if_true, Option.bind_some]
    rw [whole_of h2]
    cases b2 with
    | false =>
      obtain rfl := fall h3
      obtain rfl := fall h4
      obtain rfl := fall h5
      obtain rfl := fall h6
      obtain rfl := fall h7
      rfl
    | true =>
      simp only [if_true, Option.bind_some]
      rw [whole_of h3]
      cases b3 with
      | false =>
        obtain rfl := fall h4
        obtain rfl := fall h5
        obtain rfl := fall h6
        obtain rfl := fall h7
        rfl
      | true =>
        simp only [if_true, Option.bind_some]
        rw [whole_of h4]
        cases b4 with
        | false =>
          obtain rfl := fall h5
          obtain rfl := fall h6
          obtain rfl := fall h7
          rfl
        | true =>
          simp only [if_true, Option.bind_some]
          rw [whole_of h5]
          cases b5 with
          | false =>
            obtain rfl := fall h6
            obtain rfl := fall h7
            rfl
          | true =>
            simp only [if_true, Option.bind_some]
            rw [num_of h6]
            cases b6 with
            | false =>
              obtain rfl := fall h7
              rfl
            | true =>
              simp only [if_true, Option.bind_some]
              rw [num_of h7]
              cases b7 with
              | false =>
                rfl
              | true =>
                rfl
/-- what the document makes of the value -/
theorem chain_ofDcr (s : ByteArray) (C : Chain (bs s)) : ofDcr s = if C.r7.2.2 = true ∧ C.r7.2.1 = [] then some ⟨C.r1.1, C.r2.1, C.r3.1, ⟨C.r4.1, C.r5.1⟩, C.r6.1, C.r7.1⟩ else none := by
  unfold ofDcr
  rw [chain_dec _ C]
  generalize C.r7.2.2 = b
  generalize C.r7.2.1 = r
  cases b
  · simp
  · cases r with
    | nil => simp
    | cons a t => simp
theorem dcr_size : (Tryz.prog.info? 79).map (·.size) = some 7 := by kernel_rfl
theorem dcr_under : (match Tryz.prog.underlying 79 with | some (.struct _) => true | _ => false) = true := by kernel_rfl
theorem dcr_load {w : World} {g : Nat} {cs : Array Value} (hn : cs.size = 7) (h : w.heap[g]? = some (.cells cs 79 (0, 0))) : (loadVar 79 ⟨g, 0, none⟩).run Tryz.prog w = .ok (.agg cs) w := by
  have hu := dcr_under
  cases hd : Tryz.prog.underlying 79 with
  | none => rw [hd] at hu; cases hu
  | some d =>
    rw [hd] at hu
    cases d with
    | struct fs => exact run_loadVar_row w g 79 79 cs (0, 0) _ h hd rfl (by rw [dcr_size, hn])
    | _ => cases hu
theorem dcr_lay {w : World} {g : Nat} {x0 x1 x2 x3 x4 x5 x6 : Value} {t : TypeId} (h : w.heap[g]? = some (.cells #[x0, x1, x2, x3, x4, x5, x6] t (0, 0))) (a0 a1 a2 a3 a4 a5 a6 : Value) :
    (((((((w.setCell ⟨g, 0, none⟩ a0).setCell ⟨g, 1, none⟩ a1).setCell ⟨g, 2, none⟩ a2).setCell ⟨g, 3, none⟩ a3).setCell ⟨g, 4, none⟩ a4).setCell ⟨g, 5, none⟩ a5).setCell ⟨g, 6, none⟩ a6).heap[g]? = some (.cells #[a0, a1, a2, a3, a4, a5, a6] t (0, 0)) := by
  have h1 : (w.setCell ⟨g, 0, none⟩ a0).heap[g]? = some (.cells #[a0, x1, x2, x3, x4, x5, x6] t (0, 0)) := heap_setCell_same w g 0 _ t a0 h
  generalize w.setCell ⟨g, 0, none⟩ a0 = w1 at *
  have h2 : (w1.setCell ⟨g, 1, none⟩ a1).heap[g]? = some (.cells #[a0, a1, x2, x3, x4, x5, x6] t (0, 0)) := heap_setCell_same w1 g 1 _ t a1 h1
  generalize w1.setCell ⟨g, 1, none⟩ a1 = w2 at *
  have h3 : (w2.setCell ⟨g, 2, none⟩ a2).heap[g]? = some (.cells #[a0, a1, a2, x3, x4, x5, x6] t (0, 0)) := heap_setCell_same w2 g 2 _ t a2 h2
  generalize w2.setCell ⟨g, 2, none⟩ a2 = w3 at *
  have h4 : (w3.setCell ⟨g, 3, none⟩ a3).heap[g]? = some (.cells #[a0, a1, a2, a3, x4, x5, x6] t (0, 0)) := heap_setCell_same w3 g 3 _ t a3 h3
  generalize w3.setCell ⟨g, 3, none⟩ a3 = w4 at *
  have h5 : (w4.setCell ⟨g, 4, none⟩ a4).heap[g]? = some (.cells #[a0, a1, a2, a3, a4, x5, x6] t (0, 0)) := heap_setCell_same w4 g 4 _ t a4 h4
  generalize w4.setCell ⟨g, 4, none⟩ a4 = w5 at *
  have h6 : (w5.setCell ⟨g, 5, none⟩ a5).heap[g]? = some (.cells #[a0, a1, a2, a3, a4, a5, x6] t (0, 0)) := heap_setCell_same w5 g 5 _ t a5 h5
  generalize w5.setCell ⟨g, 5, none⟩ a5 = w6 at *
  have h7 : (w6.setCell ⟨g, 6, none⟩ a6).heap[g]? = some (.cells #[a0, a1, a2, a3, a4, a5, a6] t (0, 0)) := heap_setCell_same w6 g 6 _ t a6 h6
  exact h7
theorem dcr_lay_below {w w' : World} {g B : Nat} (h : Below B w w') (hg : B ≤ g) (a0 a1 a2 a3 a4 a5 a6 : Value) :
    Below B w (((((((w'.setCell ⟨g, 0, none⟩ a0).setCell ⟨g, 1, none⟩ a1).setCell ⟨g, 2, none⟩ a2).setCell ⟨g, 3, none⟩ a3).setCell ⟨g, 4, none⟩ a4).setCell ⟨g, 5, none⟩ a5).setCell ⟨g, 6, none⟩ a6) :=
  ((((((h.setCell hg _).setCell hg _).setCell hg _).setCell hg _).setCell hg _).setCell hg _).setCell hg _
end Go.Proofs.YtgifnhmnohojeaaGreatDoor


namespace Go.Proofs.YtgifnhmnohojeaaGreatDoor
open Go.RowKit
set_option linter.unusedVariables false

set_option maxRecDepth 100000 in
set_option maxHeartbeats 4000000 in
theorem refof_any (s : ByteArray) (hs : s.size ≤ 140737488355328) (w : World) : Calls Tryz.prog 20 #[.string s] w fun e w' =>
    e = .returned (.tuple #[.agg (dcrCells ((ofDcr s).getD dcr0)).toArray, .bool (ofDcr s).isSome]) ∧ Below w.heap.size w w' := by
  have RC := run_tobytes (w.alloc (.cells #[.int .i64 0, .int .i64 0, .int .i64 0, .int .i64 0, .int .i64 0, .int .u32 0, .int .u32 0] 79)) s
  have hcap : s.size ≤ grownCap (w.alloc (.cells #[.int .i64 0, .int .i64 0, .int .i64 0, .int .i64 0, .int .i64 0, .int .u32 0, .int .u32 0] 79)) s.size 0 5 := grownCap_ge _ _ _ _
  have hmax : grownCap (w.alloc (.cells #[.int .i64 0, .int .i64 0, .int .i64 0, .int .i64 0, .int .i64 0, .int .u32 0, .int .u32 0] 79)) s.size 0 5 ≤ maxLen := grownCap_le_maxLen _ _ _ _ (by unfold maxLen; omega)
  have hz : (w.alloc (.cells #[.int .i64 0, .int .i64 0, .int .i64 0, .int .i64 0, .int .i64 0, .int .u32 0, .int .u32 0] 79)).heap.size = w.heap.size + 1 := by simp
  rw [hz] at RC
  generalize grownCap (w.alloc (.cells #[.int .i64 0, .int .i64 0, .int .i64 0, .int .i64 0, .int .i64 0, .int .u32 0, .int .u32 0] 79)) s.size 0 5 = cap at *
  have hrow := heap_alloc_new w (.cells #[.int .i64 0, .int .i64 0, .int .i64 0, .int .i64 0, .int .i64 0, .int .u32 0, .int .u32 0] 79)
  have hb1 : Below w.heap.size w (w.alloc (.cells #[.int .i64 0, .int .i64 0, .int .i64 0, .int .i64 0, .int .i64 0, .int .u32 0, .int .u32 0] 79)) := below_alloc (Below.refl _ _) _
  have hbb := bytes_below (w.alloc (.cells #[.int .i64 0, .int .i64 0, .int .i64 0, .int .i64 0, .int .i64 0, .int .u32 0, .int .u32 0] 79)) s
  have hbs := Go.Lib.bytesWorld_size (w.alloc (.cells #[.int .i64 0, .int .i64 0, .int .i64 0, .int .i64 0, .int .i64 0, .int .u32 0, .int .u32 0] 79)) 5 s
  have hR : Rd _ (some ⟨_, 0, none⟩) (bs s) := bs_bytes_own (P := Tryz.prog) (w := w.alloc (.cells #[.int .i64 0, .int .i64 0, .int .i64 0, .int .i64 0, .int .i64 0, .int .u32 0, .int .u32 0] 79)) s
  rw [hz] at hbb hbs hR
  generalize hwB : Go.Lib.bytesWorld (w.alloc (.cells #[.int .i64 0, .int .i64 0, .int .i64 0, .int .i64 0, .int .i64 0, .int .u32 0, .int .u32 0] 79)) 5 s = wB at *
  have HRC := Lib.hid RC
  have hrowB := (hbb.block w.heap.size (by omega)).trans hrow
  have HBB := Lib.hid (hb1.trans (hbb.mono (by omega)))
  clear RC hwB hrow hb1 hbb hz
  have HROW := Lib.hid hrowB
  have HR := Lib.hid hR
  have HSB := Lib.hid hbs
  clear hrowB hR hbs
  go_enter Tryz.func20, Tryz.ntmps20
  go_wp2_with (refine wpList_runs rfl _ _ (exec_convertw (vx := .string s) 9 54 (.tmp 6) rfl rfl HRC.out) ?_)
  have hI0 : InIs ((wB.alloc (.cells #[.slice (some ⟨w.heap.size + 1, 0, none⟩) s.size cap, .bool true] 106)).alloc (.cells #[.int .i64 0, .int .i64 0, .int .i64 0, .int .i64 0, .int .i64 0, .int .u32 0, .int .u32 0] 79)) wB.heap.size (bs s) true := by
    refine ⟨some ⟨w.heap.size + 1, 0, none⟩, s.size, cap, by go_simp, by go_simp, by go_simp, by go_simp, HR.out.below (below_alloc (below_alloc (Below.refl _ _) _) _), bs_length s, hcap, hmax, fun b hb => ?_⟩
    have h9 := HSB.out
    simp [blk] at hb
    omega
  have hD0 : ((wB.alloc (.cells #[.slice (some ⟨w.heap.size + 1, 0, none⟩) s.size cap, .bool true] 106)).alloc (.cells #[.int .i64 0, .int .i64 0, .int .i64 0, .int .i64 0, .int .i64 0, .int .u32 0, .int .u32 0] 79)).heap[wB.heap.size + 1]? = some (.cells #[.int .i64 0, .int .i64 0, .int .i64 0, .int .i64 0, .int .i64 0, .int .u32 0, .int .u32 0] 79 (0, 0)) := by
    have := heap_alloc_new (wB.alloc (.cells #[.slice (some ⟨w.heap.size + 1, 0, none⟩) s.size cap, .bool true] 106)) (.cells #[.int .i64 0, .int .i64 0, .int .i64 0, .int .i64 0, .int .i64 0, .int .u32 0, .int .u32 0] 79)
    simpa using this
  have hbl : Below wB.heap.size wB ((wB.alloc (.cells #[.slice (some ⟨w.heap.size + 1, 0, none⟩) s.size cap, .bool true] 106)).alloc (.cells #[.int .i64 0, .int .i64 0, .int .i64 0, .int .i64 0, .int .i64 0, .int .u32 0, .int .u32 0] 79)) := below_alloc (below_alloc (Below.refl _ _) _) _
  have hz2 : w.heap.size + 1 < wB.heap.size := by have h9 := HSB.out; omega
  generalize (wB.alloc (.cells #[.slice (some ⟨w.heap.size + 1, 0, none⟩) s.size cap, .bool true] 106)).alloc (.cells #[.int .i64 0, .int .i64 0, .int .i64 0, .int .i64 0, .int .i64 0, .int .u32 0, .int .u32 0] 79) = t0 at *
  have HI0 := Lib.hid hI0
  have HD0 := Lib.hid hD0
  have HB0 := Lib.hid (HBB.out.trans (hbl.mono (by omega)))
  have HQ0 : Hid (t0.heap[w.heap.size]? = some (.cells #[.int .i64 0, .int .i64 0, .int .i64 0, .int .i64 0, .int .i64 0, .int .u32 0, .int .u32 0] 79 (0, 0))) := Lib.hid ((hbl.block _ (by omega)).trans HROW.out)
  clear hI0 hD0 hbl HRC HR HSB HBB HROW
  generalize hgI : wB.heap.size = gI at *
  clear hgI
  clear wB
  obtain ⟨C⟩ : Nonempty (Chain (bs s)) := ⟨chain _⟩
  have hof := chain_ofDcr s C
  obtain ⟨⟨v1, l1, b1⟩, ⟨v2, l2, b2⟩, ⟨v3, l3, b3⟩, ⟨v4, l4, b4⟩, ⟨v5, l5, b5⟩, ⟨v6, l6, b6⟩, ⟨v7, l7, b7⟩, e1, e2, e3, e4, e5, e6, e7⟩ := C
  simp only at e1 e2 e3 e4 e5 e6 e7 hof
  have HOF := Lib.hid hof
  clear hof
  have y0 : Bytes (bs s) := bs_bytes s
  have w1 : v1 < 256 ^ 1 := by have h9 := inNum_lt (size := 1) (most := 5) (ok := true) y0 (by omega); rw [← e1] at h9; exact h9
  have y1 : Bytes l1 := by have h9 := inNum_bytes (size := 1) (most := 5) (ok := true) y0; rw [← e1] at h9; exact h9
  have w2 : v2 < 256 ^ 1 := by have h9 := inNum_lt (size := 1) (most := 255) (ok := b1) y1 (by omega); rw [← e2] at h9; exact h9
  have y2 : Bytes l2 := by have h9 := inNum_bytes (size := 1) (most := 255) (ok := b1) y1; rw [← e2] at h9; exact h9
  have w3 : v3 < 256 ^ 1 := by have h9 := inNum_lt (size := 1) (most := 255) (ok := b2) y2 (by omega); rw [← e3] at h9; exact h9
  have y3 : Bytes l3 := by have h9 := inNum_bytes (size := 1) (most := 255) (ok := b2) y2; rw [← e3] at h9; exact h9
  have w4 : v4 < 256 ^ 1 := by have h9 := inNum_lt (size := 1) (most := 63) (ok := b3) y3 (by omega); rw [← e4] at h9; exact h9
  have y4 : Bytes l4 := by have h9 := inNum_bytes (size := 1) (most := 63) (ok := b3) y3; rw [← e4] at h9; exact h9
  have w5 : v5 < 256 ^ 1 := by have h9 := inNum_lt (size := 1) (most := 64) (ok := b4) y4 (by omega); rw [← e5] at h9; exact h9
  have y5 : Bytes l5 := by have h9 := inNum_bytes (size := 1) (most := 64) (ok := b4) y4; rw [← e5] at h9; exact h9
  have w6 : v6 < 256 ^ 4 := by have h9 := inNum_lt (size := 4) (most := 4294967295) (ok := b5) y5 (by omega); rw [← e6] at h9; exact h9
  have y6 : Bytes l6 := by have h9 := inNum_bytes (size := 4) (most := 4294967295) (ok := b5) y5; rw [← e6] at h9; exact h9
  have w7 : v7 < 256 ^ 4 := by have h9 := inNum_lt (size := 4) (most := 4294967295) (ok := b6) y6 (by omega); rw [← e7] at h9; exact h9
  have y7 : Bytes l7 := by have h9 := inNum_bytes (size := 4) (most := 4294967295) (ok := b6) y6; rw [← e7] at h9; exact h9
  have Y1 := Lib.hid y1
  have W1 := Lib.hid w1
  have E1 := Lib.hid e1
  have Y2 := Lib.hid y2
  have W2 := Lib.hid w2
  have E2 := Lib.hid e2
  have Y3 := Lib.hid y3
  have W3 := Lib.hid w3
  have E3 := Lib.hid e3
  have Y4 := Lib.hid y4
  have W4 := Lib.hid w4
  have E4 := Lib.hid e4
  have Y5 := Lib.hid y5
  have W5 := Lib.hid w5
  have E5 := Lib.hid e5
  have Y6 := Lib.hid y6
  have W6 := Lib.hid w6
  have E6 := Lib.hid e6
  have Y7 := Lib.hid y7
  have W7 := Lib.hid w7
  have E7 := Lib.hid e7
  have Y0 := Lib.hid y0
  clear y0 y1 w1 e1 y2 w2 e2 y3 w3 e3 y4 w4 e4 y5 w5 e5 y6 w6 e6 y7 w7 e7
  have T1 := Lib.hid (innum_any 1 5 (bs s) true gI (by omega) t0 HI0.out)
  rw [← E1.out] at T1
  refine T1.out.mono ?_
  rintro e u1 ⟨rfl, q1, q2⟩
  have hsz1 : gI + 1 < t0.heap.size := (Array.getElem?_eq_some_iff.1 HD0.out).1
  have D1 := Lib.hid ((q2.block (gI + 1) hsz1 (by simp)).trans HD0.out)
  have Q1 := Lib.hid ((q2.block w.heap.size (by omega) (by simp; omega)).trans HQ0.out)
  have B1 := Lib.hid (HB0.out.trans (q2.below (B := w.heap.size) (by omega) (by intro g hg; simp at hg; omega)))
  have I1 := Lib.hid q1
  have c1 := cell_of_row u1 (gI + 1) 0 _ _ (0, 0) D1.out
  have f1 := fun j => frozen_of_row u1 (gI + 1) j _ _ D1.out
  have w1 := W1.out
  clear q1 q2 T1 hsz1
  go_wp2_with fail
  have HI1 := Lib.hid (I1.out.beside (g2 := gI + 1) (o := 0) (by omega) (.int .i64 (v1 : Int)))
  have HD1 : Hid ((u1.setCell ⟨gI + 1, 0, none⟩ (.int .i64 (v1 : Int))).heap[gI + 1]? = some (.cells #[.int .i64 (v1 : Int), .int .i64 0, .int .i64 0, .int .i64 0, .int .i64 0, .int .u32 0, .int .u32 0] 79 (0, 0))) := Lib.hid (heap_setCell_same u1 (gI + 1) 0 _ _ (.int .i64 (v1 : Int)) D1.out)
  have HQ1 := Lib.hid ((heap_setCell_other u1 ⟨gI + 1, 0, none⟩ w.heap.size (.int .i64 (v1 : Int)) (by show w.heap.size ≠ gI + 1; omega)).trans Q1.out)
  have HB1 : Hid (Below w.heap.size w (u1.setCell ⟨gI + 1, 0, none⟩ (.int .i64 (v1 : Int)))) := Lib.hid (B1.out.setCell (by show w.heap.size ≤ gI + 1; omega) _)
  generalize u1.setCell ⟨gI + 1, 0, none⟩ (.int .i64 (v1 : Int)) = t1 at *
  clear c1 f1 D1 Q1 B1 I1 HI0 HD0 HQ0 HB0 w1
  clear u1
  have T2 := Lib.hid (innum_any 1 255 l1 b1 gI (by omega) t1 HI1.out)
  rw [← E2.out] at T2
  refine T2.out.mono ?_
  rintro e u2 ⟨rfl, q1, q2⟩
  have hsz2 : gI + 1 < t1.heap.size := (Array.getElem?_eq_some_iff.1 HD1.out).1
  have D2 := Lib.hid ((q2.block (gI + 1) hsz2 (by simp)).trans HD1.out)
  have Q2 := Lib.hid ((q2.block w.heap.size (by omega) (by simp; omega)).trans HQ1.out)
  have B2 := Lib.hid (HB1.out.trans (q2.below (B := w.heap.size) (by omega) (by intro g hg; simp at hg; omega)))
  have I2 := Lib.hid q1
  have c2 := cell_of_row u2 (gI + 1) 1 _ _ (0, 0) D2.out
  have f2 := fun j => frozen_of_row u2 (gI + 1) j _ _ D2.out
  have w2 := W2.out
  clear q1 q2 T2 hsz2
  go_wp2_with fail
  have HI2 := Lib.hid (I2.out.beside (g2 := gI + 1) (o := 1) (by omega) (.int .i64 (v2 : Int)))
  have HD2 : Hid ((u2.setCell ⟨gI + 1, 1, none⟩ (.int .i64 (v2 : Int))).heap[gI + 1]? = some (.cells #[.int .i64 (v1 : Int), .int .i64 (v2 : Int), .int .i64 0, .int .i64 0, .int .i64 0, .int .u32 0, .int .u32 0] 79 (0, 0))) := Lib.hid (heap_setCell_same u2 (gI + 1) 1 _ _ (.int .i64 (v2 : Int)) D2.out)
  have HQ2 := Lib.hid ((heap_setCell_other u2 ⟨gI + 1, 1, none⟩ w.heap.size (.int .i64 (v2 : Int)) (by show w.heap.size ≠ gI + 1; omega)).trans Q2.out)
  have HB2 : Hid (Below w.heap.size w (u2.setCell ⟨gI + 1, 1, none⟩ (.int .i64 (v2 : Int)))) := Lib.hid (B2.out.setCell (by show w.heap.size ≤ gI + 1; omega) _)
  generalize u2.setCell ⟨gI + 1, 1, none⟩ (.int .i64 (v2 : Int)) = t2 at *
  clear c2 f2 D2 Q2 B2 I2 HI1 HD1 HQ1 HB1 w2
  clear u2
  have T3 := Lib.hid (innum_any 1 255 l2 b2 gI (by omega) t2 HI2.out)
  rw [← E3.out] at T3
  refine T3.out.mono ?_
  rintro e u3 ⟨rfl, q1, q2⟩
  have hsz3 : gI + 1 < t2.heap.size := (Array.getElem?_eq_some_iff.1 HD2.out).1
  have D3 := Lib.hid ((q2.block (gI + 1) hsz3 (by simp)).trans HD2.out)
  have Q3 := Lib.hid ((q2.block w.heap.size (by omega) (by simp; omega)).trans HQ2.out)
  have B3 := Lib.hid (HB2.out.trans (q2.below (B := w.heap.size) (by omega) (by intro g hg; simp at hg; omega)))
  have I3 := Lib.hid q1
  have c3 := cell_of_row u3 (gI + 1) 2 _ _ (0, 0) D3.out
  have f3 := fun j => frozen_of_row u3 (gI + 1) j _ _ D3.out
  have w3 := W3.out
  clear q1 q2 T3 hsz3
  go_wp2_with fail
  have HI3 := Lib.hid (I3.out.beside (g2 := gI + 1) (o := 2) (by omega) (.int .i64 (v3 : Int)))
  have HD3 : Hid ((u3.setCell ⟨gI + 1, 2, none⟩ (.int .i64 (v3 : Int))).heap[gI + 1]? = some (.cells #[.int .i64 (v1 : Int), .int .i64 (v2 : Int), .int .i64 (v3 : Int), .int .i64 0, .int .i64 0, .int .u32 0, .int .u32 0] 79 (0, 0))) := Lib.hid (heap_setCell_same u3 (gI + 1) 2 _ _ (.int .i64 (v3 : Int)) D3.out)
  have HQ3 := Lib.hid ((heap_setCell_other u3 ⟨gI + 1, 2, none⟩ w.heap.size (.int .i64 (v3 : Int)) (by show w.heap.size ≠ gI + 1; omega)).trans Q3.out)
  have HB3 : Hid (Below w.heap.size w (u3.setCell ⟨gI + 1, 2, none⟩ (.int .i64 (v3 : Int)))) := Lib.hid (B3.out.setCell (by show w.heap.size ≤ gI + 1; omega) _)
  generalize u3.setCell ⟨gI + 1, 2, none⟩ (.int .i64 (v3 : Int)) = t3 at *
  clear c3 f3 D3 Q3 B3 I3 HI2 HD2 HQ2 HB2 w3
  clear u3
  have T4 := Lib.hid (innum_any 1 63 l3 b3 gI (by omega) t3 HI3.out)
  rw [← E4.out] at T4
  refine T4.out.mono ?_
  rintro e u4 ⟨rfl, q1, q2⟩
  have hsz4 : gI + 1 < t3.heap.size := (Array.getElem?_eq_some_iff.1 HD3.out).1
  have D4 := Lib.hid ((q2.block (gI + 1) hsz4 (by simp)).trans HD3.out)
  have Q4 := Lib.hid ((q2.block w.heap.size (by omega) (by simp; omega)).trans HQ3.out)
  have B4 := Lib.hid (HB3.out.trans (q2.below (B := w.heap.size) (by omega) (by intro g hg; simp at hg; omega)))
  have I4 := Lib.hid q1
  have c4 := cell_of_row u4 (gI + 1) 3 _ _ (0, 0) D4.out
  have f4 := fun j => frozen_of_row u4 (gI + 1) j _ _ D4.out
  have w4 := W4.out
  clear q1 q2 T4 hsz4
  go_wp2_with fail
  have HI4 := Lib.hid (I4.out.beside (g2 := gI + 1) (o := 3) (by omega) (.int .i64 (v4 : Int)))
  have HD4 : Hid ((u4.setCell ⟨gI + 1, 3, none⟩ (.int .i64 (v4 : Int))).heap[gI + 1]? = some (.cells #[.int .i64 (v1 : Int), .int .i64 (v2 : Int), .int .i64 (v3 : Int), .int .i64 (v4 : Int), .int .i64 0, .int .u32 0, .int .u32 0] 79 (0, 0))) := Lib.hid (heap_setCell_same u4 (gI + 1) 3 _ _ (.int .i64 (v4 : Int)) D4.out)
  have HQ4 := Lib.hid ((heap_setCell_other u4 ⟨gI + 1, 3, none⟩ w.heap.size (.int .i64 (v4 : Int)) (by show w.heap.size ≠ gI + 1; omega)).trans Q4.out)
  have HB4 : Hid (Below w.heap.size w (u4.setCell ⟨gI + 1, 3, none⟩ (.int .i64 (v4 : Int)))) := Lib.hid (B4.out.setCell (by show w.heap.size ≤ gI + 1; omega) _)
  generalize u4.setCell ⟨gI + 1, 3, none⟩ (.int .i64 (v4 : Int)) = t4 at *
  clear c4 f4 D4 Q4 B4 I4 HI3 HD3 HQ3 HB3 w4
  clear u4
  have T5 := Lib.hid (innum_any 1 64 l4 b4 gI (by omega) t4 HI4.out)
  rw [← E5.out] at T5
  refine T5.out.mono ?_
  rintro e u5 ⟨rfl, q1, q2⟩
  have hsz5 : gI + 1 < t4.heap.size := (Array.getElem?_eq_some_iff.1 HD4.out).1
  have D5 := Lib.hid ((q2.block (gI + 1) hsz5 (by simp)).trans HD4.out)
  have Q5 := Lib.hid ((q2.block w.heap.size (by omega) (by simp; omega)).trans HQ4.out)
  have B5 := Lib.hid (HB4.out.trans (q2.below (B := w.heap.size) (by omega) (by intro g hg; simp at hg; omega)))
  have I5 := Lib.hid q1
  have c5 := cell_of_row u5 (gI + 1) 4 _ _ (0, 0) D5.out
  have f5 := fun j => frozen_of_row u5 (gI + 1) j _ _ D5.out
  have w5 := W5.out
  clear q1 q2 T5 hsz5
  go_wp2_with fail
  have HI5 := Lib.hid (I5.out.beside (g2 := gI + 1) (o := 4) (by omega) (.int .i64 (v5 : Int)))
  have HD5 : Hid ((u5.setCell ⟨gI + 1, 4, none⟩ (.int .i64 (v5 : Int))).heap[gI + 1]? = some (.cells #[.int .i64 (v1 : Int), .int .i64 (v2 : Int), .int .i64 (v3 : Int), .int .i64 (v4 : Int), .int .i64 (v5 : Int), .int .u32 0, .int .u32 0] 79 (0, 0))) := Lib.hid (heap_setCell_same u5 (gI + 1) 4 _ _ (.int .i64 (v5 : Int)) D5.out)
  have HQ5 := Lib.hid ((heap_setCell_other u5 ⟨gI + 1, 4, none⟩ w.heap.size (.int .i64 (v5 : Int)) (by show w.heap.size ≠ gI + 1; omega)).trans Q5.out)
  have HB5 : Hid (Below w.heap.size w (u5.setCell ⟨gI + 1, 4, none⟩ (.int .i64 (v5 : Int)))) := Lib.hid (B5.out.setCell (by show w.heap.size ≤ gI + 1; omega) _)
  generalize u5.setCell ⟨gI + 1, 4, none⟩ (.int .i64 (v5 : Int)) = t5 at *
  clear c5 f5 D5 Q5 B5 I5 HI4 HD4 HQ4 HB4 w5
  clear u5
  have T6 := Lib.hid (infour_any l5 b5 gI t5 HI5.out Y5.out)
  rw [← E6.out] at T6
  refine T6.out.mono ?_
  rintro e u6 ⟨rfl, q1, q2⟩
  have hsz6 : gI + 1 < t5.heap.size := (Array.getElem?_eq_some_iff.1 HD5.out).1
  have D6 := Lib.hid ((q2.block (gI + 1) hsz6 (by simp)).trans HD5.out)
  have Q6 := Lib.hid ((q2.block w.heap.size (by omega) (by simp; omega)).trans HQ5.out)
  have B6 := Lib.hid (HB5.out.trans (q2.below (B := w.heap.size) (by omega) (by intro g hg; simp at hg; omega)))
  have I6 := Lib.hid q1
  have c6 := cell_of_row u6 (gI + 1) 5 _ _ (0, 0) D6.out
  have f6 := fun j => frozen_of_row u6 (gI + 1) j _ _ D6.out
  have w6 := W6.out
  clear q1 q2 T6 hsz6
  go_wp2_with fail
  have HI6 := Lib.hid (I6.out.beside (g2 := gI + 1) (o := 5) (by omega) (.int .u32 (v6 : Int)))
  have HD6 : Hid ((u6.setCell ⟨gI + 1, 5, none⟩ (.int .u32 (v6 : Int))).heap[gI + 1]? = some (.cells #[.int .i64 (v1 : Int), .int .i64 (v2 : Int), .int .i64 (v3 : Int), .int .i64 (v4 : Int), .int .i64 (v5 : Int), .int .u32 (v6 : Int), .int .u32 0] 79 (0, 0))) := Lib.hid (heap_setCell_same u6 (gI + 1) 5 _ _ (.int .u32 (v6 : Int)) D6.out)
  have HQ6 := Lib.hid ((heap_setCell_other u6 ⟨gI + 1, 5, none⟩ w.heap.size (.int .u32 (v6 : Int)) (by show w.heap.size ≠ gI + 1; omega)).trans Q6.out)
  have HB6 : Hid (Below w.heap.size w (u6.setCell ⟨gI + 1, 5, none⟩ (.int .u32 (v6 : Int)))) := Lib.hid (B6.out.setCell (by show w.heap.size ≤ gI + 1; omega) _)
  generalize u6.setCell ⟨gI + 1, 5, none⟩ (.int .u32 (v6 : Int)) = t6 at *
  clear c6 f6 D6 Q6 B6 I6 HI5 HD5 HQ5 HB5 w6
  clear u6
  have T7 := Lib.hid (infour_any l6 b6 gI t6 HI6.out Y6.out)
  rw [← E7.out] at T7
  refine T7.out.mono ?_
  rintro e u7 ⟨rfl, q1, q2⟩
  have hsz7 : gI + 1 < t6.heap.size := (Array.getElem?_eq_some_iff.1 HD6.out).1
  have D7 := Lib.hid ((q2.block (gI + 1) hsz7 (by simp)).trans HD6.out)
  have Q7 := Lib.hid ((q2.block w.heap.size (by omega) (by simp; omega)).trans HQ6.out)
  have B7 := Lib.hid (HB6.out.trans (q2.below (B := w.heap.size) (by omega) (by intro g hg; simp at hg; omega)))
  have I7 := Lib.hid q1
  clear q1 q2 T7 hsz7
  obtain ⟨ao, n, capx, ha⟩ := I7.out
  have i0 := ha.c0
  have i1 := ha.c1
  have HLN := Lib.hid ha.len
  clear ha
  have f7 := fun j => frozen_of_row u7 (gI + 1) j _ _ D7.out
  have fq := fun j => frozen_of_row u7 w.heap.size j _ _ Q7.out
  have c0 : u7.cell? ⟨gI + 1, 0, none⟩ = some (.int .i64 (v1 : Int)) := cell_of_row u7 (gI + 1) 0 _ _ (0, 0) D7.out
  have r0 : u7.cell? ⟨w.heap.size, 0, none⟩ = some (.int .i64 0) := cell_of_row u7 w.heap.size 0 _ _ (0, 0) Q7.out
  have c1 : u7.cell? ⟨gI + 1, 1, none⟩ = some (.int .i64 (v2 : Int)) := cell_of_row u7 (gI + 1) 1 _ _ (0, 0) D7.out
  have r1 : u7.cell? ⟨w.heap.size, 1, none⟩ = some (.int .i64 0) := cell_of_row u7 w.heap.size 1 _ _ (0, 0) Q7.out
  have c2 : u7.cell? ⟨gI + 1, 2, none⟩ = some (.int .i64 (v3 : Int)) := cell_of_row u7 (gI + 1) 2 _ _ (0, 0) D7.out
  have r2 : u7.cell? ⟨w.heap.size, 2, none⟩ = some (.int .i64 0) := cell_of_row u7 w.heap.size 2 _ _ (0, 0) Q7.out
  have c3 : u7.cell? ⟨gI + 1, 3, none⟩ = some (.int .i64 (v4 : Int)) := cell_of_row u7 (gI + 1) 3 _ _ (0, 0) D7.out
  have r3 : u7.cell? ⟨w.heap.size, 3, none⟩ = some (.int .i64 0) := cell_of_row u7 w.heap.size 3 _ _ (0, 0) Q7.out
  have c4 : u7.cell? ⟨gI + 1, 4, none⟩ = some (.int .i64 (v5 : Int)) := cell_of_row u7 (gI + 1) 4 _ _ (0, 0) D7.out
  have r4 : u7.cell? ⟨w.heap.size, 4, none⟩ = some (.int .i64 0) := cell_of_row u7 w.heap.size 4 _ _ (0, 0) Q7.out
  have c5 : u7.cell? ⟨gI + 1, 5, none⟩ = some (.int .u32 (v6 : Int)) := cell_of_row u7 (gI + 1) 5 _ _ (0, 0) D7.out
  have r5 : u7.cell? ⟨w.heap.size, 5, none⟩ = some (.int .u32 0) := cell_of_row u7 w.heap.size 5 _ _ (0, 0) Q7.out
  have c6 : u7.cell? ⟨gI + 1, 6, none⟩ = some (.int .u32 0) := cell_of_row u7 (gI + 1) 6 _ _ (0, 0) D7.out
  have r6 : u7.cell? ⟨w.heap.size, 6, none⟩ = some (.int .u32 0) := cell_of_row u7 w.heap.size 6 _ _ (0, 0) Q7.out
  have w7 := W7.out
  clear HI6 HD6 HQ6 HB6
  have HQF := Lib.hid ((heap_setCell_other u7 ⟨gI + 1, 6, none⟩ w.heap.size (.int .u32 (v7 : Int)) (by show w.heap.size ≠ gI + 1; omega)).trans Q7.out)
  have HBF : Hid (Below w.heap.size w (u7.setCell ⟨gI + 1, 6, none⟩ (.int .u32 (v7 : Int)))) := Lib.hid (B7.out.setCell (by show w.heap.size ≤ gI + 1; omega) _)
  by_cases hb : b7 = true
  · subst hb
    by_cases hl : l7 = []
    · subst hl
      obtain rfl : 0 = n := HLN.out
      go_wp2_with fail
      clear c0 c1 c2 c3 c4 c5 c6 r0 r1 r2 r3 r4 r5 r6 f7 fq i0 i1
      refine bodyPost_ret_by (v := .tuple #[.agg #[.int .i64 (v1 : Int), .int .i64 (v2 : Int), .int .i64 (v3 : Int), .int .i64 (v4 : Int), .int .i64 (v5 : Int), .int .u32 (v6 : Int), .int .u32 (v7 : Int)], .bool true]) ?_ rfl ⟨?_, dcr_lay_below HBF.out (Nat.le_refl _) _ _ _ _ _ _ _⟩
      · rw [results_cell_tmp rfl]
        simp [asAddr, Result.andThen, dcr_load (by rfl) (dcr_lay HQF.out _ _ _ _ _ _ _)]
      · rw [HOF.out]
        simp [dcr0]
    · have hn : 0 < n := by
        have h8 := HLN.out
        have h9 := List.length_pos_iff.2 hl
        rw [h8] at h9
        exact h9
      have hnn : decide ((0 : Int) < (n : Int)) = true := decide_eq_true (by omega)
      go_wp2_with fail
      clear c0 c1 c2 c3 c4 c5 c6 r0 r1 r2 r3 r4 r5 r6 f7 fq i0 i1
      refine bodyPost_ret_by (v := .tuple #[.agg #[.int .i64 0, .int .i64 0, .int .i64 0, .int .i64 0, .int .i64 0, .int .u32 0, .int .u32 0], .bool false]) ?_ rfl ⟨?_, dcr_lay_below HBF.out (Nat.le_refl _) _ _ _ _ _ _ _⟩
      · rw [results_cell_tmp rfl]
        simp [asAddr, Result.andThen, dcr_load (by rfl) (dcr_lay HQF.out _ _ _ _ _ _ _)]
      · rw [HOF.out]
        simp [dcr0, hl]
  · obtain rfl : b7 = false := by simpa using hb
    go_wp2_with fail
    clear c0 c1 c2 c3 c4 c5 c6 r0 r1 r2 r3 r4 r5 r6 f7 fq i0 i1
    refine bodyPost_ret_by (v := .tuple #[.agg #[.int .i64 0, .int .i64 0, .int .i64 0, .int .i64 0, .int .i64 0, .int .u32 0, .int .u32 0], .bool false]) ?_ rfl ⟨?_, dcr_lay_below HBF.out (Nat.le_refl _) _ _ _ _ _ _ _⟩
    · rw [results_cell_tmp rfl]
      simp [asAddr, Result.andThen, dcr_load (by rfl) (dcr_lay HQF.out _ _ _ _ _ _ _)]
    · rw [HOF.out]
      simp [dcr0]
end Go.Proofs.YtgifnhmnohojeaaGreatDoor
