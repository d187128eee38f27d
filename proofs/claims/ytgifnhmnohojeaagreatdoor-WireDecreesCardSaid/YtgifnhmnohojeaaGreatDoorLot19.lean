/- WireDecrees: the walk. WireDecrees: the walk, its other three ways (gen_decw.py). Arguments: a decree, a string, a slice of bytes; the variables' cells, out of what the card lays. -/
import Derived.Test.YtgifnhmnohojeaaGreatDoorLot18
import Derived.Test.YtgifnhmnohojeaaGreatDoorLot13
import Derived.Test.YtgifnhmnohojeaaGreatDoorLot14
import Derived.Test.YtgifnhmnohojeaaGreatDoorLot9
import Derived.SizedLaws
import Derived.Lib.LaidTab
import Derived.LaidMore
import Derived.LaidSub
import Derived.LaidHandle
import Derived.LaidLaws
import Derived.MakeChecks
import Derived.Deep.Slices
import Derived.Deep.SlicePairs
import Derived.ChangeArms

namespace Go.Proofs.YtgifnhmnohojeaaGreatDoor
open Go.RowKit
set_option linter.unusedVariables false

/-- a decree's block -/
def DcrRow (w : World) (g : Nat) (d : Dcr) : Prop := w.heap[g]? = some (.cells (dcrCells d).toArray 79 (0, 0))
theorem DcrRow.seven {w : World} {g : Nat} {d : Dcr} (h : DcrRow w g d) : w.cell? ⟨g, 0, none⟩ = some (.int .i64 d.kind) ∧ w.cell? ⟨g, 1, none⟩ = some (.int .i64 d.node) ∧ w.cell? ⟨g, 2, none⟩ = some (.int .i64 d.by_) ∧ w.cell? ⟨g, 3, none⟩ = some (.int .i64 d.arc.size0) ∧ w.cell? ⟨g, 4, none⟩ = some (.int .i64 d.arc.size) ∧ w.cell? ⟨g, 5, none⟩ = some (.int .u32 (d.count : Int)) ∧ w.cell? ⟨g, 6, none⟩ = some (.int .u32 (d.seen : Int)) :=
  ⟨cell_of_row w g 0 _ _ (0, 0) h, cell_of_row w g 1 _ _ (0, 0) h, cell_of_row w g 2 _ _ (0, 0) h, cell_of_row w g 3 _ _ (0, 0) h, cell_of_row w g 4 _ _ (0, 0) h, cell_of_row w g 5 _ _ (0, 0) h, cell_of_row w g 6 _ _ (0, 0) h⟩
theorem DcrRow.below {w w' : World} {g : Nat} {d : Dcr} (h : DcrRow w g d) (b : Below w.heap.size w w') : DcrRow w' g d := (b.block g (Array.getElem?_eq_some_iff.1 h).1).trans h
theorem decdec_any (s : ByteArray) (hs : s.size ≤ 140737488355328) (w : World) (hE : ErrT w) : Calls Tryz.prog 18 #[.string s] w (DecDec w (ofDcr s)) := by
  by_cases h : s.size = 13
  · exact decdec_long s h w hE
  · exact decdec_short s h (by omega) w

theorem decdec_none (s : ByteArray) (hs : s.size ≤ 140737488355328) (hn : ofDcr s = none) (w : World) (hE : ErrT w) : Calls Tryz.prog 18 #[.string s] w fun e w' => e = .returned (.tuple #[.agg #[.int .i64 0, .int .i64 0, .int .i64 0, .int .i64 0, .int .i64 0, .int .u32 0, .int .u32 0], .int .i64 44]) ∧ Below w.heap.size w w' := by
  have h := decdec_any s hs w hE
  rw [hn] at h
  exact h
theorem decdec_some (s : ByteArray) (hs : s.size ≤ 140737488355328) (y : Dcr) (hn : ofDcr s = some y) (w : World) (hE : ErrT w) : Calls Tryz.prog 18 #[.string s] w fun e w' => e = .returned (.tuple #[.agg #[.int .i64 y.kind, .int .i64 y.node, .int .i64 y.by_, .int .i64 y.arc.size0, .int .i64 y.arc.size, .int .u32 (y.count : Int), .int .u32 (y.seen : Int)], .int .i64 0]) ∧ Below w.heap.size w w' := by
  have h := decdec_any s hs w hE
  rw [hn] at h
  exact h
theorem refof_none (s : ByteArray) (hs : s.size ≤ 140737488355328) (hn : ofDcr s = none) (w : World) : Calls Tryz.prog 20 #[.string s] w fun e w' => e = .returned (.tuple #[.agg #[.int .i64 0, .int .i64 0, .int .i64 0, .int .i64 0, .int .i64 0, .int .u32 0, .int .u32 0], .bool false]) ∧ Below w.heap.size w w' := by
  have h := refof_any s hs w
  rw [hn] at h
  exact h
theorem refof_some (s : ByteArray) (hs : s.size ≤ 140737488355328) (y : Dcr) (hn : ofDcr s = some y) (w : World) : Calls Tryz.prog 20 #[.string s] w fun e w' => e = .returned (.tuple #[.agg #[.int .i64 y.kind, .int .i64 y.node, .int .i64 y.by_, .int .i64 y.arc.size0, .int .i64 y.arc.size, .int .u32 (y.count : Int), .int .u32 (y.seen : Int)], .bool true]) ∧ Below w.heap.size w w' := by
  have h := refof_any s hs w
  rw [hn] at h
  exact h
theorem refdec_yes (d : Dcr) (hd : DcrOk d) (hok : dcrC.ok d = true) (w : World) :
    Calls Tryz.prog 19 #[.agg #[.int .i64 d.kind, .int .i64 d.node, .int .i64 d.by_, .int .i64 d.arc.size0, .int .i64 d.arc.size, .int .u32 (d.count : Int), .int .u32 (d.seen : Int)]] w fun e w' => e = .returned (.tuple #[.string (ofBs (dcrC.enc d)), .bool true]) ∧ Below w.heap.size w w' := by
  have h := refdecree_any d hd w
  rw [hok, dcrOut_enc hok] at h
  exact h

set_option maxRecDepth 100000 in
set_option maxHeartbeats 8000000 in
theorem decrees_yes_none (d : Dcr) (hd : DcrOk d) (hok : dcrC.ok d = true) (s : ByteArray) (hs : s.size ≤ 140737488355328) (hn : ofDcr s = none) (w : World) (hE : ErrT w) (hT : Tab w) :
    Calls Tryz.prog 7 #[.agg #[.int .i64 d.kind, .int .i64 d.node, .int .i64 d.by_, .int .i64 d.arc.size0, .int .i64 d.arc.size, .int .u32 (d.count : Int), .int .u32 (d.seen : Int)], .string s] w fun e w' => e = .returned (.bool true) ∧ Below w.heap.size w w' := by
  have hrow : DcrRow (w.alloc (.cells #[.int .i64 d.kind, .int .i64 d.node, .int .i64 d.by_, .int .i64 d.arc.size0, .int .i64 d.arc.size, .int .u32 (d.count : Int), .int .u32 (d.seen : Int)] 79)) w.heap.size d := heap_alloc_new w _
  have hb := below_alloc (Below.refl w.heap.size w) (.cells #[.int .i64 d.kind, .int .i64 d.node, .int .i64 d.by_, .int .i64 d.arc.size0, .int .i64 d.arc.size, .int .u32 (d.count : Int), .int .u32 (d.seen : Int)] 79)
  have HE := Lib.hid (hE.below hb)
  have HT := Lib.hid (hT.below hb)
  have HD := Lib.hid hd
  have HOK := Lib.hid hok
  have HN := Lib.hid hn
  have HS := Lib.hid hs
  have HR0 := Lib.hid hrow
  have HB0 := Lib.hid hb
  clear hE hT hd hok hn hs hrow hb
  go_enter Tryz.func7, Tryz.ntmps7
  go_wp2_with fail
  generalize w.alloc _ = w0 at *
  refine (awake_any w0 HE.out HT.out).mono ?_
  rintro e w1 ⟨rfl, b1⟩
  have HR1 := Lib.hid (HR0.out.below b1)
  have HB1 := Lib.hid (HB0.out.trans (b1.mono HB0.out.size))
  have HE1 := Lib.hid (HE.out.below b1)
  clear b1
  obtain ⟨k0, k1, k2, k3, k4, k5, k6⟩ := HR1.out.seven
  go_wp2_with fail
  refine (encdecree_yes d HD.out HOK.out w1).mono ?_
  rintro e w2 ⟨rfl, b2⟩
  have HR2 := Lib.hid (HR1.out.below b2)
  have HB2 := Lib.hid (HB1.out.trans (b2.mono HB1.out.size))
  have HE2 := Lib.hid (HE1.out.below b2)
  clear b2 k0 k1 k2 k3 k4 k5 k6
  go_wp2_with fail
  refine (decdec_none s HS.out HN.out w2 HE2.out).mono ?_
  rintro e w3 ⟨rfl, b3⟩
  have HE3 := Lib.hid (HE2.out.below b3)
  have HR3 := Lib.hid (HR2.out.below b3)
  have HB3 := Lib.hid (HB2.out.trans (b3.mono HB2.out.size))
  clear b3
  obtain ⟨k0, k1, k2, k3, k4, k5, k6⟩ := HR3.out.seven
  have hlt : w.heap.size < w3.heap.size := (Array.getElem?_eq_some_iff.1 HR3.out).1
  go_wp2_with fail
  have hb4 := below_alloc (Below.refl w3.heap.size w3) (.cells #[.int .i64 0, .int .i64 0, .int .i64 0, .int .i64 0, .int .i64 0, .int .u32 0, .int .u32 0] 79)
  have hy4 : DcrRow (w3.alloc (.cells #[.int .i64 0, .int .i64 0, .int .i64 0, .int .i64 0, .int .i64 0, .int .u32 0, .int .u32 0] 79)) w3.heap.size dcr0 := heap_alloc_new w3 _
  generalize w3.alloc _ = w4 at *
  have HE4 := Lib.hid (HE3.out.below hb4)
  have HR4 := Lib.hid (HR3.out.below hb4)
  have HY4 := Lib.hid hy4
  have HB4 := Lib.hid (HB3.out.trans (hb4.mono HB3.out.size))
  clear hb4 hy4 k0 k1 k2 k3 k4 k5 k6
  generalize w3.heap.size = gy at *
  clear hlt
  refine (refdec_yes d HD.out HOK.out w4).mono ?_
  rintro e w5 ⟨rfl, b5⟩
  have HE5 := Lib.hid (HE4.out.below b5)
  have HR5 := Lib.hid (HR4.out.below b5)
  have HY5 := Lib.hid (HY4.out.below b5)
  have HB5 := Lib.hid (HB4.out.trans (b5.mono HB4.out.size))
  clear b5
  go_wp2_with fail
  refine (refof_none s HS.out HN.out w5).mono ?_
  rintro e w6 ⟨rfl, b6⟩
  have HE6 := Lib.hid (HE5.out.below b6)
  have HR6 := Lib.hid (HR5.out.below b6)
  have HY6 := Lib.hid (HY5.out.below b6)
  have HB6 := Lib.hid (HB5.out.trans (b6.mono HB5.out.size))
  have hgy : gy < w6.heap.size := (Array.getElem?_eq_some_iff.1 HY6.out).1
  clear b6
  obtain ⟨k0, k1, k2, k3, k4, k5, k6⟩ := HY6.out.seven
  have HBK := Lib.hid (ofDcr_to HOK.out)
  have HSZ : Hid ((ofBs (dcrC.enc d)).size ≤ 140737488355328) := Lib.hid (by rw [ofBs_size, dcr_len]; omega)
  go_wp2_with fail
  have hb7 := below_alloc (Below.refl w6.heap.size w6) (.cells #[.int .i64 0, .int .i64 0, .int .i64 0, .int .i64 0, .int .i64 0, .int .u32 0, .int .u32 0] 79)
  clear k0 k1 k2 k3 k4 k5 k6 hgy
  generalize w6.alloc _ = w7 at *
  have HE7 := Lib.hid (HE6.out.below hb7)
  have HR7 := Lib.hid (HR6.out.below hb7)
  have HB7 := Lib.hid (HB6.out.trans (hb7.mono HB6.out.size))
  clear hb7
  refine (decdec_some _ HSZ.out d HBK.out w7 HE7.out).mono ?_
  rintro e w8 ⟨rfl, b8⟩
  have HR8 := Lib.hid (HR7.out.below b8)
  have HB8 := Lib.hid (HB7.out.trans (b8.mono HB7.out.size))
  have hlt : w.heap.size < w8.heap.size := (Array.getElem?_eq_some_iff.1 HR8.out).1
  clear b8
  obtain ⟨k0, k1, k2, k3, k4, k5, k6⟩ := HR8.out.seven
  go_wp2_with fail
  go_ret
  exact ⟨rfl, below_alloc HB8.out _⟩
end Go.Proofs.YtgifnhmnohojeaaGreatDoor


namespace Go.Proofs.YtgifnhmnohojeaaGreatDoor
open Go.RowKit
set_option linter.unusedVariables false

theorem dcrok_of {d : Dcr} (h : dcrC.ok d = true) : DcrOk d := by
  rw [← dcrFit_ok] at h
  simp only [dcrFit, Bool.true_and, Bool.and_eq_true, whole_ok, decide_eq_true_eq] at h
  unfold DcrOk I64
  omega
theorem refdec_no (d : Dcr) (hd : DcrOk d) (hok : dcrC.ok d = false) (w : World) :
    Calls Tryz.prog 19 #[.agg #[.int .i64 d.kind, .int .i64 d.node, .int .i64 d.by_, .int .i64 d.arc.size0, .int .i64 d.arc.size, .int .u32 (d.count : Int), .int .u32 (d.seen : Int)]] w fun e w' => (∃ z, e = .returned (.tuple #[.string z, .bool false])) ∧ Below w.heap.size w w' := by
  have h := refdecree_any d hd w
  rw [hok] at h
  exact h.mono fun e w' ⟨h1, h2⟩ => ⟨⟨_, h1⟩, h2⟩

set_option maxRecDepth 100000 in
set_option maxHeartbeats 8000000 in
theorem decrees_yes_some (d : Dcr) (hd : DcrOk d) (hok : dcrC.ok d = true) (s : ByteArray) (hs : s.size ≤ 140737488355328) (y : Dcr) (hn : ofDcr s = some y) (w : World) (hE : ErrT w) (hT : Tab w) :
    Calls Tryz.prog 7 #[.agg #[.int .i64 d.kind, .int .i64 d.node, .int .i64 d.by_, .int .i64 d.arc.size0, .int .i64 d.arc.size, .int .u32 (d.count : Int), .int .u32 (d.seen : Int)], .string s] w fun e w' => e = .returned (.bool true) ∧ Below w.heap.size w w' := by
  have hrow : DcrRow (w.alloc (.cells #[.int .i64 d.kind, .int .i64 d.node, .int .i64 d.by_, .int .i64 d.arc.size0, .int .i64 d.arc.size, .int .u32 (d.count : Int), .int .u32 (d.seen : Int)] 79)) w.heap.size d := heap_alloc_new w _
  have hb := below_alloc (Below.refl w.heap.size w) (.cells #[.int .i64 d.kind, .int .i64 d.node, .int .i64 d.by_, .int .i64 d.arc.size0, .int .i64 d.arc.size, .int .u32 (d.count : Int), .int .u32 (d.seen : Int)] 79)
  have HE := Lib.hid (hE.below hb)
  have HT := Lib.hid (hT.below hb)
  have HD := Lib.hid hd
  have HOK := Lib.hid hok
  have HN := Lib.hid hn
  have HS := Lib.hid hs
  have HR0 := Lib.hid hrow
  have HB0 := Lib.hid hb
  clear hE hT hd hok hn hs hrow hb
  go_enter Tryz.func7, Tryz.ntmps7
  go_wp2_with fail
  generalize w.alloc _ = w0 at *
  refine (awake_any w0 HE.out HT.out).mono ?_
  rintro e w1 ⟨rfl, b1⟩
  have HR1 := Lib.hid (HR0.out.below b1)
  have HB1 := Lib.hid (HB0.out.trans (b1.mono HB0.out.size))
  have HE1 := Lib.hid (HE.out.below b1)
  clear b1
  obtain ⟨k0, k1, k2, k3, k4, k5, k6⟩ := HR1.out.seven
  go_wp2_with fail
  refine (encdecree_yes d HD.out HOK.out w1).mono ?_
  rintro e w2 ⟨rfl, b2⟩
  have HR2 := Lib.hid (HR1.out.below b2)
  have HB2 := Lib.hid (HB1.out.trans (b2.mono HB1.out.size))
  have HE2 := Lib.hid (HE1.out.below b2)
  clear b2 k0 k1 k2 k3 k4 k5 k6
  go_wp2_with fail
  refine (decdec_some s HS.out y HN.out w2 HE2.out).mono ?_
  rintro e w3 ⟨rfl, b3⟩
  have HE3 := Lib.hid (HE2.out.below b3)
  have HR3 := Lib.hid (HR2.out.below b3)
  have HB3 := Lib.hid (HB2.out.trans (b3.mono HB2.out.size))
  clear b3
  obtain ⟨k0, k1, k2, k3, k4, k5, k6⟩ := HR3.out.seven
  have hlt : w.heap.size < w3.heap.size := (Array.getElem?_eq_some_iff.1 HR3.out).1
  go_wp2_with fail
  have hb4 := below_alloc (Below.refl w3.heap.size w3) (.cells #[.int .i64 y.kind, .int .i64 y.node, .int .i64 y.by_, .int .i64 y.arc.size0, .int .i64 y.arc.size, .int .u32 (y.count : Int), .int .u32 (y.seen : Int)] 79)
  have hy4 : DcrRow (w3.alloc (.cells #[.int .i64 y.kind, .int .i64 y.node, .int .i64 y.by_, .int .i64 y.arc.size0, .int .i64 y.arc.size, .int .u32 (y.count : Int), .int .u32 (y.seen : Int)] 79)) w3.heap.size y := heap_alloc_new w3 _
  generalize w3.alloc _ = w4 at *
  have HE4 := Lib.hid (HE3.out.below hb4)
  have HR4 := Lib.hid (HR3.out.below hb4)
  have HY4 := Lib.hid hy4
  have HB4 := Lib.hid (HB3.out.trans (hb4.mono HB3.out.size))
  clear hb4 hy4 k0 k1 k2 k3 k4 k5 k6
  generalize w3.heap.size = gy at *
  clear hlt
  refine (refdec_yes d HD.out HOK.out w4).mono ?_
  rintro e w5 ⟨rfl, b5⟩
  have HE5 := Lib.hid (HE4.out.below b5)
  have HR5 := Lib.hid (HR4.out.below b5)
  have HY5 := Lib.hid (HY4.out.below b5)
  have HB5 := Lib.hid (HB4.out.trans (b5.mono HB4.out.size))
  clear b5
  go_wp2_with fail
  refine (refof_some s HS.out y HN.out w5).mono ?_
  rintro e w6 ⟨rfl, b6⟩
  have HE6 := Lib.hid (HE5.out.below b6)
  have HR6 := Lib.hid (HR5.out.below b6)
  have HY6 := Lib.hid (HY5.out.below b6)
  have HB6 := Lib.hid (HB5.out.trans (b6.mono HB5.out.size))
  have hgy : gy < w6.heap.size := (Array.getElem?_eq_some_iff.1 HY6.out).1
  clear b6
  obtain ⟨k0, k1, k2, k3, k4, k5, k6⟩ := HY6.out.seven
  have HBK := Lib.hid (ofDcr_to HOK.out)
  have HSZ : Hid ((ofBs (dcrC.enc d)).size ≤ 140737488355328) := Lib.hid (by rw [ofBs_size, dcr_len]; omega)
  go_wp2_with fail
  have hb7 := below_alloc (Below.refl w6.heap.size w6) (.cells #[.int .i64 y.kind, .int .i64 y.node, .int .i64 y.by_, .int .i64 y.arc.size0, .int .i64 y.arc.size, .int .u32 (y.count : Int), .int .u32 (y.seen : Int)] 79)
  clear k0 k1 k2 k3 k4 k5 k6 hgy
  generalize w6.alloc _ = w7 at *
  have HE7 := Lib.hid (HE6.out.below hb7)
  have HR7 := Lib.hid (HR6.out.below hb7)
  have HY7 := Lib.hid (HY6.out.below hb7)
  have HB7 := Lib.hid (HB6.out.trans (hb7.mono HB6.out.size))
  clear hb7
  refine (decdec_some _ HSZ.out d HBK.out w7 HE7.out).mono ?_
  rintro e w8 ⟨rfl, b8⟩
  have HR8 := Lib.hid (HR7.out.below b8)
  have HY8 := Lib.hid (HY7.out.below b8)
  have HE8 := Lib.hid (HE7.out.below b8)
  have hgy8 : gy < w8.heap.size := (Array.getElem?_eq_some_iff.1 HY8.out).1
  obtain ⟨m0, m1, m2, m3, m4, m5, m6⟩ := HY8.out.seven
  have HB8 := Lib.hid (HB7.out.trans (b8.mono HB7.out.size))
  have hlt : w.heap.size < w8.heap.size := (Array.getElem?_eq_some_iff.1 HR8.out).1
  clear b8
  obtain ⟨k0, k1, k2, k3, k4, k5, k6⟩ := HR8.out.seven
  go_wp2_with fail
  have hb9 := below_alloc (Below.refl w8.heap.size w8) (.cells #[.int .i64 d.kind, .int .i64 d.node, .int .i64 d.by_, .int .i64 d.arc.size0, .int .i64 d.arc.size, .int .u32 (d.count : Int), .int .u32 (d.seen : Int)] 79)
  clear k0 k1 k2 k3 k4 k5 k6 m0 m1 m2 m3 m4 m5 m6 hgy8 hlt
  generalize w8.alloc _ = w9 at *
  obtain ⟨o1, o2⟩ := ofDcr_of HN.out
  refine (encdecree_yes y (dcrok_of o1) o1 w9).mono ?_
  rintro e w10 ⟨rfl, b10⟩
  have HB10 := Lib.hid (HB8.out.trans ((hb9.mono HB8.out.size).trans (b10.mono (Nat.le_trans HB8.out.size hb9.size))))
  rw [o2]
  clear b10 hb9 o1 o2
  go_wp2_with fail
  go_ret
  exact ⟨rfl, HB10.out⟩

set_option maxRecDepth 100000 in
set_option maxHeartbeats 8000000 in
theorem decrees_no_none (d : Dcr) (hd : DcrOk d) (hok : dcrC.ok d = false) (s : ByteArray) (hs : s.size ≤ 140737488355328) (hn : ofDcr s = none) (w : World) (hE : ErrT w) (hT : Tab w) :
    Calls Tryz.prog 7 #[.agg #[.int .i64 d.kind, .int .i64 d.node, .int .i64 d.by_, .int .i64 d.arc.size0, .int .i64 d.arc.size, .int .u32 (d.count : Int), .int .u32 (d.seen : Int)], .string s] w fun e w' => e = .returned (.bool true) ∧ Below w.heap.size w w' := by
  have hrow : DcrRow (w.alloc (.cells #[.int .i64 d.kind, .int .i64 d.node, .int .i64 d.by_, .int .i64 d.arc.size0, .int .i64 d.arc.size, .int .u32 (d.count : Int), .int .u32 (d.seen : Int)] 79)) w.heap.size d := heap_alloc_new w _
  have hb := below_alloc (Below.refl w.heap.size w) (.cells #[.int .i64 d.kind, .int .i64 d.node, .int .i64 d.by_, .int .i64 d.arc.size0, .int .i64 d.arc.size, .int .u32 (d.count : Int), .int .u32 (d.seen : Int)] 79)
  have HE := Lib.hid (hE.below hb)
  have HT := Lib.hid (hT.below hb)
  have HD := Lib.hid hd
  have HOK := Lib.hid hok
  have HN := Lib.hid hn
  have HS := Lib.hid hs
  have HR0 := Lib.hid hrow
  have HB0 := Lib.hid hb
  clear hE hT hd hok hn hs hrow hb
  go_enter Tryz.func7, Tryz.ntmps7
  go_wp2_with fail
  generalize w.alloc _ = w0 at *
  refine (awake_any w0 HE.out HT.out).mono ?_
  rintro e w1 ⟨rfl, b1⟩
  have HR1 := Lib.hid (HR0.out.below b1)
  have HB1 := Lib.hid (HB0.out.trans (b1.mono HB0.out.size))
  have HE1 := Lib.hid (HE.out.below b1)
  clear b1
  obtain ⟨k0, k1, k2, k3, k4, k5, k6⟩ := HR1.out.seven
  go_wp2_with fail
  refine (encdecree_no d HD.out HOK.out w1 HE1.out).mono ?_
  rintro e w2 ⟨rfl, b2⟩
  have HR2 := Lib.hid (HR1.out.below b2)
  have HB2 := Lib.hid (HB1.out.trans (b2.mono HB1.out.size))
  have HE2 := Lib.hid (HE1.out.below b2)
  clear b2 k0 k1 k2 k3 k4 k5 k6
  go_wp2_with fail
  refine (decdec_none s HS.out HN.out w2 HE2.out).mono ?_
  rintro e w3 ⟨rfl, b3⟩
  have HE3 := Lib.hid (HE2.out.below b3)
  have HR3 := Lib.hid (HR2.out.below b3)
  have HB3 := Lib.hid (HB2.out.trans (b3.mono HB2.out.size))
  clear b3
  obtain ⟨k0, k1, k2, k3, k4, k5, k6⟩ := HR3.out.seven
  have hlt : w.heap.size < w3.heap.size := (Array.getElem?_eq_some_iff.1 HR3.out).1
  go_wp2_with fail
  have hb4 := below_alloc (Below.refl w3.heap.size w3) (.cells #[.int .i64 0, .int .i64 0, .int .i64 0, .int .i64 0, .int .i64 0, .int .u32 0, .int .u32 0] 79)
  have hy4 : DcrRow (w3.alloc (.cells #[.int .i64 0, .int .i64 0, .int .i64 0, .int .i64 0, .int .i64 0, .int .u32 0, .int .u32 0] 79)) w3.heap.size dcr0 := heap_alloc_new w3 _
  generalize w3.alloc _ = w4 at *
  have HE4 := Lib.hid (HE3.out.below hb4)
  have HR4 := Lib.hid (HR3.out.below hb4)
  have HY4 := Lib.hid hy4
  have HB4 := Lib.hid (HB3.out.trans (hb4.mono HB3.out.size))
  clear hb4 hy4 k0 k1 k2 k3 k4 k5 k6
  generalize w3.heap.size = gy at *
  clear hlt
  refine (refdec_no d HD.out HOK.out w4).mono ?_
  rintro e w5 ⟨⟨z, rfl⟩, b5⟩
  have HE5 := Lib.hid (HE4.out.below b5)
  have HR5 := Lib.hid (HR4.out.below b5)
  have HY5 := Lib.hid (HY4.out.below b5)
  have HB5 := Lib.hid (HB4.out.trans (b5.mono HB4.out.size))
  clear b5
  go_wp2_with fail
  refine (refof_none s HS.out HN.out w5).mono ?_
  rintro e w6 ⟨rfl, b6⟩
  have HE6 := Lib.hid (HE5.out.below b6)
  have HR6 := Lib.hid (HR5.out.below b6)
  have HY6 := Lib.hid (HY5.out.below b6)
  have HB6 := Lib.hid (HB5.out.trans (b6.mono HB5.out.size))
  have hgy : gy < w6.heap.size := (Array.getElem?_eq_some_iff.1 HY6.out).1
  clear b6
  obtain ⟨k0, k1, k2, k3, k4, k5, k6⟩ := HY6.out.seven
  go_wp2_with fail
  go_ret
  exact ⟨rfl, below_alloc HB6.out _⟩

set_option maxRecDepth 100000 in
set_option maxHeartbeats 8000000 in
theorem decrees_no_some (d : Dcr) (hd : DcrOk d) (hok : dcrC.ok d = false) (s : ByteArray) (hs : s.size ≤ 140737488355328) (y : Dcr) (hn : ofDcr s = some y) (w : World) (hE : ErrT w) (hT : Tab w) :
    Calls Tryz.prog 7 #[.agg #[.int .i64 d.kind, .int .i64 d.node, .int .i64 d.by_, .int .i64 d.arc.size0, .int .i64 d.arc.size, .int .u32 (d.count : Int), .int .u32 (d.seen : Int)], .string s] w fun e w' => e = .returned (.bool true) ∧ Below w.heap.size w w' := by
  have hrow : DcrRow (w.alloc (.cells #[.int .i64 d.kind, .int .i64 d.node, .int .i64 d.by_, .int .i64 d.arc.size0, .int .i64 d.arc.size, .int .u32 (d.count : Int), .int .u32 (d.seen : Int)] 79)) w.heap.size d := heap_alloc_new w _
  have hb := below_alloc (Below.refl w.heap.size w) (.cells #[.int .i64 d.kind, .int .i64 d.node, .int .i64 d.by_, .int .i64 d.arc.size0, .int .i64 d.arc.size, .int .u32 (d.count : Int), .int .u32 (d.seen : Int)] 79)
  have HE := Lib.hid (hE.below hb)
  have HT := Lib.hid (hT.below hb)
  have HD := Lib.hid hd
  have HOK := Lib.hid hok
  have HN := Lib.hid hn
  have HS := Lib.hid hs
  have HR0 := Lib.hid hrow
  have HB0 := Lib.hid hb
  clear hE hT hd hok hn hs hrow hb
  go_enter Tryz.func7, Tryz.ntmps7
  go_wp2_with fail
  generalize w.alloc _ = w0 at *
  refine (awake_any w0 HE.out HT.out).mono ?_
  rintro e w1 ⟨rfl, b1⟩
  have HR1 := Lib.hid (HR0.out.below b1)
  have HB1 := Lib.hid (HB0.out.trans (b1.mono HB0.out.size))
  have HE1 := Lib.hid (HE.out.below b1)
  clear b1
  obtain ⟨k0, k1, k2, k3, k4, k5, k6⟩ := HR1.out.seven
  go_wp2_with fail
  refine (encdecree_no d HD.out HOK.out w1 HE1.out).mono ?_
  rintro e w2 ⟨rfl, b2⟩
  have HR2 := Lib.hid (HR1.out.below b2)
  have HB2 := Lib.hid (HB1.out.trans (b2.mono HB1.out.size))
  have HE2 := Lib.hid (HE1.out.below b2)
  clear b2 k0 k1 k2 k3 k4 k5 k6
  go_wp2_with fail
  refine (decdec_some s HS.out y HN.out w2 HE2.out).mono ?_
  rintro e w3 ⟨rfl, b3⟩
  have HE3 := Lib.hid (HE2.out.below b3)
  have HR3 := Lib.hid (HR2.out.below b3)
  have HB3 := Lib.hid (HB2.out.trans (b3.mono HB2.out.size))
  clear b3
  obtain ⟨k0, k1, k2, k3, k4, k5, k6⟩ := HR3.out.seven
  have hlt : w.heap.size < w3.heap.size := (Array.getElem?_eq_some_iff.1 HR3.out).1
  go_wp2_with fail
  have hb4 := below_alloc (Below.refl w3.heap.size w3) (.cells #[.int .i64 y.kind, .int .i64 y.node, .int .i64 y.by_, .int .i64 y.arc.size0, .int .i64 y.arc.size, .int .u32 (y.count : Int), .int .u32 (y.seen : Int)] 79)
  have hy4 : DcrRow (w3.alloc (.cells #[.int .i64 y.kind, .int .i64 y.node, .int .i64 y.by_, .int .i64 y.arc.size0, .int .i64 y.arc.size, .int .u32 (y.count : Int), .int .u32 (y.seen : Int)] 79)) w3.heap.size y := heap_alloc_new w3 _
  generalize w3.alloc _ = w4 at *
  have HE4 := Lib.hid (HE3.out.below hb4)
  have HR4 := Lib.hid (HR3.out.below hb4)
  have HY4 := Lib.hid hy4
  have HB4 := Lib.hid (HB3.out.trans (hb4.mono HB3.out.size))
  clear hb4 hy4 k0 k1 k2 k3 k4 k5 k6
  generalize w3.heap.size = gy at *
  clear hlt
  refine (refdec_no d HD.out HOK.out w4).mono ?_
  rintro e w5 ⟨⟨z, rfl⟩, b5⟩
  have HE5 := Lib.hid (HE4.out.below b5)
  have HR5 := Lib.hid (HR4.out.below b5)
  have HY5 := Lib.hid (HY4.out.below b5)
  have HB5 := Lib.hid (HB4.out.trans (b5.mono HB4.out.size))
  clear b5
  go_wp2_with fail
  refine (refof_some s HS.out y HN.out w5).mono ?_
  rintro e w6 ⟨rfl, b6⟩
  have HE6 := Lib.hid (HE5.out.below b6)
  have HR6 := Lib.hid (HR5.out.below b6)
  have HY6 := Lib.hid (HY5.out.below b6)
  have HB6 := Lib.hid (HB5.out.trans (b6.mono HB5.out.size))
  have hgy : gy < w6.heap.size := (Array.getElem?_eq_some_iff.1 HY6.out).1
  clear b6
  obtain ⟨k0, k1, k2, k3, k4, k5, k6⟩ := HY6.out.seven
  go_wp2_with fail
  have hb9 := below_alloc (Below.refl w6.heap.size w6) (.cells #[.int .i64 y.kind, .int .i64 y.node, .int .i64 y.by_, .int .i64 y.arc.size0, .int .i64 y.arc.size, .int .u32 (y.count : Int), .int .u32 (y.seen : Int)] 79)
  clear k0 k1 k2 k3 k4 k5 k6 hgy
  generalize w6.alloc _ = w9 at *
  obtain ⟨o1, o2⟩ := ofDcr_of HN.out
  refine (encdecree_yes y (dcrok_of o1) o1 w9).mono ?_
  rintro e w10 ⟨rfl, b10⟩
  have HB10 := Lib.hid (HB6.out.trans ((hb9.mono HB6.out.size).trans (b10.mono (Nat.le_trans HB6.out.size hb9.size))))
  rw [o2]
  clear b10 hb9 o1 o2
  go_wp2_with fail
  go_ret
  exact ⟨rfl, HB10.out⟩

theorem decrees_law (d : Dcr) (hd : DcrOk d) (s : ByteArray) (hs : s.size ≤ 140737488355328) (w : World) (hE : ErrT w) (hT : Tab w) :
    Calls Tryz.prog 7 #[.agg #[.int .i64 d.kind, .int .i64 d.node, .int .i64 d.by_, .int .i64 d.arc.size0, .int .i64 d.arc.size, .int .u32 (d.count : Int), .int .u32 (d.seen : Int)], .string s] w fun e w' => e = .returned (.bool true) ∧ Below w.heap.size w w' := by
  cases hok : dcrC.ok d
  · cases hn : ofDcr s with
    | none => exact decrees_no_none d hd hok s hs hn w hE hT
    | some y => exact decrees_no_some d hd hok s hs y hn w hE hT
  · cases hn : ofDcr s with
    | none => exact decrees_yes_none d hd hok s hs hn w hE hT
    | some y => exact decrees_yes_some d hd hok s hs y hn w hE hT
end Go.Proofs.YtgifnhmnohojeaaGreatDoor


namespace Go.Proofs.YtgifnhmnohojeaaGreatDoor
open Go.ChangeShapes Go.WideShapes Go.ChangeAt Go.RowKit
set_option linter.unusedVariables false

theorem laid_named : Tryz.prog.globalNamed "errors.errorType" = some 0 := by kernel_rfl
theorem laid_rtype : (Tryz.prog.cutTypes.find? (·.1 == "internal/reflectlite.rtype")).map (·.2) = some 225 := by kernel_rfl
theorem laid_one : ((List.range 302).filter fun t => Tryz.prog.rowNamed t [101, 114, 114, 111, 114]) = [56] := by kernel_rfl
theorem laid_size : Tryz.prog.types.size = 302 := by kernel_rfl
abbrev laidArgs : List (String × DataW Unit) := [("errors.errorType", Rows.laid_errors_errorType), ("tontine/frame.remainders", Rows.laid_tontine_frame_remainders)]
theorem laid_none : (laidArgs.filter fun x => x.2.handleName?.isNone) = [("tontine/frame.remainders", Rows.laid_tontine_frame_remainders)] := by kernel_rfl
theorem laid_some : (laidArgs.filter fun x => x.2.handleName?.isSome) = [("errors.errorType", Rows.laid_errors_errorType)] := by kernel_rfl
/-- what the card gives a walk: the variable's one cell -/
theorem errt_of_laid {W : World} (h : laidMetH Tryz.prog laidArgs W) : ErrT W := by
  have h' := (laidMetH_iff.1 h).2
  rw [laid_some] at h'
  obtain ⟨name, u, ty, e1, e2, e3, e4, e5⟩ := h' _ (List.mem_singleton.2 rfl)
  have en : name = [101, 114, 114, 111, 114] := (Option.some.inj e1).symm
  subst en
  obtain rfl := Option.some.inj (laid_rtype.symm.trans e2)
  have hm : ty ∈ (List.range 302).filter fun t => Tryz.prog.rowNamed t [101, 114, 114, 111, 114] := List.mem_filter.2 ⟨List.mem_range.2 (by rw [← laid_size]; exact e3), e4⟩
  rw [laid_one] at hm
  obtain rfl := List.mem_singleton.1 hm
  have hh : typeHandle Tryz.prog 56 = .pointer (some ⟨2, 56, none⟩) := by kernel_rfl
  rw [hh] at e5
  have h8 := World.var?_cell laid_named e5 0
  unfold ErrT
  first
    | exact h8
    | exact h8.trans (by kernel_rfl)
theorem table_name : Tryz.prog.globalNamed "tontine/frame.remainders" = some 1 := by kernel_rfl
theorem table_type : (Tryz.prog.globals[1]?).map (·.type) = some 238 := by kernel_rfl
def table : List Int := [0, 274646895, 549293790, 820201905, 1098587580, 1361435347, 1640403810, 1905808397, 2197175160, 2460548119, 2722870694, 2987750089, 3280807620, 3553878443, 3811616794, 4084100981]
theorem table_at (i : Nat) (h : i < 16) : table.getD i 0 = (shifts 4 i : Nat) := by
  have : ∀ i, i < 16 → table.getD i 0 = (shifts 4 i : Nat) := by decide +kernel
  exact this i h
theorem tab_of_laid {W : World} (h0 : laidMetH Tryz.prog laidArgs W) : Tab W := by
  have h := (laidMetH_iff.1 h0).1
  rw [laid_none] at h
  have h1 : laidMet Tryz.prog (("tontine/frame.remainders", Lib.tabData .u32 table) :: []) W := h
  have h2 := Lib.tabIs_of_head table_name table_type Tryz.underlying238 Tryz.underlying24 (by kernel_rfl) (by kernel_rfl) h1
  have h3 : ∀ i, i < 16 → W.cell? ⟨1, i, none⟩ = some (.int .u32 (shifts 4 i : Nat)) := fun i hi => by
    rw [h2.cell table_name i (by simpa [table] using hi), table_at i hi]
  exact ⟨World.block_lt_of_cell? W _ (h3 0 (by omega)), h3⟩

theorem byte_cells : Tryz.prog.cellsOf 5 = 1 := by kernel_rfl
theorem byte_bytes : Tryz.prog.bytesOf 5 = 1 := by kernel_rfl

section
variable {H : Type} {enc : TypeId × Value → H} {W : World} {held : Bool}
/-- a slice of bytes by its reading, whatever is read -/
theorem bytes_of_trod {fuel : Nat} {cs0 : List Value} {d : DataW H} {p : List MemPlace} (h : DataW.trod enc Tryz.prog W 0 (fun _ => true) held fuel 54 cs0 = some (d, p)) :
    ∃ ao n cap l, cs0 = [.slice ao n cap] ∧ l.length = n ∧ n ≤ cap ∧ cap ≤ maxLen ∧ Rd W ao l ∧ (n = 0 ∨ ∃ elems spare, d = .slice elems spare ∧ elems.length = n) := by
  rcases open_ints Tryz.underlying54 Tryz.underlying5 byte_cells h with ⟨hcs, hx⟩ | ⟨a, len, cap, zs, hcs, hb, hl, hm, hz, hx, hcell, hwf⟩
  · exact ⟨none, 0, 0, [], hcs, rfl, Nat.le_refl _, Nat.zero_le _, Rd.nil _ _, .inl rfl⟩
  · simp only [if_true] at hz
    have hby : ∀ z ∈ zs, 0 ≤ z ∧ z < 256 := fun z hz => by have := bounds_u8 (hwf z hz); omega
    refine ⟨some a, len, cap, (zs.take len).map Int.toNat, hcs, by simp; omega, hl, hm, ⟨?_, ?_⟩, .inr ⟨_, _, congrArg Prod.fst hx, by simp [lits]; omega⟩⟩
    · intro c hc
      obtain ⟨z, hz1, rfl⟩ := List.mem_map.1 hc
      have := hby z (List.mem_of_mem_take hz1)
      omega
    · intro j hj
      simp at hj
      obtain ⟨b, off, rfl, hc⟩ := ints_at hcell (by omega)
      have h1 := hc j (by omega)
      refine ⟨b, off, rfl, World.block_lt_of_cell? W _ h1, ?_⟩
      rw [h1]
      have hzj : zs[j]? = some (zs.getD j 0) := by simp [List.getD, show j < zs.length by omega]
      have h2 := hby (zs.getD j 0) (List.mem_of_getElem? hzj)
      have e : bt ((zs.take len).map Int.toNat) j = (zs.getD j 0).toNat := by
        unfold bt
        rw [List.getD_eq_getElem?_getD, List.getElem?_map, List.getElem?_take, if_pos (by omega), hzj]
        rfl
      rw [e]
      unfold u8v
      rw [Int.toNat_of_nonneg h2.1]
set_option maxRecDepth 100000 in
theorem bytes_arg {base : Nat} {v : Value} {d : DataW H} {p : List MemPlace} (ok : Value.okWide Tryz.prog W .any base 54 v) (k : DataW.Trod enc Tryz.prog W 0 (fun _ => true) held 54 v d p) :
    ∃ ao n cap l, v = .slice ao n cap ∧ l.length = n ∧ n ≤ cap ∧ cap ≤ maxLen ∧ Rd W ao l ∧ (n = 0 ∨ ∃ elems spare, d = .slice elems spare ∧ elems.length = n) := by
  obtain ⟨a0, len0, cap0, rfl⟩ := okWide_slice Tryz.underlying54 ok
  obtain ⟨fuel, hf⟩ := k
  obtain ⟨ao, n, cap, l, e, h⟩ := bytes_of_trod hf
  have e' : Value.slice a0 len0 cap0 = .slice ao n cap := by simpa [Value.cells] using e
  exact ⟨ao, n, cap, l, e', h⟩
set_option maxRecDepth 100000 in
theorem bytes_size {ts : List TypeId} {ds : List (DataW H)} {d : DataW H} {n : Nat} (hsz : (DataW.weightsEach Tryz.prog ts ds).all (· ≤ reachBytes) = true) (j : Nat) (ht : ts[j]? = some 54) (hd : ds[j]? = some d)
    (h : n = 0 ∨ ∃ elems spare, d = .slice elems spare ∧ elems.length = n) : n ≤ 140737488351232 := by
  rcases h with rfl | ⟨elems, spare, rfl, rfl⟩
  · omega
  · have := sized_slice hsz ht hd Tryz.underlying54
    rw [byte_bytes] at this
    have e : reachBytes = 140737488351232 := rfl
    omega

set_option maxRecDepth 100000 in
theorem string_size {ts : List TypeId} {ds : List (DataW H)} {d : DataW H} (hsz : (DataW.weightsEach Tryz.prog ts ds).all (· ≤ reachBytes) = true) (j : Nat) (ht : ts[j]? = some 9) (hd : ds[j]? = some d)
    {b : ByteArray} {p : List MemPlace} (k : DataW.Trod enc Tryz.prog W 0 (fun _ => true) held 9 (.string b) d p) : b.size ≤ 140737488355328 := by
  obtain ⟨fuel, hf⟩ := k
  obtain ⟨s, e1, e2, e3⟩ := DataW.trod_string Tryz.underlying9 hf
  have e1' : Value.string b = .string s := by simpa [Value.cells] using e1
  cases e1'
  have hd2 : d = .lit (.string b.data.toList) := congrArg Prod.fst e2
  have h9 := sized_string hsz ht (hd2 ▸ hd)
  have e : reachBytes = 140737488351232 := rfl
  have e3 : b.data.toList.length = b.size := rfl
  omega
end
end Go.Proofs.YtgifnhmnohojeaaGreatDoor
