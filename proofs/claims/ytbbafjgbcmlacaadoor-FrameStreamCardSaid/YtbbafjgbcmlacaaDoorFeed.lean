/- The readers: Feed, Waiting, New. -/
import Derived.Test.YtbbafjgbcmlacaaDoorNext
namespace Go.Proofs.YtbbafjgbcmlacaaDoor
open Go.RowKit Go.Sort
set_option linter.unusedVariables false

/-- what was fed is held -/
def Fed (B R : Nat) (ao : Option Addr) (n : Nat) (w : World) (l ms : List Nat) (r : Value) (e : Ending) (w' : World) : Prop :=
  ∃ ao' cap', e = .returned r ∧ Held w' B R ao' (n + ms.length) cap' (l ++ ms) ∧ Keep (R :: blk ao) w w' ∧ (∀ g ∈ blk ao', g ∈ blk ao ∨ w.heap.size ≤ g)

set_option maxHeartbeats 4000000 in
theorem feed_in (B R : Nat) (ao : Option Addr) (n cap : Nat) (l : List Nat) (xo : Option Addr) (m c : Nat) (ms : List Nat) (hm : ms.length = m) (hn : n + m ≤ 131072) (w : World) (hr : Rd w xo ms) (hh : Held w B R ao n cap l) :
    Calls Tryd.prog 19 #[.pointer (some ⟨R, 0, none⟩), .slice xo m c] w (Fed B R ao n w l ms (.int .i64 0)) := by
  have hc := hh.cell
  have HH := Lib.hid hh; have HR := Lib.hid hr; have HM := Lib.hid hm
  have hbw := Lib.hid (show B ≤ w.heap.size from Nat.le_trans hh.base (Nat.le_of_lt hh.lt))
  clear hh hr hm
  go_enter Tryd.func19, Tryd.ntmps19
  go_wp2_with (at_builtin; refine wpList_app rfl (.tmp 20) (.tmp 21) rfl rfl HH.out.own rfl HR.out HM.out hbw.out (by omega) ?_; intro ao2 cap2 w2 o2 k2 n2; have hc2 := (k2.cell (a := ⟨R, 0, none⟩) HH.out.lt HH.out.apart).trans HH.out.cell; have hf2 := (k2.frozen (a := ⟨R, 0, none⟩) HH.out.lt HH.out.apart).trans HH.out.free)
  go_ret
  unfold Fed
  rw [HM.out]
  have hlt2 : R < w2.heap.size := Nat.lt_of_lt_of_le HH.out.lt k2.size
  have ha : R ∉ blk ao2 := fun hm => by
    rcases n2 R hm with h | h
    · exact HH.out.apart h
    · have := HH.out.lt; omega
  refine ⟨ao2, cap2, rfl, ⟨World.cell?_setCell_same w2 _ _ hc2, by rw [World.frozen?_setCell]; exact hf2, by simpa [World.setCell] using hlt2, HH.out.base, o2.keep (Keep.setCell w2 ⟨R, 0, none⟩ _) (fun g hg hm => ha (by simp at hm; exact hm ▸ hg)), ha⟩, ?_, n2⟩
  exact (k2.mono fun g hg => .inl (List.mem_cons_of_mem _ hg)).trans ((Keep.setCell w2 ⟨R, 0, none⟩ _).mono fun g hg => .inl (by simp at hg; simp [hg]))

set_option maxHeartbeats 4000000 in
theorem feed_out (B R : Nat) (ao : Option Addr) (n cap : Nat) (l : List Nat) (xo : Option Addr) (m c : Nat) (hn : n ≤ 131072) (hm : 131072 < n + m) (hm2 : m ≤ 9223372036854775807) (w : World) (hh : Held w B R ao n cap l) :
    Calls Tryd.prog 19 #[.pointer (some ⟨R, 0, none⟩), .slice xo m c] w fun e w' => e = .returned (.int .i64 35) ∧ w = w' := by
  have hc := hh.cell
  clear hh
  go_enter Tryd.func19, Tryd.ntmps19
  go_wp2_with fail
  go_ret
  exact ⟨rfl, rfl⟩

set_option maxHeartbeats 4000000 in
theorem rfeed_in (B R : Nat) (ao : Option Addr) (n cap : Nat) (l : List Nat) (xo : Option Addr) (m c : Nat) (ms : List Nat) (hm : ms.length = m) (hn : n + m ≤ 131072) (w : World) (hr : Rd w xo ms) (hh : Held w B R ao n cap l) :
    Calls Tryd.prog 20 #[.pointer (some ⟨R, 0, none⟩), .slice xo m c] w (Fed B R ao n w l ms (.bool true)) := by
  have hc := hh.cell
  have HH := Lib.hid hh; have HR := Lib.hid hr; have HM := Lib.hid hm
  have hbw := Lib.hid (show B ≤ w.heap.size from Nat.le_trans hh.base (Nat.le_of_lt hh.lt))
  clear hh hr hm
  go_enter Tryd.func20, Tryd.ntmps20
  go_wp2_with (at_builtin; refine wpList_app rfl (.tmp 23) (.tmp 24) rfl rfl HH.out.own rfl HR.out HM.out hbw.out (by omega) ?_; intro ao2 cap2 w2 o2 k2 n2; have hc2 := (k2.cell (a := ⟨R, 0, none⟩) HH.out.lt HH.out.apart).trans HH.out.cell; have hf2 := (k2.frozen (a := ⟨R, 0, none⟩) HH.out.lt HH.out.apart).trans HH.out.free)
  go_ret
  unfold Fed
  rw [HM.out]
  have hlt2 : R < w2.heap.size := Nat.lt_of_lt_of_le HH.out.lt k2.size
  have ha : R ∉ blk ao2 := fun hm => by
    rcases n2 R hm with h | h
    · exact HH.out.apart h
    · have := HH.out.lt; omega
  refine ⟨ao2, cap2, rfl, ⟨World.cell?_setCell_same w2 _ _ hc2, by rw [World.frozen?_setCell]; exact hf2, by simpa [World.setCell] using hlt2, HH.out.base, o2.keep (Keep.setCell w2 ⟨R, 0, none⟩ _) (fun g hg hm => ha (by simp at hm; exact hm ▸ hg)), ha⟩, ?_, n2⟩
  exact (k2.mono fun g hg => .inl (List.mem_cons_of_mem _ hg)).trans ((Keep.setCell w2 ⟨R, 0, none⟩ _).mono fun g hg => .inl (by simp at hg; simp [hg]))

set_option maxHeartbeats 4000000 in
theorem rfeed_out (B R : Nat) (ao : Option Addr) (n cap : Nat) (l : List Nat) (xo : Option Addr) (m c : Nat) (hn : n ≤ 131072) (hm : 131072 < n + m) (hm2 : m ≤ 9223372036854775807) (w : World) (hh : Held w B R ao n cap l) :
    Calls Tryd.prog 20 #[.pointer (some ⟨R, 0, none⟩), .slice xo m c] w fun e w' => e = .returned (.bool false) ∧ w = w' := by
  have hc := hh.cell
  clear hh
  by_cases h : 131072 < m
  all_goals
    go_enter Tryd.func20, Tryd.ntmps20
    go_wp2_with fail
    go_ret
    exact ⟨rfl, rfl⟩

theorem waiting_any (B R : Nat) (ao : Option Addr) (n cap : Nat) (l : List Nat) (w : World) (hh : Held w B R ao n cap l) :
    Calls Tryd.prog 23 #[.pointer (some ⟨R, 0, none⟩)] w fun e w' => e = .returned (.int .i64 (n : Int)) ∧ w = w' := by
  have hc := hh.cell
  clear hh
  go_enter Tryd.func23, Tryd.ntmps23
  go_wp2_with fail
  go_ret
  exact ⟨rfl, rfl⟩

theorem new_any (w : World) : Calls Tryd.prog 18 #[] w fun e w' => e = .returned (.pointer (some ⟨w.heap.size, 0, none⟩)) ∧ w' = w.alloc (.cells #[.slice none 0 0] 58) := by
  go_enter Tryd.func18, Tryd.ntmps18
  go_wp2_with fail
  go_ret
  exact ⟨rfl, rfl⟩
theorem Held.new (w : World) (B : Nat) (hB : B ≤ w.heap.size) (t : TypeId) : Held (w.alloc (.cells #[.slice none 0 0] t)) B w.heap.size none 0 0 [] :=
  ⟨by go_simp, by go_simp, by simp, hB, Own.nil _ _, by simp [blk]⟩
end Go.Proofs.YtbbafjgbcmlacaaDoor
