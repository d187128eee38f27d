/- The coder's numbers: giving up, taking bytes, a number taken and laid. The coder's number, at each kind of integer (gen_number.py). -/
import Derived.Test.YtngcbpgafjnfaaaGreatDoorLoB6
import Derived.WalkLawsBesides
import Derived.Deep.RegionLaw
set_option linter.unusedSimpArgs false
set_option linter.unusedVariables false

namespace Go.Proofs.YtngcbpgafjnfaaaGreatDoor
open Go.RowKit Go.Sort
set_option linter.unusedVariables false

theorem nat_or_join (a b k : Nat) (ha : a < 2 ^ k) (hb : b * 2 ^ k < 18446744073709551616) (hk : k ≤ 64) : bits .or .u64 (a : Int) ((b * 2 ^ k : Nat) : Int) = ((a + b * 2 ^ k : Nat) : Int) := by
  have h2 : (2 : Nat) ^ k ≤ 2 ^ 64 := Nat.pow_le_pow_right (by omega) hk
  rw [u64_or_nat _ _ (by omega) hb]
  congr 1
  rw [Nat.or_comm, nat_join k (b * 2 ^ k) a (Nat.mul_mod_left _ _) ha, Nat.add_comm]
theorem unle_append : ∀ (l : List Nat) (m : List Nat), unle (l ++ m) = unle l + 256 ^ l.length * unle m
  | [], m => by simp [unle]
  | b :: l, m => by
    simp only [List.cons_append, unle, unle_append l m, List.length_cons, Nat.pow_succ]
    rw [Nat.mul_add, ← Nat.mul_assoc, Nat.mul_comm 256 (256 ^ l.length)]
    omega
theorem unle_lt : ∀ l : List Nat, Bytes l → unle l < 256 ^ l.length
  | [], _ => by simp [unle]
  | b :: l, h => by
    have h1 := unle_lt l fun c hc => h c (by simp [hc])
    have h2 := h b (by simp)
    simp only [unle, List.length_cons, Nat.pow_succ]
    omega
theorem unle_step (l : List Nat) (h : Bytes l) (k : Nat) (hk : k < l.length) (h8 : k < 8) :
    bits .or .u64 (unle (l.take k) : Nat) ((bt l k : Nat) * 2 ^ (8 * k) % 18446744073709551616 : Int) = (unle (l.take (k + 1)) : Nat) := by
  have hp : (256 : Nat) ^ k = 2 ^ (8 * k) := by rw [Nat.pow_mul]
  have hbl := h _ (bt_mem hk)
  have hlt : bt l k * 2 ^ (8 * k) < 18446744073709551616 := by
    have h2 : (2 : Nat) ^ (8 * k) ≤ 2 ^ 56 := Nat.pow_le_pow_right (by omega) (by omega)
    exact Nat.lt_of_le_of_lt (Nat.mul_le_mul (show bt l k ≤ 255 by omega) h2) (by decide)
  have e : ((bt l k : Nat) * 2 ^ (8 * k) % 18446744073709551616 : Int) = ((bt l k * 2 ^ (8 * k) : Nat) : Int) := by
    have : ((bt l k : Nat) : Int) * 2 ^ (8 * k) = ((bt l k * 2 ^ (8 * k) : Nat) : Int) := by rw [Int.natCast_mul, Int.natCast_pow]; rfl
    omega
  have htk : (l.take k).length = k := by simp; omega
  have hlow : unle (l.take k) < 2 ^ (8 * k) := by
    have := unle_lt (l.take k) (h.take k)
    rwa [htk, hp] at this
  rw [e, nat_or_join _ _ (8 * k) hlow hlt (by omega), List.take_add_one, bt_get hk]
  show _ = ((unle (l.take k ++ [bt l k]) : Nat) : Int)
  rw [unle_append, htk, hp, Nat.mul_comm (bt l k)]
  simp [unle]

theorem giveup_any (n : Int) (s : ByteArray) (w : World) :
    Calls Tryz.prog 35 #[.int .i64 n, .string s] w fun e w' => e = .panicked [{ v := .iface 112 (.pointer (some ⟨w.heap.size, 0, none⟩)), recovered := false }] ∧ w' = w.alloc (.cells #[.int .i64 n, .string s] 121) := by
  go_enter Tryz.func35, Tryz.ntmps35
  go_wp2
  exact ⟨rfl, rfl, rfl⟩
/-- the coder gave up -/
def GaveAt (md : Bool) (f : ByteArray) (w : World) (e : Ending) (w' : World) : Prop := e = .panicked [{ v := .iface 112 (.pointer (some ⟨w.heap.size, 0, none⟩)), recovered := false }] ∧ w' = w.alloc (.cells #[.int .i64 (if md then 44 else 42), .string f] 121)
theorem GaveAt.gave {md : Bool} {f : ByteArray} {w w' : World} {e : Ending} (h : GaveAt md f w e w') : Gave md f e w w' := by
  obtain ⟨rfl, rfl⟩ := h
  exact ⟨w.heap.size, Nat.le_refl _, by simp, rfl, by go_simp, by go_simp⟩
theorem GaveAt.safe {md : Bool} {f : ByteArray} {w w' : World} {e : Ending} {P : Nat → Prop} (h : GaveAt md f w e w') (hp : ∀ b, P b → b < w.heap.size) : Safe P w w' := by
  obtain ⟨rfl, rfl⟩ := h
  exact (Safe.refl P w).alloc hp _
theorem GaveAt.safeK {md : Bool} {f : ByteArray} {w w' : World} {e : Ending} {P : Nat → Prop} {g : Nat} (h : GaveAt md f w e w') (hp : ∀ b, P b → b < w.heap.size) (hg : g < w.heap.size) : SafeK P g w w' := by
  obtain ⟨rfl, rfl⟩ := h
  exact SafeK.below (below_alloc (Below.refl _ _) _) hp hg
theorem need_yes (gc : Nat) (w : World) : Calls Tryz.prog 69 #[.pointer (some ⟨gc, 0, none⟩), .bool true] w fun e w' => e = .returned (.tuple #[]) ∧ w = w' := by
  go_enter Tryz.func69, Tryz.ntmps69
  go_wp2
  refine bodyPost_ret (results_none rfl _ _ _) rfl ?_
  exact ⟨rfl, rfl⟩
theorem need_no (gc : Nat) (md : Bool) (f : ByteArray) (w : World) (h0 : w.cell? ⟨gc, 0, none⟩ = some (.bool md)) (h2 : w.cell? ⟨gc, 2, none⟩ = some (.string f)) :
    Calls Tryz.prog 69 #[.pointer (some ⟨gc, 0, none⟩), .bool false] w (GaveAt md f w) := by
  cases md
  all_goals
    go_enter Tryz.func69, Tryz.ntmps69
    go_wp2_with (go_at_call 35; refine (giveup_any _ _ _).mono ?_; rintro e w' ⟨rfl, rfl⟩)
    exact ⟨rfl, rfl, rfl⟩
theorem run_cut1 (w : World) (ao : Option Addr) (n cap hi : Nat) (h : hi ≤ cap) : (Instr.sliceAt 54 (.slice ao n cap) none (some (.int .i64 (hi : Int))) none).run Tryz.prog w = .ok (.slice ao hi cap) w := by
  rw [run_sliceAt_slice _ _ _ _ _ _ byte_elem, run_slice_h w _ ao n cap byte_elem .i64 (hi : Int) (by omega) (by omega), byte_size]
  cases ao <;> simp [Result.andThen, sliced, Addr.add]
/-- the next k bytes -/
theorem take_yes (gc : Nat) (sb : Src) (f : ByteArray) (ao : Option Addr) (n cap : Nat) (l : List Nat) (k : Nat) (hk : k ≤ n) (w : World) (h : CdAt w true gc sb f ao n cap l) :
    Calls Tryz.prog 158 #[.pointer (some ⟨gc, 0, none⟩), .int .i64 (k : Int)] w fun e w' => e = .returned (.slice ao k cap) ∧ w' = w.setCell ⟨gc, 1, none⟩ (.slice (sh ao cap k) (n - k) (cap - k)) := by
  have h1 := h.c1
  have hf := h.f1
  have hle := h.le
  have hmx := h.max
  unfold maxLen at hmx
  have hd : decide ((k : Int) ≤ (n : Int)) = true := decide_eq_true (by omega)
  have HC := Lib.hid (run_cut2 w ao n cap k hk)
  have HT := Lib.hid (run_cut1 w ao n cap k (by omega))
  clear h
  go_enter Tryz.func158, Tryz.ntmps158
  go_wp2_with fail
  refine (need_yes gc _).mono ?_
  rintro e w' ⟨rfl, rfl⟩
  go_wp2_with (first | (refine wpList_value rfl _ (exec_slice (vx := .slice ao n cap) (lv := none) (hv := some (.int .i64 (k : Int))) 54 (.tmp 18) none (some (.tmp 19)) rfl rfl rfl rfl HT.out) ?_) | (refine wpList_value rfl _ (exec_slice (vx := .slice ao n cap) (lv := some (.int .i64 (k : Int))) (hv := none) 54 (.tmp 25) (some (.tmp 26)) none rfl rfl rfl rfl HC.out) ?_))
  go_ret
  exact ⟨rfl, rfl⟩
theorem take_no (gc : Nat) (sb : Src) (f : ByteArray) (ao : Option Addr) (n cap : Nat) (l : List Nat) (k : Nat) (hk : n < k) (w : World) (h : CdAt w true gc sb f ao n cap l) :
    Calls Tryz.prog 158 #[.pointer (some ⟨gc, 0, none⟩), .int .i64 (k : Int)] w (GaveAt true f w) := by
  have h1 := h.c1
  have hle := h.le
  have hmx := h.max
  unfold maxLen at hmx
  have hd : decide (k ≤ n) = false := decide_eq_false (by omega)
  have N := Lib.hid (need_no gc true f w h.c0 h.c2)
  clear h
  go_enter Tryz.func158, Tryz.ntmps158
  go_wp2_with fail
  refine N.out.mono ?_
  rintro e w' ⟨rfl, rfl⟩
  exact ⟨rfl, rfl, rfl⟩

/-- a number is taken -/
theorem takenumber_yes (gc : Nat) (sb : Src) (f : ByteArray) (ao : Option Addr) (n cap : Nat) (l : List Nat) (k : Nat) (hk : k ≤ n) (h8 : k ≤ 8) (w : World) (h : CdAt w true gc sb f ao n cap l) :
    Calls Tryz.prog 147 #[.pointer (some ⟨gc, 0, none⟩), .int .i64 (k : Int)] w fun e w' => e = .returned (.int .u64 (unle (l.take k) : Nat)) ∧ w' = w.setCell ⟨gc, 1, none⟩ (.slice (sh ao cap k) (n - k) (cap - k)) := by
  have T := Lib.hid (take_yes gc sb f ao n cap l k hk w h)
  have hgc : ∀ b ∈ blk ao, b ≠ gc := fun b hb e => (h.rd rfl).2.1 ((h.rd rfl).2.2 b hb ▸ e)
  have hlen := h.len
  have hle := h.le
  have hmx := h.max
  unfold maxLen at hmx
  have HR := Lib.hid (((h.rd rfl).1.take k).keep (Keep.setCell w ⟨gc, 1, none⟩ (.slice (sh ao cap k) (n - k) (cap - k))) fun b hb hm => hgc b hb (by simpa using hm))
  have HB := Lib.hid (show Bytes (l.take k) from (h.rd rfl).1.lt |> fun hh => Bytes.take hh k)
  have HK := Lib.hid (show (l.take k).length = k by simp; omega)
  have HW := Lib.hid (show (l.take k).take k = l.take k by rw [List.take_of_length_le (by simp; omega)])
  clear h
  generalize l.take k = m at *
  generalize w.setCell _ _ = w1 at *
  have hsg : IntKind.u64.signed = false := rfl
  go_enter Tryz.func147, Tryz.ntmps147
  go_wp2_with fail
  refine T.out.mono ?_
  rintro e w' ⟨rfl, rfl⟩
  go_wp2_with fail
  go_loop [5, 6, 7, 12] (fun v i x j => ∃ q : Nat, q ≤ k ∧ j = .int .i64 (q : Int) ∧ v = .int .u64 (unle (m.take q) : Nat)) (fun _ _ _ j => k - (intOf j).toNat)
  case atStart => exact ⟨0, by omega, rfl, rfl⟩
  case round =>
    obtain ⟨q, hq, rfl, rfl⟩ := hrel
    by_cases hlt : q < k
    · obtain ⟨g, o, rfl, hg, hc⟩ := HR.out.at_ q (by rw [HK.out]; omega)
      have hb := HR.out.byte q
      have e1 := Lib.hid (unle_step m HB.out q (by rw [HK.out]; omega) (by omega))
      go_wp2_with fail
      exact ⟨⟨q + 1, by omega, by go_num, by rw [← e1.out, show IntKind.u64.wrap (↑(bt m q) * 2 ^ (8 * q)) = ↑(bt m q) * 2 ^ (8 * q) % 18446744073709551616 from rfl]⟩, by simp [intOf]; omega⟩
    · obtain rfl : k = q := by omega
      go_wp2_with fail
      go_ret
      exact ⟨ret_int (by rw [HW.out]), rfl⟩
theorem takenumber_no (gc : Nat) (sb : Src) (f : ByteArray) (ao : Option Addr) (n cap : Nat) (l : List Nat) (k : Nat) (hk : n < k) (w : World) (h : CdAt w true gc sb f ao n cap l) :
    Calls Tryz.prog 147 #[.pointer (some ⟨gc, 0, none⟩), .int .i64 (k : Int)] w (GaveAt true f w) := by
  have T := Lib.hid (take_no gc sb f ao n cap l k hk w h)
  clear h
  go_enter Tryz.func147, Tryz.ntmps147
  go_wp2_with fail
  refine T.out.mono ?_
  rintro e w' ⟨rfl, rfl⟩
  exact ⟨rfl, rfl, rfl⟩

/-- append of bytes, as one step of a region that draws -/
theorem step_app {w : World} {ops : Array Oper} {o : Oper} {a : Act} {K : Act → World → Prop} {Q : Exit → Act → World → Prop} {E : Prop} (hgd : o.guard = none) (s x : Operand)
    (ho : o.op = .call { callee := .builtin .append, args := #[s, x], argTypes := #[54, 54] })
    {B : Nat} {ao : Option Addr} {n cap : Nat} {l : List Nat} (hs : a.eval s = .slice ao n cap) (hown : Own w B ao n cap l)
    {xo : Option Addr} {m c : Nat} {ms : List Nat} (hx : a.eval x = .slice xo m c) (hrd : Rd w xo ms) (hm : ms.length = m) (hB : B ≤ w.heap.size) (hbig : n + m ≤ 140737488355328)
    (h : ∀ ao' cap' w', Own w' B ao' (n + m) cap' (l ++ ms) → Keep (blk ao) w w' → (∀ g ∈ blk ao', g ∈ blk ao ∨ w.heap.size ≤ g) → (∀ g o j, ao = some ⟨g, o, none⟩ → j < o + n → w'.cell? ⟨g, j, none⟩ = w.cell? ⟨g, j, none⟩) → (ao' = ao ∨ ∀ g ∈ blk ao', w.heap.size ≤ g) → K (a.put o.dst (.slice ao' (n + m) cap')) w') :
    if Region.wanted o (yielded ops a.tmps) = true then Oper.wp Tryz.prog o a w K Q else E := by
  have hw : Region.wanted o (yielded ops a.tmps) = true := by simp [Region.wanted, hgd]
  rw [if_pos hw]
  obtain ⟨ao', cap', w', hr, h2, h3, h4, h6, h5⟩ := hown.run_app c hrd hm hB hbig o.type
  unfold Oper.wp execOp
  simp only [ho, resolve, invoke, builtin, Sem.run_bind, Sem.run_pure, Result.andThen_ok, List.map_toArray, List.map_cons, List.map_nil, hs, hx, hr]
  exact h ao' cap' w' h2 h3 h4 h5 h6
theorem step_apps {w : World} {ops : Array Oper} {o : Oper} {a : Act} {K : Act → World → Prop} {Q : Exit → Act → World → Prop} {E : Prop} (hgd : o.guard = none) (s x : Operand)
    (ho : o.op = .call { callee := .builtin .append, args := #[s, x], argTypes := #[54, 9] })
    {B : Nat} {ao : Option Addr} {n cap : Nat} {l : List Nat} (hs : a.eval s = .slice ao n cap) (hown : Own w B ao n cap l)
    {t : ByteArray} (hx : a.eval x = .string t) (hB : B ≤ w.heap.size) (hbig : n + t.size ≤ 140737488355328)
    (h : ∀ ao' cap' w', Own w' B ao' (n + t.size) cap' (l ++ bs t) → Keep (blk ao) w w' → (∀ g ∈ blk ao', g ∈ blk ao ∨ w.heap.size ≤ g) → (∀ g o j, ao = some ⟨g, o, none⟩ → j < o + n → w'.cell? ⟨g, j, none⟩ = w.cell? ⟨g, j, none⟩) → (ao' = ao ∨ ∀ g ∈ blk ao', w.heap.size ≤ g) → K (a.put o.dst (.slice ao' (n + t.size) cap')) w') :
    if Region.wanted o (yielded ops a.tmps) = true then Oper.wp Tryz.prog o a w K Q else E := by
  have hw : Region.wanted o (yielded ops a.tmps) = true := by simp [Region.wanted, hgd]
  rw [if_pos hw]
  obtain ⟨ao', cap', w', hr, h2, h3, h4, h6, h5⟩ := hown.run_apps t hB hbig o.type
  unfold Oper.wp execOp
  simp only [ho, resolve, invoke, builtin, Sem.run_bind, Sem.run_pure, Result.andThen_ok, List.map_toArray, List.map_cons, List.map_nil, hs, hx, hr]
  exact h ao' cap' w' h2 h3 h4 h5 h6

/-- the bytes are laid -/
theorem CdAt.lay {w w2 : World} {P : Nat → Prop} {gc n cap n' cap' : Nat} {sb : Src} {f : ByteArray} {ao ao' : Option Addr} {l l' : List Nat} (h : CdAt w false gc sb f ao n cap l) (hof : OffC false w P gc sb ao) (k : Keep (blk ao) w w2) (o : Own w2 0 ao' n' cap' l') (hn : ∀ b ∈ blk ao', b ∈ blk ao ∨ w.heap.size ≤ b) (hkp : ∀ g o j, ao = some ⟨g, o, none⟩ → j < o + n → w2.cell? ⟨g, j, none⟩ = w.cell? ⟨g, j, none⟩) (hor : ao' = ao ∨ ∀ g ∈ blk ao', w.heap.size ≤ g) (hnn : n ≤ n') :
    CdAt (w2.setCell ⟨gc, 1, none⟩ (.slice ao' n' cap')) false gc sb f ao' n' cap' l' ∧ OffC false (w2.setCell ⟨gc, 1, none⟩ (.slice ao' n' cap')) P gc sb ao' ∧ Safe P w (w2.setCell ⟨gc, 1, none⟩ (.slice ao' n' cap')) := by
  have hgb := (h.wr rfl).2
  have ha : gc ∉ blk ao' := fun hm => by
    rcases hn gc hm with h1 | h1
    · exact hgb h1
    · have := h.lt; omega
  have c0 := (k.cell (a := ⟨gc, 0, none⟩) h.lt hgb).trans h.c0
  have c1 := (k.cell (a := ⟨gc, 1, none⟩) h.lt hgb).trans h.c1
  have c2 := (k.cell (a := ⟨gc, 2, none⟩) h.lt hgb).trans h.c2
  have f1 := (k.frozen (a := ⟨gc, 1, none⟩) h.lt hgb).trans h.f1
  have f2 := (k.frozen (a := ⟨gc, 2, none⟩) h.lt hgb).trans h.f2
  have hlt : gc < w2.heap.size := Nat.lt_of_lt_of_le h.lt k.size
  have ks := Keep.setCell w2 ⟨gc, 1, none⟩ (.slice ao' n' cap')
  refine ⟨⟨(by rw [World.cell?_setCell_other _ _ _ _ (by simp)]; exact c0), World.cell?_setCell_same w2 _ _ c1, (by rw [World.cell?_setCell_other _ _ _ _ (by simp)]; exact c2), (by rw [World.frozen?_setCell]; exact f1), (by rw [World.frozen?_setCell]; exact f2), (by simpa [World.setCell] using hlt), o.len, o.le, o.max,
    fun _ => ⟨o.keep ks (fun b hb hm => ha (by simp at hm; exact hm ▸ hb)), ha⟩, fun _ g j v hv => ?_, (fun hm => by cases hm)⟩, ⟨(fun hm => by cases hm), fun b hb => ⟨by have := (hof.2 b hb).1; have := k.size; simp [World.setCell]; omega, (hof.2 b hb).2.1, fun _ hm => ?_⟩⟩, ?_⟩
  · obtain ⟨q1, q2, q3, q4⟩ := h.st rfl g j v hv
    have q5 : w2.cell? ⟨g, j, none⟩ = some v := by
      by_cases hm : g ∈ blk ao
      · cases ao with
        | none => simp [blk] at hm
        | some a =>
          obtain ⟨g', o', row, rfl, _⟩ := (h.wr rfl).1.row a rfl
          simp [blk] at hm
          subst hm
          exact (hkp g o' j rfl (q4 o' rfl)).trans q1
      · exact (k.cell (a := ⟨g, j, none⟩) q2 hm).trans q1
    refine ⟨by rw [World.cell?_setCell_other _ _ _ _ (by intro e; cases e; exact q3 rfl)]; exact q5, by have := k.size; simp [World.setCell]; omega, q3, fun o2 e => ?_⟩
    rcases hor with hor | hor
    · rw [hor] at e
      have := q4 o2 e
      omega
    · have := hor g (by rw [e]; simp [blk])
      omega
  · rcases hn b hm with h1 | h1
    · exact (hof.2 b hb).2.2 rfl h1
    · have := (hof.2 b hb).1; omega
  · have s1 : Safe P w w2 := .of_keep k fun b hb => ⟨(hof.2 b hb).1, (hof.2 b hb).2.2 rfl⟩
    exact s1.trans (.of_keep ks fun b hb => ⟨Nat.lt_of_lt_of_le (hof.2 b hb).1 k.size, by simpa using (hof.2 b hb).2.1⟩)
theorem CdAt.drew {w : World} {md : Bool} {gc n cap : Nat} {sb : Src} {f : ByteArray} {ao : Option Addr} {l : List Nat} (h : CdAt w md gc sb f ao n cap l) : CdAt w.drew md gc sb f ao n cap l := h.below (Below.refl _ _).drew
theorem OffC.drew {w : World} {md : Bool} {P : Nat → Prop} {gc : Nat} {sb : Src} {ao : Option Addr} (h : OffC md w P gc sb ao) : OffC md w.drew P gc sb ao := h
theorem OffC.alloc {w : World} {md : Bool} {P : Nat → Prop} {gc : Nat} {sb : Src} {ao : Option Addr} (h : OffC md w P gc sb ao) (o : Obj) : OffC md (w.alloc o) P gc sb ao := ⟨h.1, fun b hb => ⟨by have := (h.2 b hb).1; simp; omega, (h.2 b hb).2⟩⟩
theorem Safe.drew (P : Nat → Prop) (w : World) : Safe P w w.drew := ⟨rfl, rfl, rfl, Nat.le_refl _, fun _ _ => rfl⟩

set_option maxHeartbeats 4000000 in
theorem appendnumber_any (P : Nat → Prop) (gc : Nat) (sb : Src) (f : ByteArray) (l : List Nat) (v : Nat) (hv : v < 18446744073709551616) (size : Nat) (hs : size ≤ 8) (hl : l.length + size ≤ 140737488355328) (w : World) (h : CdIs w false P gc sb f l) :
    Calls Tryz.prog 148 #[.pointer (some ⟨gc, 0, none⟩), .int .u64 (v : Int), .int .i64 (size : Int)] w fun e w' => e = .returned (.tuple #[]) ∧ CdIs w' false P gc sb f (l ++ le size v) ∧ Safe P w w' := by
  have HL := Lib.hid (le_take size v)
  have HW := Lib.hid (le_whole size v)
  have hlen : ∀ k, k ≤ size → (l ++ (le size v).take k).length = l.length + k := fun k hk => by simp [le_length]; omega
  have H0 := Lib.hid h
  have HN := Lib.hid hlen
  clear h hlen
  have hsg : IntKind.u64.signed = false := rfl
  go_enter Tryz.func148, Tryz.ntmps148
  go_wp2_with fail
  go_loopw [6, 8] (fun x i wr => ∃ k : Nat, k ≤ size ∧ i = .int .i64 (k : Int) ∧ CdIs wr false P gc sb f (l ++ (le size v).take k) ∧ Safe P w wr) (fun _ i _ => size - (intOf i).toNat)
  case atStart => exact ⟨0, by omega, rfl, by simpa using H0.out, Safe.refl _ _⟩
  case round =>
    obtain ⟨k, hk, rfl, ho, hb⟩ := hrel
    have h1 := HN.out k hk
    have HO := Lib.hid ho
    have HB := Lib.hid hb
    clear ho hb
    by_cases hlt : k < size
    · obtain ⟨ao, n, cap, ha, hof⟩ := HO.out
      have hn := ha.len
      have c1 := ha.c1
      have f1 := ha.f1
      have hcl := ha.lt
      have HA := Lib.hid ha
      have HF := Lib.hid hof
      have HS := Lib.hid (HL.out k hlt)
      clear ha hof
      have hy : v / 256 ^ k < 18446744073709551616 := Nat.lt_of_le_of_lt (Nat.div_le_self _ _) hv
      have hw8 : IntKind.i64.wrap (8 * (k : Int)) = ((8 * k : Nat) : Int) := by rw [IntWalk.i64_in _ (by omega)]; omega
      have EX : IntKind.u8.wrap ((v : Int) / 2 ^ (8 * (k : Int)).toNat) = ((v / 256 ^ k % 256 : Nat) : Int) := by
        have e1 : (8 * (k : Int)).toNat = 8 * k := by omega
        have e2 : (2 : Int) ^ (8 * k) = ((256 ^ k : Nat) : Int) := by rw [Int.natCast_pow, Int.pow_mul]; rfl
        rw [e1, e2]
        show (_ : Int) % 256 = _
        omega
      have HR2 : Hid (Rd ((wr.alloc (.cells #[.int .u8 (IntKind.u8.wrap ((v : Int) / 2 ^ (8 * (k : Int)).toNat))] 5)).drew) (some ⟨wr.heap.size, 0, none⟩) [v / 256 ^ k % 256]) := Lib.hid (by
        rw [EX]
        exact (Own.one wr 0 (v / 256 ^ k % 256) (by omega) (by omega)).rd.below (Below.refl _ _).drew)
      have hbl : Below wr.heap.size wr ((wr.alloc (.cells #[.int .u8 (IntKind.u8.wrap ((v : Int) / 2 ^ (8 * (k : Int)).toNat))] 5)).drew) := (below_alloc (Below.refl _ _) _).drew
      have HA2 := Lib.hid (HA.out.below hbl)
      have HF2 := Lib.hid ((HF.out.alloc (.cells #[.int .u8 (IntKind.u8.wrap ((v : Int) / 2 ^ (8 * (k : Int)).toNat))] 5)).drew)
      have HS2 := Lib.hid (show Safe P w ((wr.alloc (.cells #[.int .u8 (IntKind.u8.wrap ((v : Int) / 2 ^ (8 * (k : Int)).toNat))] 5)).drew) from (HB.out.alloc (fun b hb => (HF.out.2 b hb).1) _).trans (Safe.drew _ _))
      clear EX hbl
      go_wp2_with fail
      go_region_law (refine step_app rfl (.tmp 15) (.tmp 21) rfl rfl (HA2.out.wr rfl).1 rfl HR2.out rfl (Nat.zero_le _) (by omega) ?_; intro ao3 cap3 w3 o3 k3 n3 y3 z3; have hc3 := (k3.cell (a := ⟨gc, 1, none⟩) HA2.out.lt (HA2.out.wr rfl).2).trans HA2.out.c1; have hf3 := (k3.frozen (a := ⟨gc, 1, none⟩) HA2.out.lt (HA2.out.wr rfl).2).trans HA2.out.f1)
      all_goals
        try go_wp2_with fail
        obtain ⟨q1, q2, q3⟩ := HA2.out.lay HF2.out k3 o3 n3 y3 z3 (by omega)
        refine ⟨⟨k + 1, by omega, by go_num, ⟨ao3, n + 1, cap3, ?_, q2⟩, HS2.out.trans q3⟩, by simp [intOf]; omega⟩
        rw [HS.out, ← List.append_assoc]
        exact q1
    · obtain rfl : size = k := by omega
      go_wp2_with fail
      go_end0
      exact ⟨rfl, by have := HO.out; rw [HW.out] at this; exact this, HB.out⟩
end Go.Proofs.YtngcbpgafjnfaaaGreatDoor


namespace Go.Proofs.YtngcbpgafjnfaaaGreatDoor
open Go.RowKit Go.Sort
set_option linter.unusedVariables false

/-- an int of some bytes, 0 to most -/
def intK (size most : Nat) : Kd Int := ⟨whole size most, 1, 0, fun _ _ cs v => cs = [.int .i64 v] ∧ I64 v⟩
theorem intK_fine (size most : Nat) : (intK size most).Fine := ⟨fun _ _ _ _ h => by rw [h.1]; rfl, fun _ _ _ _ _ _ h _ _ => h, fun _ _ _ _ _ h _ => h⟩
/-- a number of a kind of unsigned integers -/
def natK (k : IntKind) (size most : Nat) : Kd Nat := ⟨num' size most, 1, 0, fun _ _ cs v => cs = [.int k (v : Int)] ∧ (v : Int) ≤ k.max⟩
theorem natK_fine (k : IntKind) (size most : Nat) : (natK k size most).Fine := ⟨fun _ _ _ _ h => by rw [h.1]; rfl, fun _ _ _ _ _ _ h _ _ => h, fun _ _ _ _ _ h _ => h⟩

/-- k bytes are cut off -/
theorem CdAt.cut {w : World} {gc n cap : Nat} {sb : Src} {f : ByteArray} {ao : Option Addr} {l : List Nat} (h : CdAt w true gc sb f ao n cap l) (k : Nat) (hk : k ≤ n) :
    CdAt (w.setCell ⟨gc, 1, none⟩ (.slice (sh ao cap k) (n - k) (cap - k))) true gc sb f (sh ao cap k) (n - k) (cap - k) (l.drop k) := by
  have hlen := h.len
  have hle := h.le
  have hmx := h.max
  have ks := Keep.setCell w ⟨gc, 1, none⟩ (.slice (sh ao cap k) (n - k) (cap - k))
  refine ⟨(by rw [World.cell?_setCell_other _ _ _ _ (by simp)]; exact h.c0), World.cell?_setCell_same w _ _ h.c1, (by rw [World.cell?_setCell_other _ _ _ _ (by simp)]; exact h.c2), (by rw [World.frozen?_setCell]; exact h.f1), (by rw [World.frozen?_setCell]; exact h.f2), (by simpa [World.setCell] using h.lt),
    by simp; omega, by omega, by omega, (fun hm => by cases hm), (fun hm => by cases hm), fun _ => ⟨((h.rd rfl).1.sh cap k (by omega)).keep ks fun b hb hm => ?_, (h.rd rfl).2.1, fun b hb => (h.rd rfl).2.2 b (blk_sh _ _ _ b hb)⟩⟩
  have h1 := (h.rd rfl).2.2 b (blk_sh _ _ _ b hb)
  exact (h.rd rfl).2.1 (h1 ▸ by simpa using hm)
theorem OffC.put {w : World} {md : Bool} {P : Nat → Prop} {gc : Nat} {sb : Src} {ao ao' : Option Addr} (h : OffC true w P gc sb ao) (a : Addr) (v : Value) : OffC true (w.setCell a v) P gc sb ao' :=
  ⟨h.1, fun b hb => ⟨by simpa [World.setCell] using (h.2 b hb).1, (h.2 b hb).2.1, fun hm => by cases hm⟩⟩
theorem Safe.put {w : World} {P : Nat → Prop} {g o : Nat} (hP : ∀ b, P b → b < w.heap.size ∧ b ≠ g) (v : Value) : Safe P w (w.setCell ⟨g, o, none⟩ v) := .of_keep (Keep.setCell w ⟨g, o, none⟩ v) fun b hb => ⟨(hP b hb).1, by simpa using (hP b hb).2⟩
/-- the end of a number that was read -/
theorem coded_read {α : Type} {P N : Nat → Prop} {gc : Nat} {sb : Src} {f : ByteArray} {g o n cap : Nat} {ao : Option Addr} {l : List Nat} {k : Kd α} {a : α} {v : Value} {w : World} (h : CdAt w true gc sb f ao n cap l) (hof : OffC true w P gc sb ao)
    (hP : ¬ P g) (hne : g ≠ gc) (hg : g < w.heap.size) (size : Nat) (hk : size ≤ n) (hc : (w.cell? ⟨g, o, none⟩).isSome = true) (hsz : k.sz = 1) (his : ∀ w N, k.is w N [v] a) :
    Coded true P N gc sb f g o k w (some (l.drop size, a)) (.returned (.tuple #[])) ((w.setCell ⟨gc, 1, none⟩ (.slice (sh ao cap size) (n - size) (cap - size))).setCell ⟨g, o, none⟩ v) := by
  have hcut := h.cut size hk
  generalize hw1 : w.setCell ⟨gc, 1, none⟩ (.slice (sh ao cap size) (n - size) (cap - size)) = w1 at *
  have hof1 : OffC true w1 P gc sb (sh ao cap size) := by rw [← hw1]; exact hof.put (md := true) _ _
  have hcd : CdIs w1 true P gc sb f (l.drop size) := ⟨_, _, _, hcut, hof1⟩
  have hcd2 := hcd.put (g := g) (o := o) hP hne v
  have hs1 : Safe P w w1 := by rw [← hw1]; exact Safe.put (fun b hb => ⟨(hof.2 b hb).1, (hof.2 b hb).2.1⟩) _
  have hs2 : Safe P w1 (w1.setCell ⟨g, o, none⟩ v) := Safe.put (fun b hb => ⟨(hof1.2 b hb).1, fun e => hP (by rw [← e]; exact hb)⟩) _
  have hcell : ∀ j, w1.cell? ⟨g, j, none⟩ = w.cell? ⟨g, j, none⟩ := fun j => by rw [← hw1, World.cell?_setCell_other _ _ _ _ (by intro e; apply hne; cases e; rfl)]
  refine ⟨⟨hs1.trans hs2, fun j hj => ?_, fun j => by rw [World.frozen?_setCell, ← hw1, World.frozen?_setCell]⟩, rfl, hcd2.reP (fun _ => .inl (hof.1 rfl)) (fun b hb => ?_), ⟨[v], his _ _, fun j u hu => ?_⟩, fun j hj => ?_, fun j => ?_⟩
  · rw [← hcell j] at hj
    obtain ⟨x, hx⟩ := Option.isSome_iff_exists.1 hj
    by_cases e : j = o
    · subst e; rw [World.cell?_setCell_same w1 ⟨g, j, none⟩ _ hx]; rfl
    · rw [World.cell?_setCell_other _ _ _ _ (by intro e2; cases e2; exact e rfl)]; exact hj
  · rcases hb with hb | ⟨_, h1, h2⟩
    · exact .inl hb
    · exact absurd h2 (by have : (w1.setCell ⟨g, o, none⟩ v).heap.size = w.heap.size := by rw [← hw1]; simp [World.setCell]
                          omega)
  · obtain rfl : j = 0 := by
      have := (List.getElem?_eq_some_iff.1 hu).1
      simp at this; exact this
    obtain rfl : v = u := by simpa using hu
    rw [← hcell o] at hc
    obtain ⟨x, hx⟩ := Option.isSome_iff_exists.1 hc
    exact World.cell?_setCell_same w1 ⟨g, o, none⟩ _ hx
  · rw [hsz] at hj
    rw [World.cell?_setCell_other _ _ _ _ (by intro e; cases e; omega)]
    exact hcell j
  · rw [World.frozen?_setCell, ← hw1, World.frozen?_setCell]
/-- the end of what was written -/
theorem coded_wrote {α : Type} {P N : Nat → Prop} {gc : Nat} {sb : Src} {f : ByteArray} {g o : Nat} {l' : List Nat} {k : Kd α} (hk : k.Fine) {a : α} {cs : List Value} {w w' : World} (hcd : CdIs w' false P gc sb f l') (hs : Safe P w w') (hg : P g)
    (hN : ∀ b, N b → P b) (his : k.is w N cs a) (hcs : Cells w g o cs) : Coded false P N gc sb f g o k w (some (l', a)) (.returned (.tuple #[])) w' :=
  ⟨SafeK.in_ hs hg, rfl, hcd.reP (fun hm => by cases hm) (fun b hb => by
    rcases hb with hb | ⟨h, _⟩
    · exact .inl hb
    · cases h), ⟨cs, hk.mono _ _ _ _ _ (hk.safe _ _ _ _ _ _ his hs hN) (fun b hb => .inl hb), hcs.safe hs hg⟩, fun j _ => hs.cell (a := ⟨g, j, none⟩) hg, fun j => World.frozen?_of_block (w := w) (a := ⟨g, j, none⟩) (hs.block g hg)⟩
theorem coded_gave {α : Type} {md : Bool} {P N : Nat → Prop} {gc : Nat} {sb : Src} {f : ByteArray} {g o : Nat} {k : Kd α} {w w' : World} {e : Ending} (h : Gave md f e w w') (hs : SafeK P g w w') : Coded (α := α) md P N gc sb f g o k w none e w' := ⟨hs, h⟩
theorem num_w {size most l a} (h : a ≤ most) : step (num' size most) false l a = some (l ++ le size a, a) := by
  rw [step_w]; show (if decide (a ≤ most) = true then _ else _) = _; rw [if_pos (by simpa using h)]; rfl
theorem num_w_no {size most l a} (h : most < a) : step (num' size most) false l a = none := by
  rw [step_w]; show (if decide (a ≤ most) = true then _ else _) = _; rw [if_neg (by simp; omega)]
theorem num_r {size most : Nat} {l : List Nat} {a : Nat} (h1 : size ≤ l.length) (h2 : unle (l.take size) ≤ most) : step (num' size most) true l a = some (l.drop size, unle (l.take size)) := by
  rw [step_r]; show Option.map _ (if l.length < size then none else if unle (l.take size) ≤ most then some (unle (l.take size), l.drop size) else none) = _
  rw [if_neg (by omega), if_pos h2]; rfl
theorem num_r_long {size most : Nat} {l : List Nat} {a : Nat} (h1 : l.length < size) : step (num' size most) true l a = none := by
  rw [step_r]; show Option.map _ (if l.length < size then none else if unle (l.take size) ≤ most then some (unle (l.take size), l.drop size) else none) = _
  rw [if_pos h1]; rfl
theorem num_r_most {size most : Nat} {l : List Nat} {a : Nat} (h1 : size ≤ l.length) (h2 : most < unle (l.take size)) : step (num' size most) true l a = none := by
  rw [step_r]; show Option.map _ (if l.length < size then none else if unle (l.take size) ≤ most then some (unle (l.take size), l.drop size) else none) = _
  rw [if_neg (by omega), if_neg (by omega)]; rfl
theorem whole_w_no {size most : Nat} {l : List Nat} {a : Int} (h : a < 0 ∨ (most : Int) < a) : step (whole size most) false l a = none := by
  rw [step_w, whole_ok, if_neg (by simp; omega)]
theorem whole_any {size most : Nat} {md : Bool} {l : List Nat} {a : Int} {v : Nat} (h : md = true ∨ a = v) : step (whole size most) md l a = (step (num' size most) md l v).map fun p => (p.1, (p.2 : Int)) := by
  rcases h with rfl | rfl
  · rw [← step_whole]; rfl
  · exact step_whole _ _ _ _ _

set_option maxHeartbeats 4000000 in
theorem numint_codes (size most : Nat) (hs : size ≤ 8) (hm : most < 9223372036854775808) : Codes 149 [.int .i64 (size : Int), .int .u64 (most : Int)] (intK size most) 8 := by
  intro md P N gc sb f l g o cs a w hcd hz his hcs hN hw hr hg hne hl
  have hp := hcs 0 _ (by rw [his.1]; rfl)
  simp only [Nat.add_zero] at hp
  have ha := his.2
  show Calls _ _ #[.pointer (some ⟨gc, 0, none⟩), .pointer (some ⟨g, o, none⟩), .int .i64 (size : Int), .int .u64 (most : Int)] w (Coded md P N gc sb f g o (intK size most) w (step (whole size most) md l a))
  obtain ⟨ao, n, cap, hat, hof⟩ := hcd
  have c0 := hat.c0
  cases md
  · by_cases hneg : a < 0
    · rw [whole_w_no (.inl hneg)]
      have NO := Lib.hid (need_no gc false f w hat.c0 hat.c2)
      have HP := Lib.hid (fun b hb => (hof.2 b hb).1)
      have hb := ha.1
      have hu : IntKind.u64.wrap a = a + 18446744073709551616 := by show a % 18446744073709551616 = _; omega
      have hd : decide (a + 18446744073709551616 ≤ (most : Int)) = false := decide_eq_false (by omega)
      clear hat hof his hcs hz hw hr hN
      go_enter Tryz.func149, Tryz.ntmps149
      go_wp2_with fail
      refine NO.out.mono ?_
      intro e w' h
      cases e <;> first | (exact ⟨rfl, coded_gave h.gave (h.safeK HP.out hg)⟩) | (cases h.1)
    · obtain ⟨v, rfl⟩ := Int.eq_ofNat_of_zero_le (by omega : 0 ≤ a)
      rw [whole_any (v := v) (.inr rfl)]
      have hv : v ≤ 9223372036854775807 := by have := ha.2; omega
      by_cases hok : v ≤ most
      · rw [num_w hok]
        have YES := Lib.hid (need_yes gc w)
        have AP := Lib.hid (appendnumber_any P gc sb f l v (by omega) size hs (by omega) w ⟨ao, n, cap, hat, hof⟩)
        have HE := Lib.hid (fun w' hcd' hs' => coded_wrote (sb := sb) (f := f) (gc := gc) (l' := l ++ le size v) (intK_fine size most) (w' := w') hcd' hs' (hw rfl) hN his hcs)
        have hd : decide ((v : Int) ≤ (most : Int)) = true := decide_eq_true (by omega)
        clear hat hof his hcs hz hw hr hN ha
        go_enter Tryz.func149, Tryz.ntmps149
        go_wp2_with fail
        refine YES.out.mono ?_
        rintro e w' ⟨rfl, rfl⟩
        go_wp2_with fail
        refine AP.out.mono ?_
        rintro e w' ⟨rfl, h1, h2⟩
        go_wp2_with fail
        go_end0
        exact HE.out w' h1 h2
      · rw [num_w_no (by omega)]
        have NO := Lib.hid (need_no gc false f w hat.c0 hat.c2)
        have HP := Lib.hid (fun b hb => (hof.2 b hb).1)
        have hd : decide (v ≤ most) = false := decide_eq_false hok
        clear hat hof his hcs hz hw hr hN ha
        go_enter Tryz.func149, Tryz.ntmps149
        go_wp2_with fail
        refine NO.out.mono ?_
        intro e w' h
        cases e <;> first | (exact ⟨rfl, coded_gave h.gave (h.safeK HP.out hg)⟩) | (cases h.1)
  · rw [whole_any (v := 0) (.inl rfl)]
    have hlen := hat.len
    have hf0 := (hr rfl).2 o
    by_cases hsz : size ≤ n
    · have hvb : unle (l.take size) < 18446744073709551616 := by
        have h1 := unle_lt (l.take size) (Bytes.take (hat.rd rfl).1.lt size)
        have h2 : (l.take size).length = size := by simp; omega
        have h3 : 256 ^ size ≤ 256 ^ 8 := Nat.pow_le_pow_right (by omega) hs
        rw [h2] at h1
        omega
      have hcut := hat.cut size hsz
      have TN := Lib.hid (takenumber_yes gc sb f ao n cap l size hsz hs w hat)
      have S1 := Lib.hid (show SafeK P g w (w.setCell ⟨gc, 1, none⟩ (.slice (sh ao cap size) (n - size) (cap - size))) from SafeK.of (Safe.put (fun b hb => by
        rcases hb with hb | rfl
        · exact ⟨(hof.2 b hb).1, (hof.2 b hb).2.1⟩
        · exact ⟨hg, hne⟩) _))
      have hp1 : (w.setCell ⟨gc, 1, none⟩ (.slice (sh ao cap size) (n - size) (cap - size))).cell? ⟨g, o, none⟩ = some (.int .i64 a) := by
        rw [World.cell?_setCell_other _ _ _ _ (by intro e; apply hne; cases e; rfl)]; exact hp
      have hf1 : (w.setCell ⟨gc, 1, none⟩ (.slice (sh ao cap size) (n - size) (cap - size))).frozen? ⟨g, o, none⟩ = false := by rw [World.frozen?_setCell]; exact hf0
      by_cases hok : unle (l.take size) ≤ most
      · rw [num_r (by omega) hok]
        have HE := Lib.hid (coded_read (N := N) (k := intK size most) (o := o) (a := ((unle (l.take size) : Nat) : Int)) (v := .int .i64 ((unle (l.take size) : Nat) : Int)) hat hof (hr rfl).1 hne hg size hsz (by rw [hp]; rfl) rfl (fun w N => ⟨rfl, by unfold I64; omega⟩))
        have YES := Lib.hid (fun w => need_yes gc w)
        simp only [Option.map_some]
        clear hat hof his hcs hz hw hr hN ha hcut hp hf0 S1
        generalize w.setCell ⟨gc, 1, none⟩ _ = w1 at *
        generalize unle (l.take size) = v at *
        have hd : decide (v ≤ most) = true := decide_eq_true hok
        go_enter Tryz.func149, Tryz.ntmps149
        go_wp2_with fail
        refine TN.out.mono ?_
        rintro e w' ⟨rfl, rfl⟩
        go_wp2_with fail
        refine (YES.out _).mono ?_
        rintro e w' ⟨rfl, rfl⟩
        go_wp2_with fail
        go_end0
        exact HE.out
      · rw [num_r_most (by omega) (by omega)]
        have NO := Lib.hid (need_no gc true f _ hcut.c0 hcut.c2)
        have HP := Lib.hid (fun b hb => (hof.2 b hb).1)
        clear hat hof his hcs hz hw hr hN ha hcut hp hf0
        generalize w.setCell ⟨gc, 1, none⟩ _ = w1 at *
        generalize unle (l.take size) = v at *
        have hd : decide (v ≤ most) = false := decide_eq_false hok
        go_enter Tryz.func149, Tryz.ntmps149
        go_wp2_with fail
        refine TN.out.mono ?_
        rintro e w' ⟨rfl, rfl⟩
        go_wp2_with fail
        refine NO.out.mono ?_
        intro e w' h
        cases e <;> first | (exact ⟨rfl, coded_gave (h.gave.from S1.out.size) (S1.out.trans (h.safeK (fun b hb => Nat.lt_of_lt_of_le (HP.out b hb) S1.out.size) (Nat.lt_of_lt_of_le hg S1.out.size)))⟩) | (cases h.1)
    · rw [num_r_long (by omega)]
      have TN := Lib.hid (takenumber_no gc sb f ao n cap l size (by omega) w hat)
      have HP := Lib.hid (fun b hb => (hof.2 b hb).1)
      clear hat hof his hcs hz hw hr hN ha hp hf0
      go_enter Tryz.func149, Tryz.ntmps149
      go_wp2_with fail
      refine TN.out.mono ?_
      intro e w' h
      cases e <;> first | (exact ⟨rfl, coded_gave h.gave (h.safeK HP.out hg)⟩) | (cases h.1)

set_option maxHeartbeats 4000000 in
theorem numvote_codes (size most : Nat) (hs : size ≤ 8) (hm : most < 9223372036854775808) : Codes 163 [.int .i64 (size : Int), .int .u64 (most : Int)] (intK size most) 8 := by
  intro md P N gc sb f l g o cs a w hcd hz his hcs hN hw hr hg hne hl
  have hp := hcs 0 _ (by rw [his.1]; rfl)
  simp only [Nat.add_zero] at hp
  have ha := his.2
  show Calls _ _ #[.pointer (some ⟨gc, 0, none⟩), .pointer (some ⟨g, o, none⟩), .int .i64 (size : Int), .int .u64 (most : Int)] w (Coded md P N gc sb f g o (intK size most) w (step (whole size most) md l a))
  obtain ⟨ao, n, cap, hat, hof⟩ := hcd
  have c0 := hat.c0
  cases md
  · by_cases hneg : a < 0
    · rw [whole_w_no (.inl hneg)]
      have NO := Lib.hid (need_no gc false f w hat.c0 hat.c2)
      have HP := Lib.hid (fun b hb => (hof.2 b hb).1)
      have hb := ha.1
      have hu : IntKind.u64.wrap a = a + 18446744073709551616 := by show a % 18446744073709551616 = _; omega
      have hd : decide (a + 18446744073709551616 ≤ (most : Int)) = false := decide_eq_false (by omega)
      clear hat hof his hcs hz hw hr hN
      go_enter Tryz.func163, Tryz.ntmps163
      go_wp2_with fail
      refine NO.out.mono ?_
      intro e w' h
      cases e <;> first | (exact ⟨rfl, coded_gave h.gave (h.safeK HP.out hg)⟩) | (cases h.1)
    · obtain ⟨v, rfl⟩ := Int.eq_ofNat_of_zero_le (by omega : 0 ≤ a)
      rw [whole_any (v := v) (.inr rfl)]
      have hv : v ≤ 9223372036854775807 := by have := ha.2; omega
      by_cases hok : v ≤ most
      · rw [num_w hok]
        have YES := Lib.hid (need_yes gc w)
        have AP := Lib.hid (appendnumber_any P gc sb f l v (by omega) size hs (by omega) w ⟨ao, n, cap, hat, hof⟩)
        have HE := Lib.hid (fun w' hcd' hs' => coded_wrote (sb := sb) (f := f) (gc := gc) (l' := l ++ le size v) (intK_fine size most) (w' := w') hcd' hs' (hw rfl) hN his hcs)
        have hd : decide ((v : Int) ≤ (most : Int)) = true := decide_eq_true (by omega)
        clear hat hof his hcs hz hw hr hN ha
        go_enter Tryz.func163, Tryz.ntmps163
        go_wp2_with fail
        refine YES.out.mono ?_
        rintro e w' ⟨rfl, rfl⟩
        go_wp2_with fail
        refine AP.out.mono ?_
        rintro e w' ⟨rfl, h1, h2⟩
        go_wp2_with fail
        go_end0
        exact HE.out w' h1 h2
      · rw [num_w_no (by omega)]
        have NO := Lib.hid (need_no gc false f w hat.c0 hat.c2)
        have HP := Lib.hid (fun b hb => (hof.2 b hb).1)
        have hd : decide (v ≤ most) = false := decide_eq_false hok
        clear hat hof his hcs hz hw hr hN ha
        go_enter Tryz.func163, Tryz.ntmps163
        go_wp2_with fail
        refine NO.out.mono ?_
        intro e w' h
        cases e <;> first | (exact ⟨rfl, coded_gave h.gave (h.safeK HP.out hg)⟩) | (cases h.1)
  · rw [whole_any (v := 0) (.inl rfl)]
    have hlen := hat.len
    have hf0 := (hr rfl).2 o
    by_cases hsz : size ≤ n
    · have hvb : unle (l.take size) < 18446744073709551616 := by
        have h1 := unle_lt (l.take size) (Bytes.take (hat.rd rfl).1.lt size)
        have h2 : (l.take size).length = size := by simp; omega
        have h3 : 256 ^ size ≤ 256 ^ 8 := Nat.pow_le_pow_right (by omega) hs
        rw [h2] at h1
        omega
      have hcut := hat.cut size hsz
      have TN := Lib.hid (takenumber_yes gc sb f ao n cap l size hsz hs w hat)
      have S1 := Lib.hid (show SafeK P g w (w.setCell ⟨gc, 1, none⟩ (.slice (sh ao cap size) (n - size) (cap - size))) from SafeK.of (Safe.put (fun b hb => by
        rcases hb with hb | rfl
        · exact ⟨(hof.2 b hb).1, (hof.2 b hb).2.1⟩
        · exact ⟨hg, hne⟩) _))
      have hp1 : (w.setCell ⟨gc, 1, none⟩ (.slice (sh ao cap size) (n - size) (cap - size))).cell? ⟨g, o, none⟩ = some (.int .i64 a) := by
        rw [World.cell?_setCell_other _ _ _ _ (by intro e; apply hne; cases e; rfl)]; exact hp
      have hf1 : (w.setCell ⟨gc, 1, none⟩ (.slice (sh ao cap size) (n - size) (cap - size))).frozen? ⟨g, o, none⟩ = false := by rw [World.frozen?_setCell]; exact hf0
      by_cases hok : unle (l.take size) ≤ most
      · rw [num_r (by omega) hok]
        have HE := Lib.hid (coded_read (N := N) (k := intK size most) (o := o) (a := ((unle (l.take size) : Nat) : Int)) (v := .int .i64 ((unle (l.take size) : Nat) : Int)) hat hof (hr rfl).1 hne hg size hsz (by rw [hp]; rfl) rfl (fun w N => ⟨rfl, by unfold I64; omega⟩))
        have YES := Lib.hid (fun w => need_yes gc w)
        simp only [Option.map_some]
        clear hat hof his hcs hz hw hr hN ha hcut hp hf0 S1
        generalize w.setCell ⟨gc, 1, none⟩ _ = w1 at *
        generalize unle (l.take size) = v at *
        have hd : decide (v ≤ most) = true := decide_eq_true hok
        go_enter Tryz.func163, Tryz.ntmps163
        go_wp2_with fail
        refine TN.out.mono ?_
        rintro e w' ⟨rfl, rfl⟩
        go_wp2_with fail
        refine (YES.out _).mono ?_
        rintro e w' ⟨rfl, rfl⟩
        go_wp2_with fail
        go_end0
        exact HE.out
      · rw [num_r_most (by omega) (by omega)]
        have NO := Lib.hid (need_no gc true f _ hcut.c0 hcut.c2)
        have HP := Lib.hid (fun b hb => (hof.2 b hb).1)
        clear hat hof his hcs hz hw hr hN ha hcut hp hf0
        generalize w.setCell ⟨gc, 1, none⟩ _ = w1 at *
        generalize unle (l.take size) = v at *
        have hd : decide (v ≤ most) = false := decide_eq_false hok
        go_enter Tryz.func163, Tryz.ntmps163
        go_wp2_with fail
        refine TN.out.mono ?_
        rintro e w' ⟨rfl, rfl⟩
        go_wp2_with fail
        refine NO.out.mono ?_
        intro e w' h
        cases e <;> first | (exact ⟨rfl, coded_gave (h.gave.from S1.out.size) (S1.out.trans (h.safeK (fun b hb => Nat.lt_of_lt_of_le (HP.out b hb) S1.out.size) (Nat.lt_of_lt_of_le hg S1.out.size)))⟩) | (cases h.1)
    · rw [num_r_long (by omega)]
      have TN := Lib.hid (takenumber_no gc sb f ao n cap l size (by omega) w hat)
      have HP := Lib.hid (fun b hb => (hof.2 b hb).1)
      clear hat hof his hcs hz hw hr hN ha hp hf0
      go_enter Tryz.func163, Tryz.ntmps163
      go_wp2_with fail
      refine TN.out.mono ?_
      intro e w' h
      cases e <;> first | (exact ⟨rfl, coded_gave h.gave (h.safeK HP.out hg)⟩) | (cases h.1)

set_option maxHeartbeats 4000000 in
theorem numstate_codes (size most : Nat) (hs : size ≤ 8) (hm : most < 9223372036854775808) : Codes 165 [.int .i64 (size : Int), .int .u64 (most : Int)] (intK size most) 8 := by
  intro md P N gc sb f l g o cs a w hcd hz his hcs hN hw hr hg hne hl
  have hp := hcs 0 _ (by rw [his.1]; rfl)
  simp only [Nat.add_zero] at hp
  have ha := his.2
  show Calls _ _ #[.pointer (some ⟨gc, 0, none⟩), .pointer (some ⟨g, o, none⟩), .int .i64 (size : Int), .int .u64 (most : Int)] w (Coded md P N gc sb f g o (intK size most) w (step (whole size most) md l a))
  obtain ⟨ao, n, cap, hat, hof⟩ := hcd
  have c0 := hat.c0
  cases md
  · by_cases hneg : a < 0
    · rw [whole_w_no (.inl hneg)]
      have NO := Lib.hid (need_no gc false f w hat.c0 hat.c2)
      have HP := Lib.hid (fun b hb => (hof.2 b hb).1)
      have hb := ha.1
      have hu : IntKind.u64.wrap a = a + 18446744073709551616 := by show a % 18446744073709551616 = _; omega
      have hd : decide (a + 18446744073709551616 ≤ (most : Int)) = false := decide_eq_false (by omega)
      clear hat hof his hcs hz hw hr hN
      go_enter Tryz.func165, Tryz.ntmps165
      go_wp2_with fail
      refine NO.out.mono ?_
      intro e w' h
      cases e <;> first | (exact ⟨rfl, coded_gave h.gave (h.safeK HP.out hg)⟩) | (cases h.1)
    · obtain ⟨v, rfl⟩ := Int.eq_ofNat_of_zero_le (by omega : 0 ≤ a)
      rw [whole_any (v := v) (.inr rfl)]
      have hv : v ≤ 9223372036854775807 := by have := ha.2; omega
      by_cases hok : v ≤ most
      · rw [num_w hok]
        have YES := Lib.hid (need_yes gc w)
        have AP := Lib.hid (appendnumber_any P gc sb f l v (by omega) size hs (by omega) w ⟨ao, n, cap, hat, hof⟩)
        have HE := Lib.hid (fun w' hcd' hs' => coded_wrote (sb := sb) (f := f) (gc := gc) (l' := l ++ le size v) (intK_fine size most) (w' := w') hcd' hs' (hw rfl) hN his hcs)
        have hd : decide ((v : Int) ≤ (most : Int)) = true := decide_eq_true (by omega)
        clear hat hof his hcs hz hw hr hN ha
        go_enter Tryz.func165, Tryz.ntmps165
        go_wp2_with fail
        refine YES.out.mono ?_
        rintro e w' ⟨rfl, rfl⟩
        go_wp2_with fail
        refine AP.out.mono ?_
        rintro e w' ⟨rfl, h1, h2⟩
        go_wp2_with fail
        go_end0
        exact HE.out w' h1 h2
      · rw [num_w_no (by omega)]
        have NO := Lib.hid (need_no gc false f w hat.c0 hat.c2)
        have HP := Lib.hid (fun b hb => (hof.2 b hb).1)
        have hd : decide (v ≤ most) = false := decide_eq_false hok
        clear hat hof his hcs hz hw hr hN ha
        go_enter Tryz.func165, Tryz.ntmps165
        go_wp2_with fail
        refine NO.out.mono ?_
        intro e w' h
        cases e <;> first | (exact ⟨rfl, coded_gave h.gave (h.safeK HP.out hg)⟩) | (cases h.1)
  · rw [whole_any (v := 0) (.inl rfl)]
    have hlen := hat.len
    have hf0 := (hr rfl).2 o
    by_cases hsz : size ≤ n
    · have hvb : unle (l.take size) < 18446744073709551616 := by
        have h1 := unle_lt (l.take size) (Bytes.take (hat.rd rfl).1.lt size)
        have h2 : (l.take size).length = size := by simp; omega
        have h3 : 256 ^ size ≤ 256 ^ 8 := Nat.pow_le_pow_right (by omega) hs
        rw [h2] at h1
        omega
      have hcut := hat.cut size hsz
      have TN := Lib.hid (takenumber_yes gc sb f ao n cap l size hsz hs w hat)
      have S1 := Lib.hid (show SafeK P g w (w.setCell ⟨gc, 1, none⟩ (.slice (sh ao cap size) (n - size) (cap - size))) from SafeK.of (Safe.put (fun b hb => by
        rcases hb with hb | rfl
        · exact ⟨(hof.2 b hb).1, (hof.2 b hb).2.1⟩
        · exact ⟨hg, hne⟩) _))
      have hp1 : (w.setCell ⟨gc, 1, none⟩ (.slice (sh ao cap size) (n - size) (cap - size))).cell? ⟨g, o, none⟩ = some (.int .i64 a) := by
        rw [World.cell?_setCell_other _ _ _ _ (by intro e; apply hne; cases e; rfl)]; exact hp
      have hf1 : (w.setCell ⟨gc, 1, none⟩ (.slice (sh ao cap size) (n - size) (cap - size))).frozen? ⟨g, o, none⟩ = false := by rw [World.frozen?_setCell]; exact hf0
      by_cases hok : unle (l.take size) ≤ most
      · rw [num_r (by omega) hok]
        have HE := Lib.hid (coded_read (N := N) (k := intK size most) (o := o) (a := ((unle (l.take size) : Nat) : Int)) (v := .int .i64 ((unle (l.take size) : Nat) : Int)) hat hof (hr rfl).1 hne hg size hsz (by rw [hp]; rfl) rfl (fun w N => ⟨rfl, by unfold I64; omega⟩))
        have YES := Lib.hid (fun w => need_yes gc w)
        simp only [Option.map_some]
        clear hat hof his hcs hz hw hr hN ha hcut hp hf0 S1
        generalize w.setCell ⟨gc, 1, none⟩ _ = w1 at *
        generalize unle (l.take size) = v at *
        have hd : decide (v ≤ most) = true := decide_eq_true hok
        go_enter Tryz.func165, Tryz.ntmps165
        go_wp2_with fail
        refine TN.out.mono ?_
        rintro e w' ⟨rfl, rfl⟩
        go_wp2_with fail
        refine (YES.out _).mono ?_
        rintro e w' ⟨rfl, rfl⟩
        go_wp2_with fail
        go_end0
        exact HE.out
      · rw [num_r_most (by omega) (by omega)]
        have NO := Lib.hid (need_no gc true f _ hcut.c0 hcut.c2)
        have HP := Lib.hid (fun b hb => (hof.2 b hb).1)
        clear hat hof his hcs hz hw hr hN ha hcut hp hf0
        generalize w.setCell ⟨gc, 1, none⟩ _ = w1 at *
        generalize unle (l.take size) = v at *
        have hd : decide (v ≤ most) = false := decide_eq_false hok
        go_enter Tryz.func165, Tryz.ntmps165
        go_wp2_with fail
        refine TN.out.mono ?_
        rintro e w' ⟨rfl, rfl⟩
        go_wp2_with fail
        refine NO.out.mono ?_
        intro e w' h
        cases e <;> first | (exact ⟨rfl, coded_gave (h.gave.from S1.out.size) (S1.out.trans (h.safeK (fun b hb => Nat.lt_of_lt_of_le (HP.out b hb) S1.out.size) (Nat.lt_of_lt_of_le hg S1.out.size)))⟩) | (cases h.1)
    · rw [num_r_long (by omega)]
      have TN := Lib.hid (takenumber_no gc sb f ao n cap l size (by omega) w hat)
      have HP := Lib.hid (fun b hb => (hof.2 b hb).1)
      clear hat hof his hcs hz hw hr hN ha hp hf0
      go_enter Tryz.func165, Tryz.ntmps165
      go_wp2_with fail
      refine TN.out.mono ?_
      intro e w' h
      cases e <;> first | (exact ⟨rfl, coded_gave h.gave (h.safeK HP.out hg)⟩) | (cases h.1)

set_option maxHeartbeats 4000000 in
theorem numdecree_codes (size most : Nat) (hs : size ≤ 8) (hm : most < 9223372036854775808) : Codes 85 [.int .i64 (size : Int), .int .u64 (most : Int)] (intK size most) 8 := by
  intro md P N gc sb f l g o cs a w hcd hz his hcs hN hw hr hg hne hl
  have hp := hcs 0 _ (by rw [his.1]; rfl)
  simp only [Nat.add_zero] at hp
  have ha := his.2
  show Calls _ _ #[.pointer (some ⟨gc, 0, none⟩), .pointer (some ⟨g, o, none⟩), .int .i64 (size : Int), .int .u64 (most : Int)] w (Coded md P N gc sb f g o (intK size most) w (step (whole size most) md l a))
  obtain ⟨ao, n, cap, hat, hof⟩ := hcd
  have c0 := hat.c0
  cases md
  · by_cases hneg : a < 0
    · rw [whole_w_no (.inl hneg)]
      have NO := Lib.hid (need_no gc false f w hat.c0 hat.c2)
      have HP := Lib.hid (fun b hb => (hof.2 b hb).1)
      have hb := ha.1
      have hu : IntKind.u64.wrap a = a + 18446744073709551616 := by show a % 18446744073709551616 = _; omega
      have hd : decide (a + 18446744073709551616 ≤ (most : Int)) = false := decide_eq_false (by omega)
      clear hat hof his hcs hz hw hr hN
      go_enter Tryz.func85, Tryz.ntmps85
      go_wp2_with fail
      refine NO.out.mono ?_
      intro e w' h
      cases e <;> first | (exact ⟨rfl, coded_gave h.gave (h.safeK HP.out hg)⟩) | (cases h.1)
    · obtain ⟨v, rfl⟩ := Int.eq_ofNat_of_zero_le (by omega : 0 ≤ a)
      rw [whole_any (v := v) (.inr rfl)]
      have hv : v ≤ 9223372036854775807 := by have := ha.2; omega
      by_cases hok : v ≤ most
      · rw [num_w hok]
        have YES := Lib.hid (need_yes gc w)
        have AP := Lib.hid (appendnumber_any P gc sb f l v (by omega) size hs (by omega) w ⟨ao, n, cap, hat, hof⟩)
        have HE := Lib.hid (fun w' hcd' hs' => coded_wrote (sb := sb) (f := f) (gc := gc) (l' := l ++ le size v) (intK_fine size most) (w' := w') hcd' hs' (hw rfl) hN his hcs)
        have hd : decide ((v : Int) ≤ (most : Int)) = true := decide_eq_true (by omega)
        clear hat hof his hcs hz hw hr hN ha
        go_enter Tryz.func85, Tryz.ntmps85
        go_wp2_with fail
        refine YES.out.mono ?_
        rintro e w' ⟨rfl, rfl⟩
        go_wp2_with fail
        refine AP.out.mono ?_
        rintro e w' ⟨rfl, h1, h2⟩
        go_wp2_with fail
        go_end0
        exact HE.out w' h1 h2
      · rw [num_w_no (by omega)]
        have NO := Lib.hid (need_no gc false f w hat.c0 hat.c2)
        have HP := Lib.hid (fun b hb => (hof.2 b hb).1)
        have hd : decide (v ≤ most) = false := decide_eq_false hok
        clear hat hof his hcs hz hw hr hN ha
        go_enter Tryz.func85, Tryz.ntmps85
        go_wp2_with fail
        refine NO.out.mono ?_
        intro e w' h
        cases e <;> first | (exact ⟨rfl, coded_gave h.gave (h.safeK HP.out hg)⟩) | (cases h.1)
  · rw [whole_any (v := 0) (.inl rfl)]
    have hlen := hat.len
    have hf0 := (hr rfl).2 o
    by_cases hsz : size ≤ n
    · have hvb : unle (l.take size) < 18446744073709551616 := by
        have h1 := unle_lt (l.take size) (Bytes.take (hat.rd rfl).1.lt size)
        have h2 : (l.take size).length = size := by simp; omega
        have h3 : 256 ^ size ≤ 256 ^ 8 := Nat.pow_le_pow_right (by omega) hs
        rw [h2] at h1
        omega
      have hcut := hat.cut size hsz
      have TN := Lib.hid (takenumber_yes gc sb f ao n cap l size hsz hs w hat)
      have S1 := Lib.hid (show SafeK P g w (w.setCell ⟨gc, 1, none⟩ (.slice (sh ao cap size) (n - size) (cap - size))) from SafeK.of (Safe.put (fun b hb => by
        rcases hb with hb | rfl
        · exact ⟨(hof.2 b hb).1, (hof.2 b hb).2.1⟩
        · exact ⟨hg, hne⟩) _))
      have hp1 : (w.setCell ⟨gc, 1, none⟩ (.slice (sh ao cap size) (n - size) (cap - size))).cell? ⟨g, o, none⟩ = some (.int .i64 a) := by
        rw [World.cell?_setCell_other _ _ _ _ (by intro e; apply hne; cases e; rfl)]; exact hp
      have hf1 : (w.setCell ⟨gc, 1, none⟩ (.slice (sh ao cap size) (n - size) (cap - size))).frozen? ⟨g, o, none⟩ = false := by rw [World.frozen?_setCell]; exact hf0
      by_cases hok : unle (l.take size) ≤ most
      · rw [num_r (by omega) hok]
        have HE := Lib.hid (coded_read (N := N) (k := intK size most) (o := o) (a := ((unle (l.take size) : Nat) : Int)) (v := .int .i64 ((unle (l.take size) : Nat) : Int)) hat hof (hr rfl).1 hne hg size hsz (by rw [hp]; rfl) rfl (fun w N => ⟨rfl, by unfold I64; omega⟩))
        have YES := Lib.hid (fun w => need_yes gc w)
        simp only [Option.map_some]
        clear hat hof his hcs hz hw hr hN ha hcut hp hf0 S1
        generalize w.setCell ⟨gc, 1, none⟩ _ = w1 at *
        generalize unle (l.take size) = v at *
        have hd : decide (v ≤ most) = true := decide_eq_true hok
        go_enter Tryz.func85, Tryz.ntmps85
        go_wp2_with fail
        refine TN.out.mono ?_
        rintro e w' ⟨rfl, rfl⟩
        go_wp2_with fail
        refine (YES.out _).mono ?_
        rintro e w' ⟨rfl, rfl⟩
        go_wp2_with fail
        go_end0
        exact HE.out
      · rw [num_r_most (by omega) (by omega)]
        have NO := Lib.hid (need_no gc true f _ hcut.c0 hcut.c2)
        have HP := Lib.hid (fun b hb => (hof.2 b hb).1)
        clear hat hof his hcs hz hw hr hN ha hcut hp hf0
        generalize w.setCell ⟨gc, 1, none⟩ _ = w1 at *
        generalize unle (l.take size) = v at *
        have hd : decide (v ≤ most) = false := decide_eq_false hok
        go_enter Tryz.func85, Tryz.ntmps85
        go_wp2_with fail
        refine TN.out.mono ?_
        rintro e w' ⟨rfl, rfl⟩
        go_wp2_with fail
        refine NO.out.mono ?_
        intro e w' h
        cases e <;> first | (exact ⟨rfl, coded_gave (h.gave.from S1.out.size) (S1.out.trans (h.safeK (fun b hb => Nat.lt_of_lt_of_le (HP.out b hb) S1.out.size) (Nat.lt_of_lt_of_le hg S1.out.size)))⟩) | (cases h.1)
    · rw [num_r_long (by omega)]
      have TN := Lib.hid (takenumber_no gc sb f ao n cap l size (by omega) w hat)
      have HP := Lib.hid (fun b hb => (hof.2 b hb).1)
      clear hat hof his hcs hz hw hr hN ha hp hf0
      go_enter Tryz.func85, Tryz.ntmps85
      go_wp2_with fail
      refine TN.out.mono ?_
      intro e w' h
      cases e <;> first | (exact ⟨rfl, coded_gave h.gave (h.safeK HP.out hg)⟩) | (cases h.1)

set_option maxHeartbeats 4000000 in
theorem numu8_codes (size most : Nat) (hs : size ≤ 8) (hm : most ≤ 255) : Codes 185 [.int .i64 (size : Int), .int .u64 (most : Int)] (natK .u8 size most) 8 := by
  intro md P N gc sb f l g o cs v w hcd hz his hcs hN hw hr hg hne hl
  have hp := hcs 0 _ (by rw [his.1]; rfl)
  simp only [Nat.add_zero] at hp
  have ha := his.2
  show Calls _ _ #[.pointer (some ⟨gc, 0, none⟩), .pointer (some ⟨g, o, none⟩), .int .i64 (size : Int), .int .u64 (most : Int)] w (Coded md P N gc sb f g o (natK .u8 size most) w (step (num' size most) md l v))
  obtain ⟨ao, n, cap, hat, hof⟩ := hcd
  have c0 := hat.c0
  cases md
  · have hv : v ≤ 255 := by have h9 : (v : Int) ≤ 255 := ha; omega
    by_cases hok : v ≤ most
    · rw [num_w hok]
      have YES := Lib.hid (need_yes gc w)
      have AP := Lib.hid (appendnumber_any P gc sb f l v (by omega) size hs (by omega) w ⟨ao, n, cap, hat, hof⟩)
      have HE := Lib.hid (fun w' hcd' hs' => coded_wrote (sb := sb) (f := f) (gc := gc) (l' := l ++ le size v) (natK_fine .u8 size most) (w' := w') hcd' hs' (hw rfl) hN his hcs)
      have hd : decide (v ≤ most) = true := decide_eq_true hok
      clear hat hof his hcs hz hw hr hN ha
      go_enter Tryz.func185, Tryz.ntmps185
      go_wp2_with fail
      refine YES.out.mono ?_
      rintro e w' ⟨rfl, rfl⟩
      go_wp2_with fail
      refine AP.out.mono ?_
      rintro e w' ⟨rfl, h1, h2⟩
      go_wp2_with fail
      go_end0
      exact HE.out w' h1 h2
    · rw [num_w_no (by omega)]
      have NO := Lib.hid (need_no gc false f w hat.c0 hat.c2)
      have HP := Lib.hid (fun b hb => (hof.2 b hb).1)
      have hd : decide (v ≤ most) = false := decide_eq_false hok
      clear hat hof his hcs hz hw hr hN ha
      go_enter Tryz.func185, Tryz.ntmps185
      go_wp2_with fail
      refine NO.out.mono ?_
      intro e w' h
      cases e <;> first | (exact ⟨rfl, coded_gave h.gave (h.safeK HP.out hg)⟩) | (cases h.1)
  · have hlen := hat.len
    have hf0 := (hr rfl).2 o
    by_cases hsz : size ≤ n
    · have hvb : unle (l.take size) < 18446744073709551616 := by
        have h1 := unle_lt (l.take size) (Bytes.take (hat.rd rfl).1.lt size)
        have h2 : (l.take size).length = size := by simp; omega
        have h3 : 256 ^ size ≤ 256 ^ 8 := Nat.pow_le_pow_right (by omega) hs
        rw [h2] at h1
        omega
      have hcut := hat.cut size hsz
      have TN := Lib.hid (takenumber_yes gc sb f ao n cap l size hsz hs w hat)
      have S1 := Lib.hid (show SafeK P g w (w.setCell ⟨gc, 1, none⟩ (.slice (sh ao cap size) (n - size) (cap - size))) from SafeK.of (Safe.put (fun b hb => by
        rcases hb with hb | rfl
        · exact ⟨(hof.2 b hb).1, (hof.2 b hb).2.1⟩
        · exact ⟨hg, hne⟩) _))
      have hp1 : (w.setCell ⟨gc, 1, none⟩ (.slice (sh ao cap size) (n - size) (cap - size))).cell? ⟨g, o, none⟩ = some (.int .u8 (v : Int)) := by
        rw [World.cell?_setCell_other _ _ _ _ (by intro e; apply hne; cases e; rfl)]; exact hp
      have hf1 : (w.setCell ⟨gc, 1, none⟩ (.slice (sh ao cap size) (n - size) (cap - size))).frozen? ⟨g, o, none⟩ = false := by rw [World.frozen?_setCell]; exact hf0
      by_cases hok : unle (l.take size) ≤ most
      · rw [num_r (by omega) hok]
        have HE := Lib.hid (coded_read (N := N) (k := natK .u8 size most) (o := o) (a := unle (l.take size)) (v := .int .u8 ((unle (l.take size) : Nat) : Int)) hat hof (hr rfl).1 hne hg size hsz (by rw [hp]; rfl) rfl (fun w N => ⟨rfl, by show _ ≤ (255 : Int); omega⟩))
        have YES := Lib.hid (fun w => need_yes gc w)
        clear hat hof his hcs hz hw hr hN ha hcut hp hf0 S1
        generalize w.setCell ⟨gc, 1, none⟩ _ = w1 at *
        generalize unle (l.take size) = v at *
        have hd : decide (v ≤ most) = true := decide_eq_true hok
        go_enter Tryz.func185, Tryz.ntmps185
        go_wp2_with fail
        refine TN.out.mono ?_
        rintro e w' ⟨rfl, rfl⟩
        go_wp2_with fail
        refine (YES.out _).mono ?_
        rintro e w' ⟨rfl, rfl⟩
        go_wp2_with fail
        go_end0
        exact HE.out
      · rw [num_r_most (by omega) (by omega)]
        have NO := Lib.hid (need_no gc true f _ hcut.c0 hcut.c2)
        have HP := Lib.hid (fun b hb => (hof.2 b hb).1)
        clear hat hof his hcs hz hw hr hN ha hcut hp hf0
        generalize w.setCell ⟨gc, 1, none⟩ _ = w1 at *
        generalize unle (l.take size) = v at *
        have hd : decide (v ≤ most) = false := decide_eq_false hok
        go_enter Tryz.func185, Tryz.ntmps185
        go_wp2_with fail
        refine TN.out.mono ?_
        rintro e w' ⟨rfl, rfl⟩
        go_wp2_with fail
        refine NO.out.mono ?_
        intro e w' h
        cases e <;> first | (exact ⟨rfl, coded_gave (h.gave.from S1.out.size) (S1.out.trans (h.safeK (fun b hb => Nat.lt_of_lt_of_le (HP.out b hb) S1.out.size) (Nat.lt_of_lt_of_le hg S1.out.size)))⟩) | (cases h.1)
    · rw [num_r_long (by omega)]
      have TN := Lib.hid (takenumber_no gc sb f ao n cap l size (by omega) w hat)
      have HP := Lib.hid (fun b hb => (hof.2 b hb).1)
      clear hat hof his hcs hz hw hr hN ha hp hf0
      go_enter Tryz.func185, Tryz.ntmps185
      go_wp2_with fail
      refine TN.out.mono ?_
      intro e w' h
      cases e <;> first | (exact ⟨rfl, coded_gave h.gave (h.safeK HP.out hg)⟩) | (cases h.1)

set_option maxHeartbeats 4000000 in
theorem numu32_codes (size most : Nat) (hs : size ≤ 8) (hm : most ≤ 4294967295) : Codes 150 [.int .i64 (size : Int), .int .u64 (most : Int)] (natK .u32 size most) 8 := by
  intro md P N gc sb f l g o cs v w hcd hz his hcs hN hw hr hg hne hl
  have hp := hcs 0 _ (by rw [his.1]; rfl)
  simp only [Nat.add_zero] at hp
  have ha := his.2
  show Calls _ _ #[.pointer (some ⟨gc, 0, none⟩), .pointer (some ⟨g, o, none⟩), .int .i64 (size : Int), .int .u64 (most : Int)] w (Coded md P N gc sb f g o (natK .u32 size most) w (step (num' size most) md l v))
  obtain ⟨ao, n, cap, hat, hof⟩ := hcd
  have c0 := hat.c0
  cases md
  · have hv : v ≤ 4294967295 := by have h9 : (v : Int) ≤ 4294967295 := ha; omega
    by_cases hok : v ≤ most
    · rw [num_w hok]
      have YES := Lib.hid (need_yes gc w)
      have AP := Lib.hid (appendnumber_any P gc sb f l v (by omega) size hs (by omega) w ⟨ao, n, cap, hat, hof⟩)
      have HE := Lib.hid (fun w' hcd' hs' => coded_wrote (sb := sb) (f := f) (gc := gc) (l' := l ++ le size v) (natK_fine .u32 size most) (w' := w') hcd' hs' (hw rfl) hN his hcs)
      have hd : decide (v ≤ most) = true := decide_eq_true hok
      clear hat hof his hcs hz hw hr hN ha
      go_enter Tryz.func150, Tryz.ntmps150
      go_wp2_with fail
      refine YES.out.mono ?_
      rintro e w' ⟨rfl, rfl⟩
      go_wp2_with fail
      refine AP.out.mono ?_
      rintro e w' ⟨rfl, h1, h2⟩
      go_wp2_with fail
      go_end0
      exact HE.out w' h1 h2
    · rw [num_w_no (by omega)]
      have NO := Lib.hid (need_no gc false f w hat.c0 hat.c2)
      have HP := Lib.hid (fun b hb => (hof.2 b hb).1)
      have hd : decide (v ≤ most) = false := decide_eq_false hok
      clear hat hof his hcs hz hw hr hN ha
      go_enter Tryz.func150, Tryz.ntmps150
      go_wp2_with fail
      refine NO.out.mono ?_
      intro e w' h
      cases e <;> first | (exact ⟨rfl, coded_gave h.gave (h.safeK HP.out hg)⟩) | (cases h.1)
  · have hlen := hat.len
    have hf0 := (hr rfl).2 o
    by_cases hsz : size ≤ n
    · have hvb : unle (l.take size) < 18446744073709551616 := by
        have h1 := unle_lt (l.take size) (Bytes.take (hat.rd rfl).1.lt size)
        have h2 : (l.take size).length = size := by simp; omega
        have h3 : 256 ^ size ≤ 256 ^ 8 := Nat.pow_le_pow_right (by omega) hs
        rw [h2] at h1
        omega
      have hcut := hat.cut size hsz
      have TN := Lib.hid (takenumber_yes gc sb f ao n cap l size hsz hs w hat)
      have S1 := Lib.hid (show SafeK P g w (w.setCell ⟨gc, 1, none⟩ (.slice (sh ao cap size) (n - size) (cap - size))) from SafeK.of (Safe.put (fun b hb => by
        rcases hb with hb | rfl
        · exact ⟨(hof.2 b hb).1, (hof.2 b hb).2.1⟩
        · exact ⟨hg, hne⟩) _))
      have hp1 : (w.setCell ⟨gc, 1, none⟩ (.slice (sh ao cap size) (n - size) (cap - size))).cell? ⟨g, o, none⟩ = some (.int .u32 (v : Int)) := by
        rw [World.cell?_setCell_other _ _ _ _ (by intro e; apply hne; cases e; rfl)]; exact hp
      have hf1 : (w.setCell ⟨gc, 1, none⟩ (.slice (sh ao cap size) (n - size) (cap - size))).frozen? ⟨g, o, none⟩ = false := by rw [World.frozen?_setCell]; exact hf0
      by_cases hok : unle (l.take size) ≤ most
      · rw [num_r (by omega) hok]
        have HE := Lib.hid (coded_read (N := N) (k := natK .u32 size most) (o := o) (a := unle (l.take size)) (v := .int .u32 ((unle (l.take size) : Nat) : Int)) hat hof (hr rfl).1 hne hg size hsz (by rw [hp]; rfl) rfl (fun w N => ⟨rfl, by show _ ≤ (4294967295 : Int); omega⟩))
        have YES := Lib.hid (fun w => need_yes gc w)
        clear hat hof his hcs hz hw hr hN ha hcut hp hf0 S1
        generalize w.setCell ⟨gc, 1, none⟩ _ = w1 at *
        generalize unle (l.take size) = v at *
        have hd : decide (v ≤ most) = true := decide_eq_true hok
        go_enter Tryz.func150, Tryz.ntmps150
        go_wp2_with fail
        refine TN.out.mono ?_
        rintro e w' ⟨rfl, rfl⟩
        go_wp2_with fail
        refine (YES.out _).mono ?_
        rintro e w' ⟨rfl, rfl⟩
        go_wp2_with fail
        go_end0
        exact HE.out
      · rw [num_r_most (by omega) (by omega)]
        have NO := Lib.hid (need_no gc true f _ hcut.c0 hcut.c2)
        have HP := Lib.hid (fun b hb => (hof.2 b hb).1)
        clear hat hof his hcs hz hw hr hN ha hcut hp hf0
        generalize w.setCell ⟨gc, 1, none⟩ _ = w1 at *
        generalize unle (l.take size) = v at *
        have hd : decide (v ≤ most) = false := decide_eq_false hok
        go_enter Tryz.func150, Tryz.ntmps150
        go_wp2_with fail
        refine TN.out.mono ?_
        rintro e w' ⟨rfl, rfl⟩
        go_wp2_with fail
        refine NO.out.mono ?_
        intro e w' h
        cases e <;> first | (exact ⟨rfl, coded_gave (h.gave.from S1.out.size) (S1.out.trans (h.safeK (fun b hb => Nat.lt_of_lt_of_le (HP.out b hb) S1.out.size) (Nat.lt_of_lt_of_le hg S1.out.size)))⟩) | (cases h.1)
    · rw [num_r_long (by omega)]
      have TN := Lib.hid (takenumber_no gc sb f ao n cap l size (by omega) w hat)
      have HP := Lib.hid (fun b hb => (hof.2 b hb).1)
      clear hat hof his hcs hz hw hr hN ha hp hf0
      go_enter Tryz.func150, Tryz.ntmps150
      go_wp2_with fail
      refine TN.out.mono ?_
      intro e w' h
      cases e <;> first | (exact ⟨rfl, coded_gave h.gave (h.safeK HP.out hg)⟩) | (cases h.1)

set_option maxHeartbeats 4000000 in
theorem numu64_codes (size most : Nat) (hs : size ≤ 8) (hm : most ≤ 18446744073709551615) : Codes 162 [.int .i64 (size : Int), .int .u64 (most : Int)] (natK .u64 size most) 8 := by
  intro md P N gc sb f l g o cs v w hcd hz his hcs hN hw hr hg hne hl
  have hp := hcs 0 _ (by rw [his.1]; rfl)
  simp only [Nat.add_zero] at hp
  have ha := his.2
  show Calls _ _ #[.pointer (some ⟨gc, 0, none⟩), .pointer (some ⟨g, o, none⟩), .int .i64 (size : Int), .int .u64 (most : Int)] w (Coded md P N gc sb f g o (natK .u64 size most) w (step (num' size most) md l v))
  obtain ⟨ao, n, cap, hat, hof⟩ := hcd
  have c0 := hat.c0
  cases md
  · have hv : v ≤ 18446744073709551615 := by have h9 : (v : Int) ≤ 18446744073709551615 := ha; omega
    by_cases hok : v ≤ most
    · rw [num_w hok]
      have YES := Lib.hid (need_yes gc w)
      have AP := Lib.hid (appendnumber_any P gc sb f l v (by omega) size hs (by omega) w ⟨ao, n, cap, hat, hof⟩)
      have HE := Lib.hid (fun w' hcd' hs' => coded_wrote (sb := sb) (f := f) (gc := gc) (l' := l ++ le size v) (natK_fine .u64 size most) (w' := w') hcd' hs' (hw rfl) hN his hcs)
      have hd : decide (v ≤ most) = true := decide_eq_true hok
      clear hat hof his hcs hz hw hr hN ha
      go_enter Tryz.func162, Tryz.ntmps162
      go_wp2_with fail
      refine YES.out.mono ?_
      rintro e w' ⟨rfl, rfl⟩
      go_wp2_with fail
      refine AP.out.mono ?_
      rintro e w' ⟨rfl, h1, h2⟩
      go_wp2_with fail
      go_end0
      exact HE.out w' h1 h2
    · rw [num_w_no (by omega)]
      have NO := Lib.hid (need_no gc false f w hat.c0 hat.c2)
      have HP := Lib.hid (fun b hb => (hof.2 b hb).1)
      have hd : decide (v ≤ most) = false := decide_eq_false hok
      clear hat hof his hcs hz hw hr hN ha
      go_enter Tryz.func162, Tryz.ntmps162
      go_wp2_with fail
      refine NO.out.mono ?_
      intro e w' h
      cases e <;> first | (exact ⟨rfl, coded_gave h.gave (h.safeK HP.out hg)⟩) | (cases h.1)
  · have hlen := hat.len
    have hf0 := (hr rfl).2 o
    by_cases hsz : size ≤ n
    · have hvb : unle (l.take size) < 18446744073709551616 := by
        have h1 := unle_lt (l.take size) (Bytes.take (hat.rd rfl).1.lt size)
        have h2 : (l.take size).length = size := by simp; omega
        have h3 : 256 ^ size ≤ 256 ^ 8 := Nat.pow_le_pow_right (by omega) hs
        rw [h2] at h1
        omega
      have hcut := hat.cut size hsz
      have TN := Lib.hid (takenumber_yes gc sb f ao n cap l size hsz hs w hat)
      have S1 := Lib.hid (show SafeK P g w (w.setCell ⟨gc, 1, none⟩ (.slice (sh ao cap size) (n - size) (cap - size))) from SafeK.of (Safe.put (fun b hb => by
        rcases hb with hb | rfl
        · exact ⟨(hof.2 b hb).1, (hof.2 b hb).2.1⟩
        · exact ⟨hg, hne⟩) _))
      have hp1 : (w.setCell ⟨gc, 1, none⟩ (.slice (sh ao cap size) (n - size) (cap - size))).cell? ⟨g, o, none⟩ = some (.int .u64 (v : Int)) := by
        rw [World.cell?_setCell_other _ _ _ _ (by intro e; apply hne; cases e; rfl)]; exact hp
      have hf1 : (w.setCell ⟨gc, 1, none⟩ (.slice (sh ao cap size) (n - size) (cap - size))).frozen? ⟨g, o, none⟩ = false := by rw [World.frozen?_setCell]; exact hf0
      by_cases hok : unle (l.take size) ≤ most
      · rw [num_r (by omega) hok]
        have HE := Lib.hid (coded_read (N := N) (k := natK .u64 size most) (o := o) (a := unle (l.take size)) (v := .int .u64 ((unle (l.take size) : Nat) : Int)) hat hof (hr rfl).1 hne hg size hsz (by rw [hp]; rfl) rfl (fun w N => ⟨rfl, by show _ ≤ (18446744073709551615 : Int); omega⟩))
        have YES := Lib.hid (fun w => need_yes gc w)
        clear hat hof his hcs hz hw hr hN ha hcut hp hf0 S1
        generalize w.setCell ⟨gc, 1, none⟩ _ = w1 at *
        generalize unle (l.take size) = v at *
        have hd : decide (v ≤ most) = true := decide_eq_true hok
        go_enter Tryz.func162, Tryz.ntmps162
        go_wp2_with fail
        refine TN.out.mono ?_
        rintro e w' ⟨rfl, rfl⟩
        go_wp2_with fail
        refine (YES.out _).mono ?_
        rintro e w' ⟨rfl, rfl⟩
        go_wp2_with fail
        go_end0
        exact HE.out
      · rw [num_r_most (by omega) (by omega)]
        have NO := Lib.hid (need_no gc true f _ hcut.c0 hcut.c2)
        have HP := Lib.hid (fun b hb => (hof.2 b hb).1)
        clear hat hof his hcs hz hw hr hN ha hcut hp hf0
        generalize w.setCell ⟨gc, 1, none⟩ _ = w1 at *
        generalize unle (l.take size) = v at *
        have hd : decide (v ≤ most) = false := decide_eq_false hok
        go_enter Tryz.func162, Tryz.ntmps162
        go_wp2_with fail
        refine TN.out.mono ?_
        rintro e w' ⟨rfl, rfl⟩
        go_wp2_with fail
        refine NO.out.mono ?_
        intro e w' h
        cases e <;> first | (exact ⟨rfl, coded_gave (h.gave.from S1.out.size) (S1.out.trans (h.safeK (fun b hb => Nat.lt_of_lt_of_le (HP.out b hb) S1.out.size) (Nat.lt_of_lt_of_le hg S1.out.size)))⟩) | (cases h.1)
    · rw [num_r_long (by omega)]
      have TN := Lib.hid (takenumber_no gc sb f ao n cap l size (by omega) w hat)
      have HP := Lib.hid (fun b hb => (hof.2 b hb).1)
      clear hat hof his hcs hz hw hr hN ha hp hf0
      go_enter Tryz.func162, Tryz.ntmps162
      go_wp2_with fail
      refine TN.out.mono ?_
      intro e w' h
      cases e <;> first | (exact ⟨rfl, coded_gave h.gave (h.safeK HP.out hg)⟩) | (cases h.1)

end Go.Proofs.YtngcbpgafjnfaaaGreatDoor
