/- A detector's state; Peers. -/
import Derived.Test.YtlfnkplgjlpaaaaSus
import Derived.Test.YtlfnkplgjlpaaaaLay
namespace Go.Proofs.Ytlfnkplgjlpaaaa
open Go.RowKit Go.Sort Go.Maps Go.Shelf
set_option linter.unusedVariables false

theorem sortsA (m : Nat) : AnyZI.SortsIn Try.prog sortedA_ren Fence.wide m :=
  ⟨fun blk off cap ss W hH hblk hsz => callsIn_wide.2 (AnyM.slices_Sort_int sortA blk off cap ss W hH hblk hsz),
   fun p cap W => callsIn_wide.2 (AnyM.slices_Sort_int_none sortA p cap W)⟩

/-- the map of a detector, or none yet -/
def MapO (w : World) : Option Nat → List Nd → Prop
  | none, S => S = []
  | some gm, S => MapV w gm S.length (fmap S)
structure DetW (w : World) (B hn : Nat) (mg : Option Nat) (S : List Nd) (guess : Nat) : Prop where
  map : MapO w mg S
  row : w.heap[hn]? = some (.cells #[.int .i64 (guess : Int), .map mg] 67 (0, 0))
  base : B ≤ hn
  gbase : ∀ gm, mg = some gm → B ≤ gm ∧ gm ≠ hn
  inc : Inc S
  ok : ∀ n ∈ S, n.Ok
  few : S.length ≤ 12
  g : 1 ≤ guess ∧ guess ≤ 4096
/-- a detector in block hn, its blocks Bs -/
def Det (w : World) (B hn : Nat) (Bs : List Nat) (S : List Nd) (guess : Nat) : Prop := ∃ mg, Bs = hn :: mg.toList ∧ DetW w B hn mg S guess
/-- what a call on it may do -/
structure Turned (Bs Bs' : List Nat) (w w' : World) : Prop where
  keep : Keep Bs w w'
  new : ∀ q ∈ Bs', q ∈ Bs ∨ w.heap.size ≤ q
section
variable {w w' : World} {B hn guess : Nat} {mg : Option Nat} {S : List Nd} {Bs : List Nat}
theorem DetW.hlt (h : DetW w B hn mg S guess) : hn < w.heap.size := (Array.getElem?_eq_some_iff.1 h.row).1
theorem DetW.at0 (h : DetW w B hn mg S guess) : w.cell? ⟨hn, 0, none⟩ = some (.int .i64 (guess : Int)) := cell_of_row w hn 0 _ _ (0, 0) h.row
theorem DetW.at1 (h : DetW w B hn mg S guess) : w.cell? ⟨hn, 1, none⟩ = some (.map mg) := cell_of_row w hn 1 _ _ (0, 0) h.row
theorem DetW.fr (h : DetW w B hn mg S guess) (i : Nat) : w.frozen? ⟨hn, i, none⟩ = false := frozen_of_row w hn i _ _ h.row
theorem MapO.lt (h : MapO w mg S) : ∀ gm, mg = some gm → gm < w.heap.size := by
  rintro gm rfl
  exact MapV.lt h
theorem MapO.keep {U : List Nat} (h : MapO w mg S) (k : Keep U w w') (hU : ∀ gm, mg = some gm → gm ∉ U) : MapO w' mg S := by
  cases mg with
  | none => exact h
  | some gm => exact MapV.keep h k (hU gm rfl)
theorem MapO.look (h : MapO w mg S) (id : Int) (hid : (Lit.int .i64 id).wf = true) :
    (Instr.lookup 65 (.map mg) (.int .i64 id) true).run Try.prog w = .ok (.tuple #[((Ytlfnkplgjlpaaaa.look S id).map agv).getD znd, .bool (Ytlfnkplgjlpaaaa.look S id).isSome]) w := by
  cases mg with
  | none =>
    obtain rfl : S = [] := h
    exact Maps.look_nil true mlaw Try.underlying65 (zeroE w) (keyIs id hid)
  | some gm =>
    have := MapV.look h id hid
    rw [this]
    unfold fmap
    cases Ytlfnkplgjlpaaaa.look S id <;> rfl
theorem MapO.look1 (h : MapO w mg S) (id : Int) (hid : (Lit.int .i64 id).wf = true) :
    (Instr.lookup 65 (.map mg) (.int .i64 id) false).run Try.prog w = .ok (((Ytlfnkplgjlpaaaa.look S id).map agv).getD znd) w := by
  cases mg with
  | none =>
    obtain rfl : S = [] := h
    exact Maps.look_nil false mlaw Try.underlying65 (zeroE w) (keyIs id hid)
  | some gm =>
    have := MapV.look1 h id hid
    rw [this]
    unfold fmap
    cases Ytlfnkplgjlpaaaa.look S id <;> rfl
theorem MapO.len (h : MapO w mg S) (ty : TypeId) : (Builtin.len_ #[65] ty #[.map mg]).run Try.prog w = .ok (.int .i64 (S.length : Int)) w := by
  cases mg with
  | none =>
    obtain rfl : S = [] := h
    exact Maps.len_nil Try.underlying65 ty
  | some gm => exact MapV.len h ty
theorem DetW.blocks (h : DetW w B hn mg S guess) : ∀ q ∈ hn :: mg.toList, B ≤ q ∧ q < w.heap.size := by
  intro q hq
  simp only [List.mem_cons, Option.mem_toList] at hq
  rcases hq with rfl | hq
  · exact ⟨h.base, h.hlt⟩
  · exact ⟨(h.gbase q hq).1, h.map.lt q hq⟩
theorem DetW.keep {U : List Nat} (h : DetW w B hn mg S guess) (k : Keep U w w') (hU : ∀ q ∈ hn :: mg.toList, q ∉ U) : DetW w' B hn mg S guess :=
  ⟨h.map.keep k (fun gm e => hU gm (by simp [e])), (k.block hn h.hlt (hU hn (by simp))).trans h.row, h.base, h.gbase, h.inc, h.ok, h.few, h.g⟩
theorem Det.blocks (h : Det w B hn Bs S guess) : ∀ q ∈ Bs, B ≤ q ∧ q < w.heap.size := by
  obtain ⟨mg, rfl, h⟩ := h
  exact h.blocks
theorem Det.keep {U : List Nat} (h : Det w B hn Bs S guess) (k : Keep U w w') (hU : ∀ q ∈ Bs, q ∉ U) : Det w' B hn Bs S guess := by
  obtain ⟨mg, rfl, h⟩ := h
  exact ⟨mg, rfl, h.keep k hU⟩
theorem DetW.below (h : DetW w B hn mg S guess) (b : Below w.heap.size w w') : DetW w' B hn mg S guess := h.keep (Keep.of_below b []) (by simp)
theorem Det.below (h : Det w B hn Bs S guess) (b : Below w.heap.size w w') : Det w' B hn Bs S guess := h.keep (Keep.of_below b []) (by simp)
theorem Turned.below {Bs : List Nat} (b : Below w.heap.size w w') : Turned Bs Bs w w' := ⟨Keep.of_below b _, fun q hq => .inl hq⟩
theorem Turned.trans {Bs' Bs'' : List Nat} {w'' : World} (h : Turned Bs Bs' w w') (k : Turned Bs' Bs'' w' w'') : Turned Bs Bs'' w w'' := by
  refine ⟨⟨k.keep.os.trans h.keep.os, k.keep.tape.trans h.keep.tape, k.keep.output.trans h.keep.output, Nat.le_trans h.keep.size k.keep.size, fun i hi hn => ?_⟩, fun q hq => ?_⟩
  · refine (k.keep.block i (Nat.lt_of_lt_of_le hi h.keep.size) fun hm => ?_).trans (h.keep.block i hi hn)
    rcases h.new i hm with h1 | h1
    · exact hn h1
    · omega
  · rcases k.new q hq with h1 | h1
    · exact h.new q h1
    · exact .inr (Nat.le_trans h.keep.size h1)
/-- what lies apart stays so -/
theorem Turned.apart {Bs Bs' : List Nat} (h : Turned Bs Bs' w w') {g : Nat} (hg : g ∉ Bs) (hl : g < w.heap.size) : g ∉ Bs' := fun hm => by
  rcases h.new g hm with h1 | h1
  · exact hg h1
  · omega

/-- the numbers of nodes -/
abbrev ids (S : List Nd) : List Int := S.map (·.id)
theorem ids_sorted (hS : Inc S) : (ids S).mergeSort (fun x y => decide (x ≤ y)) = ids S := by
  refine List.mergeSort_of_pairwise ?_
  rw [List.pairwise_map]
  exact hS.imp fun h => by simp; omega
theorem ids_nodup (hS : Inc S) : (ids S).Nodup := by
  rw [List.nodup_iff_pairwise_ne, List.pairwise_map]
  exact hS.imp fun h => by omega
theorem ids_perm {D : DataW Value} {gm n : Nat} (hS : Inc S) (hown : w.ownsMap Try.prog 3 tokR gm n D) (hD : ∀ id, Maps.has D (ky id) = (fmap S id).isSome) : (ids S).Perm (intKeys D) := by
  obtain ⟨es, rfl, hpw, _⟩ := hown.entries mlaw
  obtain ⟨es', hD', hko⟩ := hown.keysOf
  obtain rfl : es = es' := by simpa using hD'
  refine perm_intKeys hpw (fun p hp => by obtain ⟨v, hv⟩ := hko p hp; obtain ⟨x, _, hx, _⟩ := Maps.keyOf_i64 Try.underlying3 hv; exact ⟨x, hx⟩) (ids_nodup hS) (fun x => ?_)
  rw [hD x]
  unfold fmap
  constructor
  · intro hx
    obtain ⟨p, hp, rfl⟩ := List.mem_map.1 hx
    rw [hS.look hp]; rfl
  · intro hx
    cases hl : Ytlfnkplgjlpaaaa.look S x with
    | none => rw [hl] at hx; simp at hx
    | some p =>
      obtain ⟨h1, h2⟩ := look_some hl
      exact List.mem_map.2 ⟨p, h1, h2⟩

set_option maxHeartbeats 1000000 in
theorem peers_some (gm : Nat) (w : World) (h : DetW w B hn (some gm) S guess) :
    Calls Try.prog 18 #[.pointer (some ⟨hn, 0, none⟩)] w fun e w' => ∃ v, e = .returned v ∧ w'.ownsRow w.heap.size 3 1 v S.length ((ids S).map encZ) ∧ Below w.heap.size w w' := by
  refine (callsIn_wide (n := 6)).1 ?_
  have c1 := h.at1
  obtain ⟨D, hown, hsz, hD⟩ := h.map
  have hperm := ids_perm h.inc hown (fun id => (hD id).1)
  have hids := ids_sorted h.inc
  have hlen : (ids S).length = S.length := by simp
  have hfew := h.few
  generalize ids S = is at *
  generalize S.length = nn at *
  clear h
  have hbl := hown.lt
  have hseq : SeqGives Fence.wide 2 Try.prog 53 #[.pointer (some ⟨w.heap.size, 0, none⟩)] encZ (fun ss => ss.Perm (intKeys D)) (Maps.size D) (w.alloc (.cells #[.map (some gm)] 65)) :=
    AnyZI.keys_gives (ρ := keysA_ren) { keysA with } Fence.wide _ trivial rfl (by omega) w.heap.size gm nn D _ (by simp) (by simp) (by
      obtain ⟨es, clock, hb, Ft, hs, hD⟩ := hown
      exact ⟨es, clock, (Below.heap_alloc _ _ gm hbl).trans hb, Ft, hs, hD⟩)
  have cK : ∀ mb W, CallsIn Fence.wide 5 Try.prog 40 #[.map mb] W fun e w' => e = .returned (.func (.func 53) #[] #[.pointer (some ⟨W.heap.size, 0, none⟩)]) ∧ w' = W.alloc (.cells #[.map mb] 65) := fun mb W => AnyZI.keys_in keysA Fence.wide 5 trivial rfl mb W
  have cS := AnyZI.sorted_in sortedA Fence.wide 5 trivial trivial trivial trivial rfl (by omega) (sortsA _) (enters_of Try.func52 (by kernel_rfl) rfl) 53 #[.pointer (some ⟨w.heap.size, 0, none⟩)] trivial (enters_of Try.func53 (by kernel_rfl) rfl) _ _ (by unfold maxLen; omega) (by omega) _ hseq
  change CallsIn _ _ Try.prog 39 _ _ _ at cS
  have hfK : Fence.wide.fn 40 := trivial
  have hfS : Fence.wide.fn 39 := trivial
  refine callsIn_of_wp Try.func18 rfl trivial ?_ rfl
  simp only [Try.ntmps18, List.size_toArray, List.length_cons, List.length_nil, Nat.reduceAdd, Nat.reduceSub, Array.replicate_succ, Array.replicate_zero, List.push_toArray, List.append_toArray, List.nil_append, List.cons_append]
  gi_wp2_with (first
    | (gi_at_call 40; refine (cK _ _).mono ?_; rintro e w' ⟨rfl, rfl⟩)
    | (gi_at_call 39; refine cS.mono ?_; rintro e w' ⟨v, ss, rfl, hS, hrow, hnil, hb⟩))
  go_ret
  have hm : ss.mergeSort (fun x y => decide (x ≤ y)) = is := by rw [← hids]; exact mergeSort_of_perm_i (hS.trans hperm.symm)
  have hl2 : ss.length = nn := by rw [← hlen, ← hm, List.length_mergeSort]
  rw [hm, hl2] at hrow
  exact ⟨v, rfl, ownsRow_base_a hrow (by simp), ((Below.refl _ w).alloc (Nat.le_refl _) _).trans (hb.mono (by simp))⟩
set_option maxHeartbeats 1000000 in
theorem peers_none (w : World) (h : DetW w B hn none S guess) :
    Calls Try.prog 18 #[.pointer (some ⟨hn, 0, none⟩)] w fun e w' => e = .returned (.slice none 0 0) ∧ Below w.heap.size w w' := by
  refine (callsIn_wide (n := 6)).1 ?_
  have c1 := h.at1
  clear h
  have hseq : SeqGives Fence.wide 2 Try.prog 53 #[.pointer (some ⟨w.heap.size, 0, none⟩)] encZ (fun ss : List Int => ss = []) 0 (w.alloc (.cells #[.map none] 65)) :=
    AnyZI.keys_gives_nil (ρ := keysA_ren) { keysA with } Fence.wide _ trivial rfl w.heap.size _ (by simp) (by simp)
  have cK : ∀ mb W, CallsIn Fence.wide 5 Try.prog 40 #[.map mb] W fun e w' => e = .returned (.func (.func 53) #[] #[.pointer (some ⟨W.heap.size, 0, none⟩)]) ∧ w' = W.alloc (.cells #[.map mb] 65) := fun mb W => AnyZI.keys_in keysA Fence.wide 5 trivial rfl mb W
  have cS := AnyZI.sorted_in sortedA Fence.wide 5 trivial trivial trivial trivial rfl (by omega) (sortsA _) (enters_of Try.func52 (by kernel_rfl) rfl) 53 #[.pointer (some ⟨w.heap.size, 0, none⟩)] trivial (enters_of Try.func53 (by kernel_rfl) rfl) _ 0 (Nat.zero_le _) (by omega) _ hseq
  change CallsIn _ _ Try.prog 39 _ _ _ at cS
  have hfK : Fence.wide.fn 40 := trivial
  have hfS : Fence.wide.fn 39 := trivial
  refine callsIn_of_wp Try.func18 rfl trivial ?_ rfl
  simp only [Try.ntmps18, List.size_toArray, List.length_cons, List.length_nil, Nat.reduceAdd, Nat.reduceSub, Array.replicate_succ, Array.replicate_zero, List.push_toArray, List.append_toArray, List.nil_append, List.cons_append]
  gi_wp2_with (first
    | (gi_at_call 40; refine (cK _ _).mono ?_; rintro e w' ⟨rfl, rfl⟩)
    | (gi_at_call 39; refine cS.mono ?_; rintro e w' ⟨v, ss, rfl, rfl, hrow, hnil, hb⟩; obtain rfl : v = .slice none 0 0 := hnil.2 rfl))
  go_ret
  exact ⟨rfl, ((Below.refl _ w).alloc (Nat.le_refl _) _).trans (hb.mono (by simp))⟩
theorem peers_any (w : World) (h : Det w B hn Bs S guess) :
    Calls Try.prog 18 #[.pointer (some ⟨hn, 0, none⟩)] w fun e w' => ∃ v, e = .returned v ∧ w'.ownsRow w.heap.size 3 1 v S.length ((ids S).map encZ) ∧ Below w.heap.size w w' := by
  obtain ⟨mg, _, h⟩ := h
  cases mg with
  | some gm => exact peers_some gm w h
  | none =>
    obtain rfl : S = [] := h.map
    exact (peers_none w h).mono fun e w' ⟨h1, h2⟩ => ⟨_, h1, World.ownsRow_nil _ _ _ _, h2⟩
set_option maxHeartbeats 400000 in
theorem peers_nil (w : World) : Calls Try.prog 18 #[.pointer none] w fun e w' => e = .returned (.slice none 0 0) ∧ w = w' := by
  go_enter Try.func18, Try.ntmps18
  go_wp2_with fail
  go_ret
  exact ⟨rfl, rfl⟩
end
end Go.Proofs.Ytlfnkplgjlpaaaa
