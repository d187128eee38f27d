/- A replica's row: what memory holds of it; voted, remembersAll. -/
import Derived.Test.YtbjcmomicjdepaaLk
namespace Go.Proofs.Ytbjcmomicjdepaa
open Go.RowKit Go.Sort
set_option linter.unusedVariables false
set_option linter.unusedSimpArgs false
set_option linter.unusedSectionVars false
set_option maxRecDepth 100000

/-- the cells of a row -/
abbrev rowL (c : Cp) (s : Cs) (rep : Int) : List Value := [.int .i64 c.state, .int .u32 c.inc, .int .u32 c.ver, .slice s.d.ao c.es.length s.d.cap, .slice s.l.ao c.ls.length s.l.cap, .int .u32 c.f0, .int .u32 c.f1, .int .u32 c.f2, .int .u32 c.f3, .slice s.v.ao c.vs.length s.v.cap, .int .i64 rep]
/-- blocks that may turn -/
def Cs.mut (s : Cs) (b : Nat) : List Nat := b :: (blk s.l.ao ++ blk s.v.ao)
/-- blocks of entries -/
def Cs.dat (s : Cs) : List Nat := blk s.d.ao ++ s.la.flatMap fun x => blk x.ao
structure RowR (w : World) (B b : Nat) (rep : Int) (c : Cp) (s : Cs) : Prop where
  row : w.heap[b]? = some (.cells ⟨rowL c s rep⟩ 92 (0, 0))
  ll : s.la.length = c.ls.length
  d : EsR w s.d c.es
  fd : Fit c.es
  l : w.ownsRow B 38 12 (.slice s.l.ao c.ls.length s.l.cap) c.ls.length (fl lkc (c.ls.zip s.la))
  le : ∀ x ∈ c.ls.zip s.la, EsR w x.2 x.1.it.es ∧ Fit x.1.it.es
  v : w.ownsRow B 51 2 (.slice s.v.ao c.vs.length s.v.cap) c.vs.length (fl Vd.list c.vs)
  nd : (s.mut b).Nodup
  ap : ∀ g ∈ s.dat, g ∉ s.mut b
  bs : ∀ g ∈ s.mut b ++ s.dat, B ≤ g
  lt : ∀ g ∈ s.dat, g < w.heap.size
  few : c.ls.length ≤ 1099511627775
  fev : c.vs.length ≤ 1099511627775
section
variable {w w' : World} {B b : Nat} {rep : Int} {c : Cp} {s : Cs}
theorem RowR.blt (h : RowR w B b rep c s) : b < w.heap.size := (Array.getElem?_eq_some_iff.1 h.row).1
theorem RowR.mlt (h : RowR w B b rep c s) : ∀ g ∈ s.mut b, g < w.heap.size := fun g hg => by
  simp only [Cs.mut, List.mem_cons, List.mem_append] at hg
  rcases hg with rfl | hg | hg
  · exact h.blt
  · exact (owns_blk h.l g hg).2
  · exact (owns_blk h.v g hg).2
theorem dat_la {s : Cs} {x : Sd} (hx : x ∈ s.la) : ∀ g ∈ blk x.ao, g ∈ s.dat := fun g hg => by
  unfold Cs.dat
  rw [List.mem_append, List.mem_flatMap]
  exact .inr ⟨x, hx, hg⟩
theorem RowR.keep {U : List Nat} (h : RowR w B b rep c s) (k : Keep U w w') (hn : ∀ g ∈ s.mut b ++ s.dat, g ∉ U) : RowR w' B b rep c s where
  row := row_keep h.row k (hn b (by simp [Cs.mut]))
  ll := h.ll
  d := h.d.keep k fun g hg => hn g (by simp [Cs.dat, hg])
  fd := h.fd
  l := owns_keep h.l k (blk_own _ _ _ fun g hg => hn g (by simp [Cs.mut, hg]))
  le := fun x hx => ⟨(h.le x hx).1.keep k fun g hg => hn g (List.mem_append.2 (.inr (dat_la (List.of_mem_zip hx).2 g hg))), (h.le x hx).2⟩
  v := owns_keep h.v k (blk_own _ _ _ fun g hg => hn g (by simp [Cs.mut, hg]))
  nd := h.nd
  ap := h.ap
  bs := h.bs
  lt := fun g hg => Nat.lt_of_lt_of_le (h.lt g hg) k.size
  few := h.few
  fev := h.fev
theorem RowR.below (h : RowR w B b rep c s) (k : Below w.heap.size w w') : RowR w' B b rep c s := h.keep (Keep.of_below k []) (by simp)
theorem RowR.at_ (h : RowR w B b rep c s) (i : Nat) (v : Value) (hv : (rowL c s rep)[i]? = some v) : w.cell? ⟨b, i, none⟩ = some v := by
  rw [cell_of_row w b i _ _ (0, 0) h.row]; simpa using hv
theorem RowR.fr (h : RowR w B b rep c s) (i : Nat) : w.frozen? ⟨b, i, none⟩ = false := frozen_of_row w b i _ _ h.row
theorem RowR.range (h : RowR w B b rep c s) : w.rangeAt b 0 (c.list s) := fun j v hv => by
  rw [Nat.zero_add]
  refine h.at_ j v ?_
  have hj : j < 10 := (List.getElem?_eq_some_iff.1 hv).1
  rw [show rowL c s rep = c.list s ++ [.int .i64 rep] from rfl, List.getElem?_append_left (by simpa using hj)]
  exact hv
theorem RowR.votes (h : RowR w B b rep c s) : Rds w 2 s.v.ao (c.vs.map Vd.list) := Rds.of_own vd_len rfl h.v
theorem RowR.zlen (h : RowR w B b rep c s) : (c.ls.zip s.la).length = c.ls.length := by rw [List.length_zip, h.ll, Nat.min_self]
theorem RowR.locks (h : RowR w B b rep c s) : Rds w 12 s.l.ao ((c.ls.zip s.la).map lkc) := Rds.of_own lkc_len h.zlen h.l

/-- the vote that was given -/
def votedP (vs : List Vd) (tx : Int) : Int := match vs.find? (fun v => decide (v.tx = tx)) with
  | some v => v.vote
  | none => 0
theorem find_none {vs : List Vd} {tx : Int} {n : Nat} (hn : vs.length = n) (h : ∀ j v, j < n → vs[j]? = some v → v.tx ≠ tx) : votedP vs tx = 0 := by
  unfold votedP
  rw [List.find?_eq_none.2 (fun v hv => by
    obtain ⟨j, hj⟩ := List.getElem?_of_mem hv
    simpa using h j v (by rw [← hn]; exact (List.getElem?_eq_some_iff.1 hj).1) hj)]
theorem find_at {vs : List Vd} {tx : Int} {k : Nat} {v : Vd} (hk : vs[k]? = some v) (hv : v.tx = tx) (h : ∀ j v, j < k → vs[j]? = some v → v.tx ≠ tx) : votedP vs tx = v.vote := by
  unfold votedP
  have : vs.find? (fun v => decide (v.tx = tx)) = some v := by
    rw [List.find?_eq_some_iff_getElem]
    obtain ⟨hl, hg⟩ := List.getElem?_eq_some_iff.1 hk
    refine ⟨by simpa using hv, k, hl, hg, fun j hj => ?_⟩
    have := h j _ hj (List.getElem?_eq_getElem (by omega))
    simpa using this
  rw [this]
set_option maxHeartbeats 4000000 in
theorem voted_any (w : World) (h : RowR w B b rep c s) (tx : Int) : Calls Try.prog 43 #[.pointer (some ⟨b, 0, none⟩), .int .u64 tx] w fun e w' => e = .returned (.int .i64 (votedP c.vs tx)) ∧ Below w.heap.size w w' := by
  have a9 := h.at_ 9 _ rfl
  have RD := Lib.hid h.votes
  have hfv := h.fev
  generalize s.v.ao = ao at *
  generalize s.v.cap = cap at *
  generalize c.vs = vs at *
  obtain ⟨n, hn⟩ : ∃ n, vs.length = n := ⟨_, rfl⟩
  have HN := Lib.hid hn
  rw [hn] at a9 hfv
  have hni : (n : Int) ≤ 1099511627775 := by omega
  clear hn h hfv
  go_enter Try.func43, Try.ntmps43
  go_wp2_with fail
  go_loopw [13] (fun v13 wr => ∃ k : Nat, v13 = .int .i64 (k : Int) ∧ k ≤ n ∧ Hid (∀ j v, j < k → vs[j]? = some v → v.tx ≠ tx) ∧ Hid (Below w.heap.size w wr)) (fun v13 _ => n - (intOf v13).toNat)
  case atStart => exact ⟨0, rfl, Nat.zero_le _, Lib.hid (fun j v hj => by omega), Lib.hid (Below.refl _ _)⟩
  case round =>
    obtain ⟨k, rfl, hk, HALL, BR⟩ := hrel
    by_cases hkn : k < n
    · obtain ⟨v, hv⟩ : ∃ v, vs[k]? = some v := ⟨_, List.getElem?_eq_getElem (by rw [HN.out]; exact hkn)⟩
      have HV := Lib.hid hv
      obtain ⟨g, o, rfl, hg, hc⟩ := (RD.out.below BR.out) k v.list (by rw [List.getElem?_map, hv]; rfl)
      have c0 := hc 0 _ rfl
      have c1 := hc 1 _ rfl
      rw [Nat.add_zero] at c0
      have hki : (k : Int) < (n : Int) := by omega
      have hk0 : (0 : Int) ≤ (k : Int) := by omega
      have B2 := Lib.hid (below_next BR.out (below_alloc (Below.refl wr.heap.size wr) (.cells #[.int .u64 v.tx, .int .i64 v.vote] 51)))
      clear hc hv a9
      obtain ⟨vt, vv⟩ := v
      simp only at c0 c1 B2
      by_cases he : vt = tx
      · have heb : (vt == tx) = true := by simp [he]
        have HE := Lib.hid he
        clear he
        go_wp2_with fail
        go_ret
        exact ⟨ret_int (find_at HV.out HE.out HALL.out).symm, B2.out⟩
      · have heb : (vt == tx) = false := by simp [he]
        have HE := Lib.hid he
        clear he
        go_wp2_with fail
        go_roundw
        case rel => exact ⟨k + 1, by go_num, by omega, Lib.hid (fun j v hj hv => by
          rcases Nat.lt_or_ge j k with h | h
          · exact HALL.out j v h hv
          · obtain rfl : j = k := by omega
            have := HV.out; rw [hv] at this; cases this; exact HE.out), B2⟩
        case measure => simp [intOf]; omega
    · obtain rfl : n = k := by omega
      go_wp2_with fail
      go_ret
      exact ⟨ret_int (find_none HN.out HALL.out).symm, BR.out⟩
set_option maxHeartbeats 1000000 in
theorem full_any (w : World) (h : RowR w B b rep c s) : Calls Try.prog 44 #[.pointer (some ⟨b, 0, none⟩)] w fun e w' => e = .returned (.bool (decide (64 ≤ c.vs.length))) ∧ w = w' := by
  have a9 := h.at_ 9 _ rfl
  clear h
  go_enter Try.func44, Try.ntmps44
  go_wp2_with fail
  go_ret
  exact ⟨ret_bool (by simp only [decide_eq_decide]; omega), rfl⟩
end
end Go.Proofs.Ytbjcmomicjdepaa
