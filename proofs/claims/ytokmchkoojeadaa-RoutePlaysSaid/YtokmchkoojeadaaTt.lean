/- The tables of a ring. -/
import Derived.Test.YtokmchkoojeadaaTw
namespace Go.Proofs.Ytokmchkoojeadaa
open Go.RowKit Go.Sort
set_option linter.unusedVariables false
set_option linter.unusedSimpArgs false
set_option maxRecDepth 100000
/-- the tables of a ring, all of them, and the row of their pointers -/
structure TabsOk (w w' : World) (n : Nat) (L : List Pe) (Fk : Nat → List Pe) (tz : Option Addr) (tc : Nat) (T : List TT) : Prop where
  len : T.length = n
  row : w'.ownsRow w.heap.size 31 1 (.slice tz n tc) n (T.map TT.v)
  tbs : Tbs w w' L (fun j _ _ => Fk j) T
  ne : ∀ (j : Nat) (t : TT), T[j]? = some t → t.2.1 = none ∧ Fk j = [] ∨ Fk j ≠ []
  nb : ∀ (j : Nat) (t : TT), T[j]? = some t → ∀ q ∈ tbB t.1 t.2.1, q ∉ blk tz
theorem TabsOk.below {w w' w2 : World} {n : Nat} {L : List Pe} {Fk : Nat → List Pe} {tz : Option Addr} {tc : Nat} {T : List TT} (h : TabsOk w w' n L Fk tz tc T) (k : Below w'.heap.size w' w2) : TabsOk w w2 n L Fk tz tc T :=
  ⟨h.len, owns_keep h.row (Keep.of_below k []) (by simp), h.tbs.below k, h.ne, h.nb⟩
theorem TabsOk.congr {w w' : World} {n : Nat} {L : List Pe} {Fk Gk : Nat → List Pe} {tz : Option Addr} {tc : Nat} {T : List TT} (h : TabsOk w w' n L Fk tz tc T) (e : ∀ j, j < n → Fk j = Gk j) : TabsOk w w' n L Gk tz tc T := by
  have hj : ∀ (j : Nat) (t : TT), T[j]? = some t → Fk j = Gk j := fun j t ht => e j (by rw [← h.len]; exact (List.getElem?_eq_some_iff.1 ht).1)
  refine ⟨h.len, h.row, ⟨fun j t ht => ?_, h.tbs.ne⟩, fun j t ht => by rw [← hj j t ht]; exact h.ne j t ht, h.nb⟩
  obtain ⟨s, p, c, h1, h2, h3, h4⟩ := h.tbs.tb j t ht
  exact ⟨s, p, c, h1, h2, h3, by rw [← hj j t ht]; exact h4⟩
theorem TabsOk.turn {w w' w2 : World} {n : Nat} {L : List Pe} {Fk : Nat → List Pe} {tz : Option Addr} {tc : Nat} {T : List TT} (h : TabsOk w w' n L Fk tz tc T) {i : Nat} {t : TT} (ht : T[i]? = some t) {s p c : Pe} {u : Option Addr × Nat} {M : List Pe} (hs : L[i]? = some s) (hp : L[(i + L.length - 1) % L.length]? = some p) (hc : L[(i + 1) % L.length]? = some c)
    (h4 : TbW w2 w.heap.size t.1 u.1 u.2 s p c M) (k : Keep (tbB t.1 t.2.1) w' w2) (hnew : ∀ q ∈ tbB t.1 u.1, q ∈ tbB t.1 t.2.1 ∨ w'.heap.size ≤ q) (hM : M ≠ []) : TabsOk w w2 n L (fun j => if j = i then M else Fk j) tz tc (T.set i (t.1, u)) := by
  refine ⟨by rw [List.length_set]; exact h.len, ?_, h.tbs.turn ht hs hp hc h4 k hnew (fun j _ _ hj => by rw [if_neg hj]) (by rw [if_pos rfl]), fun j x hx => ?_, fun j x hx q hq hm => ?_⟩
  · rw [tt_set (u := (t.1, u)) ht rfl]
    exact owns_keep h.row k (blk_own _ _ _ fun g hg hm => h.nb i t ht g hm hg)
  · rcases set_at hx with ⟨rfl, rfl⟩ | ⟨hj, hx⟩
    · exact .inr (by rw [if_pos rfl]; exact hM)
    · rw [if_neg hj]; exact h.ne j x hx
  · rcases set_at hx with ⟨rfl, rfl⟩ | ⟨hj, hx⟩
    · rcases hnew q hq with e | e
      · exact h.nb j t ht q e hm
      · have := (owns_blk h.row q hm).2; omega
    · exact h.nb j x hx q hq hm
/-- the fingers at the beginning, whatever the place -/
abbrev F0 : Nat → Pe → Pe → List Pe := fun _ s c => fing0 s c
set_option maxHeartbeats 12800000 in
theorem tables_any {n cap g B : Nat} {L : List Pe} (w : World) (h : w.ownsRow B 26 3 (.slice (some ⟨g, 0, none⟩) L.length cap) L.length (fl Pe.list L)) (hn : L.length = n) (h0 : 0 < n) (hle : n ≤ 255) (hnum : ∀ (j : Nat) (x : Pe), L[j]? = some x → x.n = (j : Int)) :
    Calls Try.prog 14 #[.slice (some ⟨g, 0, none⟩) n cap] w fun e w' => ∃ (tz : Option Addr) (tc : Nat), e = .returned (.tuple #[.slice tz n tc, .bool true]) ∧ (∃ T : List TT, TabsOk w w' n L (fgs L 3) tz tc T) ∧ Below w.heap.size w w' := by
  have H := Lib.hid h; have HN := Lib.hid hn; have HNUM := Lib.hid hnum
  obtain ⟨i0, hi0, hz0, hz1, hz2⟩ := info_parts tab_info
  have HI0 := Lib.hid hi0; have HZ0 := Lib.hid hz0; have HZ1 := Lib.hid hz1; have HZ2 := Lib.hid hz2
  have hni : (0 : Int) < (n : Int) := by omega
  clear h hn hi0 hz0 hz1 hz2 hnum
  go_enter Try.func14, Try.ntmps14
  go_wp2_with fail
  go_loopw [5, 6] (fun v5 v6 w1 => ∃ (tz : Option Addr) (tc i : Nat) (T : List TT), v5 = .slice tz i tc ∧ v6 = .int .i64 (i : Int) ∧ i ≤ n ∧ Hid (T.length = i) ∧ Hid (w1.ownsRow w.heap.size 31 1 (.slice tz i tc) i (T.map TT.v)) ∧ Hid (Tbs w w1 L F0 T) ∧ Hid (∀ (j : Nat) (t : TT) (s c : Pe), T[j]? = some t → L[j]? = some s → L[(j + 1) % L.length]? = some c → t.2.1 = none ∧ fing0 s c = [] ∨ fing0 s c ≠ []) ∧ Hid (∀ (j : Nat) (t : TT), T[j]? = some t → ∀ q ∈ tbB t.1 t.2.1, q ∉ blk tz) ∧ Hid (Below w.heap.size w w1)) (fun _ v6 _ => n - (intOf v6).toNat)
  case atStart => exact ⟨none, 0, 0, [], rfl, rfl, Nat.zero_le _, Lib.hid rfl, Lib.hid ⟨rfl, .inl ⟨rfl, rfl⟩⟩, Lib.hid Tbs.nil, Lib.hid (fun j t s c h => by simp at h), Lib.hid (fun j t h => by simp at h), Lib.hid (Below.refl _ _)⟩
  case round =>
    obtain ⟨tz, tc, i, T, rfl, rfl, hi, HTL, HO, HT, HZ, HNB, HB⟩ := hrel
    have hi0 : (0 : Int) ≤ (i : Int) := by omega
    by_cases hin : i < n
    · have hii : (i : Int) < (n : Int) := by omega
      obtain ⟨ip, hip⟩ : ∃ q, q = (i + n - 1) % n := ⟨_, rfl⟩
      obtain ⟨ic, hic⟩ : ∃ q, q = (i + 1) % n := ⟨_, rfl⟩
      have HIP := Lib.hid hip; have HIC := Lib.hid hic
      have hpl : ip < n := by rw [hip]; exact Nat.mod_lt _ h0
      have hcl : ic < n := by rw [hic]; exact Nat.mod_lt _ h0
      obtain ⟨s, hs⟩ : ∃ s, L[i]? = some s := ⟨_, List.getElem?_eq_getElem (by rw [HN.out]; exact hin)⟩
      obtain ⟨p, hp⟩ : ∃ p, L[ip]? = some p := ⟨_, List.getElem?_eq_getElem (by rw [HN.out]; exact hpl)⟩
      obtain ⟨c, hc⟩ : ∃ c, L[ic]? = some c := ⟨_, List.getElem?_eq_getElem (by rw [HN.out]; exact hcl)⟩
      have HS := Lib.hid hs; have HP := Lib.hid hp; have HC := Lib.hid hc
      have HPM := Lib.hid (show Int.tmod ((i : Int) + (n : Int) - 1) (n : Int) = (ip : Int) from by
        rw [Int.tmod_eq_emod_of_nonneg (by omega), hip, show (i : Int) + (n : Int) - 1 = ((i + n - 1 : Nat) : Int) by omega]; rfl)
      have HCM := Lib.hid (show Int.tmod ((i : Int) + 1) (n : Int) = (ic : Int) from by
        rw [Int.tmod_eq_emod_of_nonneg (by omega), hic, show (i : Int) + 1 = ((i + 1 : Nat) : Int) by omega]; rfl)
      have W1 := Lib.hid (show IntKind.i64.wrap ((i : Int) + (n : Int)) = (i : Int) + (n : Int) from by rw [IntWalk.i64_in _ (by omega)])
      have W2 := Lib.hid (show IntKind.i64.wrap ((i : Int) + (n : Int) - 1) = (i : Int) + (n : Int) - 1 from by rw [IntWalk.i64_in _ (by omega)])
      have W3 := Lib.hid (show IntKind.i64.wrap ((i : Int) + 1) = (i : Int) + 1 from by rw [IntWalk.i64_in _ (by omega)])
      have W4 := Lib.hid (show IntKind.i64.wrap (ip : Int) = (ip : Int) from by rw [IntWalk.i64_in _ (by omega)])
      have W5 := Lib.hid (show IntKind.i64.wrap (ic : Int) = (ic : Int) from by rw [IntWalk.i64_in _ (by omega)])
      have hip0 : (0 : Int) ≤ (ip : Int) := by omega
      have hic0 : (0 : Int) ≤ (ic : Int) := by omega
      have hipn : (ip : Int) < (n : Int) := by omega
      have hicn : (ic : Int) < (n : Int) := by omega
      have hn0 : ¬ (n : Int) = 0 := by omega
      have LD := Lib.hid (show ∀ w', Below wr.heap.size wr w' → (w'.cell? ⟨g, i * 3, none⟩ = some (.int .i64 s.n) ∧ w'.cell? ⟨g, i * 3 + 1, none⟩ = some (.int .u64 s.h) ∧ w'.cell? ⟨g, i * 3 + 2, none⟩ = some (.int .u64 s.l)) ∧ (w'.cell? ⟨g, ip * 3, none⟩ = some (.int .i64 p.n) ∧ w'.cell? ⟨g, ip * 3 + 1, none⟩ = some (.int .u64 p.h) ∧ w'.cell? ⟨g, ip * 3 + 2, none⟩ = some (.int .u64 p.l)) ∧ (w'.cell? ⟨g, ic * 3, none⟩ = some (.int .i64 c.n) ∧ w'.cell? ⟨g, ic * 3 + 1, none⟩ = some (.int .u64 c.h) ∧ w'.cell? ⟨g, ic * 3 + 2, none⟩ = some (.int .u64 c.l)) from fun w' k' => by
        have ho := owns_keep (owns_keep H.out (Keep.of_below HB.out []) (by simp)) (Keep.of_below k' []) (by simp)
        exact ⟨⟨owns_px ho HS.out (q := 0) (by omega), owns_px ho HS.out (q := 1) (by omega), owns_px ho HS.out (q := 2) (by omega)⟩, ⟨owns_px ho HP.out (q := 0) (by omega), owns_px ho HP.out (q := 1) (by omega), owns_px ho HP.out (q := 2) (by omega)⟩, ⟨owns_px ho HC.out (q := 0) (by omega), owns_px ho HC.out (q := 1) (by omega), owns_px ho HC.out (q := 2) (by omega)⟩⟩)
      have NW := Lib.hid (fun w => new_yes s p c w (by rw [HNUM.out _ _ HS.out]; simp; omega) (by rw [HNUM.out _ _ HP.out]; simp; omega) (by rw [HNUM.out _ _ HC.out]; simp; omega) (by
        rw [HNUM.out _ _ HS.out, HNUM.out _ _ HP.out, HNUM.out _ _ HC.out]
        exact ring_two h0 hin HIP.out HIC.out) (by
        rw [HNUM.out _ _ HS.out, HNUM.out _ _ HC.out]
        intro e
        obtain ⟨e1, e2⟩ := ring_same h0 hin HIP.out HIC.out e
        have a1 := HP.out; have a2 := HC.out
        rw [e1, HS.out] at a1; rw [e2, HS.out] at a2
        cases a1; cases a2
        exact ⟨rfl, rfl⟩))
      clear hs hp hc hip hic
      go_upto_region 6 with (fail)
      refine wp_region_held_drew (S := fun w' => Below wr.heap.size wr w') (by kernel_rfl) ((Below.refl _ _).drew) (fun s0 => ?_)
      generalize wr.drew = wd at *
      refine wpAnyH_take (i := 0) (v := .slice (some ⟨g, 0, none⟩) n cap) rfl (by kernel_rfl) (by kernel_rfl) (by kernel_rfl) (fun _ _ _ h => h) (Or.inl ⟨by rfl, fun w' hw' => by go_simp⟩) s0 ?_
      try simp only [Act.put, List.getElem_toArray, List.getElem_cons_succ, List.getElem_cons_zero, List.setIfInBounds_toArray, List.set_cons_zero, List.set_cons_succ, Nat.zero_add, List.nil_append]
      refine wpAnyH_take (i := 1) (v := .int .i64 (i : Int)) rfl (by kernel_rfl) (by kernel_rfl) (by kernel_rfl) (fun _ _ _ h => h) (Or.inl ⟨by rfl, fun w' hw' => by go_simp⟩) s0 ?_
      try simp only [Act.put, List.getElem_toArray, List.getElem_cons_succ, List.getElem_cons_zero, List.setIfInBounds_toArray, List.set_cons_zero, List.set_cons_succ, Nat.zero_add, List.nil_append]
      refine wpAnyH_take (i := 2) (v := .pointer (some ⟨g, i * 3, none⟩)) rfl (by kernel_rfl) (by kernel_rfl) (by kernel_rfl) (fun _ _ _ h => h) (Or.inl ⟨by rfl, fun w' hw' => by go_simp⟩) s0 ?_
      try simp only [Act.put, List.getElem_toArray, List.getElem_cons_succ, List.getElem_cons_zero, List.setIfInBounds_toArray, List.set_cons_zero, List.set_cons_succ, Nat.zero_add, List.nil_append]
      refine wpAnyH_take (i := 3) (v := .agg #[.int .i64 s.n, .int .u64 s.h, .int .u64 s.l]) rfl (by kernel_rfl) (by kernel_rfl) (by kernel_rfl) (fun _ _ _ h => h) (Or.inl ⟨by rfl, fun w' hw' => by obtain ⟨⟨s0, s1, s2⟩, ⟨p0, p1, p2⟩, ⟨c0, c1, c2⟩⟩ := LD.out _ hw'; go_simp⟩) s0 ?_
      try simp only [Act.put, List.getElem_toArray, List.getElem_cons_succ, List.getElem_cons_zero, List.setIfInBounds_toArray, List.set_cons_zero, List.set_cons_succ, Nat.zero_add, List.nil_append]
      refine wpAnyH_take (i := 4) (v := .slice (some ⟨g, 0, none⟩) n cap) rfl (by kernel_rfl) (by kernel_rfl) (by kernel_rfl) (fun _ _ _ h => h) (Or.inl ⟨by rfl, fun w' hw' => by go_simp⟩) s0 ?_
      try simp only [Act.put, List.getElem_toArray, List.getElem_cons_succ, List.getElem_cons_zero, List.setIfInBounds_toArray, List.set_cons_zero, List.set_cons_succ, Nat.zero_add, List.nil_append]
      refine wpAnyH_take (i := 5) (v := .int .i64 (i : Int)) rfl (by kernel_rfl) (by kernel_rfl) (by kernel_rfl) (fun _ _ _ h => h) (Or.inl ⟨by rfl, fun w' hw' => by go_simp⟩) s0 ?_
      try simp only [Act.put, List.getElem_toArray, List.getElem_cons_succ, List.getElem_cons_zero, List.setIfInBounds_toArray, List.set_cons_zero, List.set_cons_succ, Nat.zero_add, List.nil_append]
      refine wpAnyH_take (i := 6) (v := .int .i64 (n : Int)) rfl (by kernel_rfl) (by kernel_rfl) (by kernel_rfl) (fun _ _ _ h => h) (Or.inl ⟨by rfl, fun w' hw' => by go_simp⟩) s0 ?_
      try simp only [Act.put, List.getElem_toArray, List.getElem_cons_succ, List.getElem_cons_zero, List.setIfInBounds_toArray, List.set_cons_zero, List.set_cons_succ, Nat.zero_add, List.nil_append]
      refine wpAnyH_take (i := 7) (v := .int .i64 ((i : Int) + (n : Int))) rfl (by kernel_rfl) (by kernel_rfl) (by kernel_rfl) (fun _ _ _ h => h) (Or.inl ⟨by rfl, fun w' hw' => by (go_simp; first | done | exact W1.out | simp [W1.out])⟩) s0 ?_
      try simp only [Act.put, List.getElem_toArray, List.getElem_cons_succ, List.getElem_cons_zero, List.setIfInBounds_toArray, List.set_cons_zero, List.set_cons_succ, Nat.zero_add, List.nil_append]
      refine wpAnyH_take (i := 8) (v := .int .i64 ((i : Int) + (n : Int) - 1)) rfl (by kernel_rfl) (by kernel_rfl) (by kernel_rfl) (fun _ _ _ h => h) (Or.inl ⟨by rfl, fun w' hw' => by (go_simp; first | done | exact W2.out | simp [W2.out])⟩) s0 ?_
      try simp only [Act.put, List.getElem_toArray, List.getElem_cons_succ, List.getElem_cons_zero, List.setIfInBounds_toArray, List.set_cons_zero, List.set_cons_succ, Nat.zero_add, List.nil_append]
      refine wpAnyH_take (i := 9) (v := .int .i64 (n : Int)) rfl (by kernel_rfl) (by kernel_rfl) (by kernel_rfl) (fun _ _ _ h => h) (Or.inl ⟨by rfl, fun w' hw' => by go_simp⟩) s0 ?_
      try simp only [Act.put, List.getElem_toArray, List.getElem_cons_succ, List.getElem_cons_zero, List.setIfInBounds_toArray, List.set_cons_zero, List.set_cons_succ, Nat.zero_add, List.nil_append]
      refine wpAnyH_take (i := 10) (v := .int .i64 (ip : Int)) rfl (by kernel_rfl) (by kernel_rfl) (by kernel_rfl) (fun _ _ _ h => h) (Or.inl ⟨by rfl, fun w' hw' => by (go_simp; first | done | (simp [HPM.out, W4.out]; done) | (simp [HPM.out, W4.out]; omega))⟩) s0 ?_
      try simp only [Act.put, List.getElem_toArray, List.getElem_cons_succ, List.getElem_cons_zero, List.setIfInBounds_toArray, List.set_cons_zero, List.set_cons_succ, Nat.zero_add, List.nil_append]
      refine wpAnyH_take (i := 11) (v := .pointer (some ⟨g, ip * 3, none⟩)) rfl (by kernel_rfl) (by kernel_rfl) (by kernel_rfl) (fun _ _ _ h => h) (Or.inl ⟨by rfl, fun w' hw' => by go_simp⟩) s0 ?_
      try simp only [Act.put, List.getElem_toArray, List.getElem_cons_succ, List.getElem_cons_zero, List.setIfInBounds_toArray, List.set_cons_zero, List.set_cons_succ, Nat.zero_add, List.nil_append]
      refine wpAnyH_take (i := 12) (v := .agg #[.int .i64 p.n, .int .u64 p.h, .int .u64 p.l]) rfl (by kernel_rfl) (by kernel_rfl) (by kernel_rfl) (fun _ _ _ h => h) (Or.inl ⟨by rfl, fun w' hw' => by obtain ⟨⟨s0, s1, s2⟩, ⟨p0, p1, p2⟩, ⟨c0, c1, c2⟩⟩ := LD.out _ hw'; go_simp⟩) s0 ?_
      try simp only [Act.put, List.getElem_toArray, List.getElem_cons_succ, List.getElem_cons_zero, List.setIfInBounds_toArray, List.set_cons_zero, List.set_cons_succ, Nat.zero_add, List.nil_append]
      refine wpAnyH_take (i := 13) (v := .slice (some ⟨g, 0, none⟩) n cap) rfl (by kernel_rfl) (by kernel_rfl) (by kernel_rfl) (fun _ _ _ h => h) (Or.inl ⟨by rfl, fun w' hw' => by go_simp⟩) s0 ?_
      try simp only [Act.put, List.getElem_toArray, List.getElem_cons_succ, List.getElem_cons_zero, List.setIfInBounds_toArray, List.set_cons_zero, List.set_cons_succ, Nat.zero_add, List.nil_append]
      refine wpAnyH_take (i := 14) (v := .int .i64 (i : Int)) rfl (by kernel_rfl) (by kernel_rfl) (by kernel_rfl) (fun _ _ _ h => h) (Or.inl ⟨by rfl, fun w' hw' => by go_simp⟩) s0 ?_
      try simp only [Act.put, List.getElem_toArray, List.getElem_cons_succ, List.getElem_cons_zero, List.setIfInBounds_toArray, List.set_cons_zero, List.set_cons_succ, Nat.zero_add, List.nil_append]
      refine wpAnyH_take (i := 15) (v := .int .i64 ((i : Int) + 1)) rfl (by kernel_rfl) (by kernel_rfl) (by kernel_rfl) (fun _ _ _ h => h) (Or.inl ⟨by rfl, fun w' hw' => by (go_simp; first | done | exact W3.out | simp [W3.out])⟩) s0 ?_
      try simp only [Act.put, List.getElem_toArray, List.getElem_cons_succ, List.getElem_cons_zero, List.setIfInBounds_toArray, List.set_cons_zero, List.set_cons_succ, Nat.zero_add, List.nil_append]
      refine wpAnyH_take (i := 16) (v := .int .i64 (n : Int)) rfl (by kernel_rfl) (by kernel_rfl) (by kernel_rfl) (fun _ _ _ h => h) (Or.inl ⟨by rfl, fun w' hw' => by go_simp⟩) s0 ?_
      try simp only [Act.put, List.getElem_toArray, List.getElem_cons_succ, List.getElem_cons_zero, List.setIfInBounds_toArray, List.set_cons_zero, List.set_cons_succ, Nat.zero_add, List.nil_append]
      refine wpAnyH_take (i := 17) (v := .int .i64 (ic : Int)) rfl (by kernel_rfl) (by kernel_rfl) (by kernel_rfl) (fun _ _ _ h => h) (Or.inl ⟨by rfl, fun w' hw' => by (go_simp; first | done | (simp [HCM.out, W5.out]; done) | (simp [HCM.out, W5.out]; omega))⟩) s0 ?_
      try simp only [Act.put, List.getElem_toArray, List.getElem_cons_succ, List.getElem_cons_zero, List.setIfInBounds_toArray, List.set_cons_zero, List.set_cons_succ, Nat.zero_add, List.nil_append]
      refine wpAnyH_take (i := 18) (v := .pointer (some ⟨g, ic * 3, none⟩)) rfl (by kernel_rfl) (by kernel_rfl) (by kernel_rfl) (fun _ _ _ h => h) (Or.inl ⟨by rfl, fun w' hw' => by go_simp⟩) s0 ?_
      try simp only [Act.put, List.getElem_toArray, List.getElem_cons_succ, List.getElem_cons_zero, List.setIfInBounds_toArray, List.set_cons_zero, List.set_cons_succ, Nat.zero_add, List.nil_append]
      refine wpAnyH_take (i := 19) (v := .agg #[.int .i64 c.n, .int .u64 c.h, .int .u64 c.l]) rfl (by kernel_rfl) (by kernel_rfl) (by kernel_rfl) (fun _ _ _ h => h) (Or.inl ⟨by rfl, fun w' hw' => by obtain ⟨⟨s0, s1, s2⟩, ⟨p0, p1, p2⟩, ⟨c0, c1, c2⟩⟩ := LD.out _ hw'; go_simp⟩) s0 ?_
      try simp only [Act.put, List.getElem_toArray, List.getElem_cons_succ, List.getElem_cons_zero, List.setIfInBounds_toArray, List.set_cons_zero, List.set_cons_succ, Nat.zero_add, List.nil_append]
      refine wpAnyH_ready (rs := [20]) (by kernel_rfl) (by simp) ?_
      refine AllReadyH.cons rfl (fun K hK => ?_) AllReadyH.nil
      rw [if_pos (by rfl)]
      go_simp
      refine (NW.out wd).mono ?_; rintro e w2 ⟨b, ao, bcap, rfl, h4, b4, hn4⟩
      have H4 := Lib.hid h4; have B4 := Lib.hid b4; have HN4 := Lib.hid hn4
      have s1 := below_next s0 b4
      clear h4 b4 hn4 NW
      go_simp
      refine hK.out _ _ s1 (fun _ => ?_)
      clear hK K
      try simp only [Act.put, List.getElem_toArray, List.getElem_cons_succ, List.getElem_cons_zero, List.setIfInBounds_toArray, List.set_cons_zero, List.set_cons_succ, Nat.zero_add, List.nil_append]
      refine wpAnyH_take (i := 21) (v := .tuple #[.pointer (some ⟨b, 0, none⟩), .int .i64 0]) rfl (by kernel_rfl) (by kernel_rfl) (by kernel_rfl) (fun _ _ _ h => h) (Or.inl ⟨by rfl, fun w' hw' => by go_simp⟩) s1 ?_
      try simp only [Act.put, List.getElem_toArray, List.getElem_cons_succ, List.getElem_cons_zero, List.setIfInBounds_toArray, List.set_cons_zero, List.set_cons_succ, Nat.zero_add, List.nil_append]
      refine wpAnyH_take (i := 22) (v := .pointer (some ⟨b, 0, none⟩)) rfl (by kernel_rfl) (by kernel_rfl) (by kernel_rfl) (fun _ _ _ h => h) (Or.inl ⟨by rfl, fun w' hw' => by go_simp⟩) s1 ?_
      try simp only [Act.put, List.getElem_toArray, List.getElem_cons_succ, List.getElem_cons_zero, List.setIfInBounds_toArray, List.set_cons_zero, List.set_cons_succ, Nat.zero_add, List.nil_append]
      refine wpAnyH_take (i := 23) (v := .int .i64 0) rfl (by kernel_rfl) (by kernel_rfl) (by kernel_rfl) (fun _ _ _ h => h) (Or.inl ⟨by rfl, fun w' hw' => by go_simp⟩) s1 ?_
      try simp only [Act.put, List.getElem_toArray, List.getElem_cons_succ, List.getElem_cons_zero, List.setIfInBounds_toArray, List.set_cons_zero, List.set_cons_succ, Nat.zero_add, List.nil_append]
      refine wpAnyH_take (i := 24) (v := .pointer (some ⟨b, 0, none⟩)) rfl (by kernel_rfl) (by kernel_rfl) (by kernel_rfl) (fun _ _ _ h => h) (Or.inl ⟨by rfl, fun w' hw' => by go_simp⟩) s1 ?_
      try simp only [Act.put, List.getElem_toArray, List.getElem_cons_succ, List.getElem_cons_zero, List.setIfInBounds_toArray, List.set_cons_zero, List.set_cons_succ, Nat.zero_add, List.nil_append]
      refine wpAnyH_take (i := 25) (v := .int .i64 0) rfl (by kernel_rfl) (by kernel_rfl) (by kernel_rfl) (fun _ _ _ h => h) (Or.inl ⟨by rfl, fun w' hw' => by go_simp⟩) s1 ?_
      try simp only [Act.put, List.getElem_toArray, List.getElem_cons_succ, List.getElem_cons_zero, List.setIfInBounds_toArray, List.set_cons_zero, List.set_cons_succ, Nat.zero_add, List.nil_append]
      refine wpAnyH_done (by kernel_rfl) ?_ _
      have S0 := Lib.hid s0; have S1 := Lib.hid s1
      have HT2 := Lib.hid (Tbs.push (HT.out.below s0) B4.out (t := ((b, ao, bcap) : TT)) (by rw [HTL.out]; exact HS.out) (by rw [HTL.out, HN.out, ← HIP.out]; exact HP.out) (by rw [HTL.out, HN.out, ← HIC.out]; exact HC.out) H4.out (Nat.le_trans HB.out.size s0.size))
      have HO2 := Lib.hid (owns_keep HO.out (Keep.of_below s1 []) (by simp))
      have HNB2 := Lib.hid (nb_push (t := ((b, ao, bcap) : TT)) HNB.out (fun q hq => (H4.out.blocks q hq).1) (fun q hq => Nat.lt_of_lt_of_le (owns_blk HO.out q hq).2 s0.size))
      have HB2 := Lib.hid (below_next HB.out s1)
      clear s0 s1
      have HO3 := Lib.hid (show (w2.alloc (.cells #[TT.v ((b, ao, bcap) : TT)] 31)).ownsRow w.heap.size 31 1 (.slice tz i tc) i (T.map TT.v) from HO2.out.alloc _)
      have hwB := HB2.out.size
      go_wp2_with (at_builtin; refine wpList_append_lies _ rfl (.tmp 51) (.tmp 53) 76 rfl w.heap.size 31 i0 _ 1 8 Try.underlying76 HI0.out HZ0.out HZ1.out HZ2.out rfl (by decide) (.slice tz i tc) i (T.map TT.v) rfl HO3.out ⟨w2.heap.size, 0, none⟩ 1 1 [TT.v ((b, ao, bcap) : TT)] rfl rfl (World.news_of_block (cs := #[TT.v ((b, ao, bcap) : TT)]) (t := 31) (fr := (0, 0)) (heap_alloc_new w2 _)) (by simp [Value.oneCell', TT.v]) (by decide) (by unfold maxLen; omega) (by omega) (by simp; omega) _ rfl ?_; intro ga ca v4 own4 gr4 at4 lt4)
      have ba := below_alloc (Below.refl w2.heap.size w2) (.cells #[TT.v ((b, ao, bcap) : TT)] 31)
      have kg : Keep (blk tz) (w2.alloc (.cells #[TT.v ((b, ao, bcap) : TT)] 31)) v4 := keep_grown gr4
      have HT4 := Lib.hid ((HT2.out.below ba).keep kg HNB2.out)
      have HNB4 := Lib.hid (show ∀ (j : Nat) (t : TT), (T ++ [((b, ao, bcap) : TT)])[j]? = some t → ∀ q ∈ tbB t.1 t.2.1, q ∉ blk (some (⟨ga, 0, none⟩ : Addr)) from fun j u hu q hq hm => by
        simp only [blk, List.mem_singleton] at hm
        subst hm
        rcases own_gg at4 with h | h
        · exact HNB2.out j u hu q hq h
        · have := (HT2.out.lt j u hu q hq).2; simp at h; omega)
      have HZ4 := Lib.hid (show ∀ (j : Nat) (t : TT) (s' c' : Pe), (T ++ [((b, ao, bcap) : TT)])[j]? = some t → L[j]? = some s' → L[(j + 1) % L.length]? = some c' → t.2.1 = none ∧ fing0 s' c' = [] ∨ fing0 s' c' ≠ [] from fun j u s' c' hu h1 h2 => by
        rcases Nat.lt_trichotomy j T.length with hj | hj | hj
        · rw [List.getElem?_append_left hj] at hu; exact HZ.out j u s' c' hu h1 h2
        · subst hj; rw [List.getElem?_append_right (Nat.le_refl _), Nat.sub_self] at hu; cases hu
          rw [HTL.out, HS.out] at h1; cases h1
          rw [HTL.out, HN.out, ← HIC.out, HC.out] at h2; cases h2
          exact HN4.out
        · rw [List.getElem?_eq_none (by rw [List.length_append]; simp; omega)] at hu; cases hu)
      have HO4 := Lib.hid (show v4.ownsRow w.heap.size 31 1 (.slice (some ⟨ga, 0, none⟩) (i + 1) ca) (i + 1) ((T ++ [((b, ao, bcap) : TT)]).map TT.v) from by rw [List.map_append]; exact own4)
      have HB4 := Lib.hid ((HB2.out.trans (ba.mono hwB)).trans (kg.below (by simp; omega) (fun q hq => (owns_blk HO2.out q hq).1)))
      clear own4 gr4 at4 lt4 kg ba
      go_wp2_with fail
      go_roundw
      case rel => exact ⟨some ⟨ga, 0, none⟩, ca, i + 1, T ++ [((b, ao, bcap) : TT)], rfl, by go_num, by omega, Lib.hid (by rw [List.length_append, HTL.out]; rfl), HO4, HT4, HZ4, HNB4, HB4⟩
      case measure => simp [intOf]; omega
    · have hii : ¬ (i : Int) < (n : Int) := by omega
      obtain rfl : n = i := by omega
      go_wp2_with fail
      have HTF := Lib.hid (HT.out.congr (G := fun j _ _ => fgs L 0 j) (fun j s c h1 h2 => (fgs_zero h1 h2).symm))
      have HZF := Lib.hid (show ∀ (j : Nat) (t : TT), T[j]? = some t → t.2.1 = none ∧ fgs L 0 j = [] ∨ fgs L 0 j ≠ [] from fun j t ht => by
        obtain ⟨s, p, c, h1, _, h3, _⟩ := HT.out.tb j t ht
        have := HZ.out j t s c ht h1 h3
        rwa [← fgs_zero h1 h3] at this)
      have HOK := Lib.hid (show TabsOk w wr n L (fgs L 0) tz tc T from ⟨HTL.out, HO.out, HTF.out, HZF.out, HNB.out⟩)
      clear HT HZ HNB HTL HO HTF HZF
      obtain ⟨j0, hj0, hy0, hy1, hy2⟩ := info_parts pes_info
      have HJ0 := Lib.hid hj0; have HY0 := Lib.hid hy0; have HY1 := Lib.hid hy1; have HY2 := Lib.hid hy2
      obtain ⟨gt, htz, _⟩ := owns_none HOK.out.row h0
      subst htz
      clear hj0 hy0 hy1 hy2
      go_loopw [9] (fun v9 w1 => ∃ (k : Nat) (T2 : List TT), v9 = .int .i64 ((k + 1 : Nat) : Int) ∧ k ≤ 3 ∧ Hid (TabsOk w w1 n L (fgs L k) (some ⟨gt, 0, none⟩) tc T2) ∧ Hid (Below w.heap.size w w1)) (fun v9 _ => 4 - (intOf v9).toNat)
      case atStart => exact ⟨0, T, rfl, by omega, HOK, HB⟩
      case round =>
        clear HOK HB
        obtain ⟨k, T2, rfl, hk, HOK, HB⟩ := hrel
        by_cases hk3 : k < 3
        · have hki : ((k + 1 : Nat) : Int) < 4 := by omega
          go_wp2_with fail
          rename World => wf
          go_loopw [10, 11] (fun v10 v11 w3 => ∃ (wz : Option Addr) (wc i : Nat) (W : List WW), v10 = .slice wz i wc ∧ v11 = .int .i64 (i : Int) ∧ i ≤ n ∧ Hid (W.length = i) ∧ Hid (w3.ownsRow wf.heap.size 39 1 (.slice wz i wc) i (W.map WW.v)) ∧ Hid (Ws w3 wf.heap.size (fgs L k) W) ∧ Hid (∀ (j : Nat) (x : WW), W[j]? = some x → ∀ q ∈ blk x.1, q ∉ blk wz) ∧ Hid (Below wf.heap.size wf w3)) (fun _ v11 _ => n - (intOf v11).toNat)
          case atStart => exact ⟨none, 0, 0, [], rfl, rfl, Nat.zero_le _, Lib.hid rfl, Lib.hid ⟨rfl, .inl ⟨rfl, rfl⟩⟩, Lib.hid Ws.nil, Lib.hid (fun j x h => by simp at h), Lib.hid (Below.refl _ _)⟩
          case round =>
            obtain ⟨wz, wc, i, W, rfl, rfl, hi, HWL, HWO, HW, HWB, HBB⟩ := hrel
            have hi0 : (0 : Int) ≤ (i : Int) := by omega
            by_cases hin : i < n
            · have hii : (i : Int) < (n : Int) := by omega
              obtain ⟨⟨b, ao, bcap⟩, ht⟩ : ∃ t, T2[i]? = some t := ⟨_, List.getElem?_eq_getElem (by rw [HOK.out.len]; exact hin)⟩
              have HTI := Lib.hid ht
              have HSZ := Lib.hid HBB.out.size
              have HOW := Lib.hid (HOK.out.below HBB.out)
              obtain ⟨s, p, c, _, _, _, htb⟩ := HOW.out.tbs.tb i _ ht
              obtain ⟨g', e', _, hcell⟩ := owns_c1 HOW.out.row (j := i) (v := .pointer (some ⟨b, 0, none⟩)) (by rw [List.getElem?_map, ht]; rfl)
              cases e'
              have FG := Lib.hid (fingers_any wr htb (HOW.out.ne i _ ht) (by have := fgs_len L k i; omega))
              clear htb ht
              go_wp2_with fail
              refine FG.out.mono ?_; rintro e w2 ⟨ao2, cap2, rfl, o2, b2⟩
              have O2 := Lib.hid o2; have B2 := Lib.hid b2
              clear o2 b2 hcell FG
              have HWO2 := Lib.hid (owns_keep HWO.out (Keep.of_below B2.out []) (by simp))
              have HO3 := Lib.hid (show (w2.alloc (.cells #[.slice ao2 (fgs L k i).length cap2] 39)).ownsRow wf.heap.size 39 1 (.slice wz i wc) i (W.map WW.v) from HWO2.out.alloc _)
              have HW2 := Lib.hid (Ws.push HW.out B2.out (ao := ao2) (cap := cap2) (by rw [HWL.out]; exact O2.out) HSZ.out)
              have HWB2 := Lib.hid (wb_push (W := W) (x := (ao2, (fgs L k W.length).length, cap2)) HWB.out (fun q hq => (owns_blk O2.out q hq).1) (fun q hq => (owns_blk HWO.out q hq).2))
              have HB2 := Lib.hid (below_next HBB.out B2.out)
              have hwB := HB2.out.size
              go_wp2_with (at_builtin; refine wpList_append_lies _ rfl (.tmp 64) (.tmp 70) 99 rfl wf.heap.size 39 j0 _ 1 24 Try.underlying99 HJ0.out HY0.out HY1.out HY2.out rfl (by decide) (.slice wz i wc) i (W.map WW.v) rfl HO3.out ⟨w2.heap.size, 0, none⟩ 1 1 [.slice ao2 (fgs L k i).length cap2] rfl rfl (World.news_of_block (cs := #[.slice ao2 (fgs L k i).length cap2]) (t := 39) (fr := (0, 0)) (heap_alloc_new w2 _)) (by simp [Value.oneCell']) (by decide) (by unfold maxLen; omega) (by omega) (by simp; omega) _ rfl ?_; intro ga ca v4 own4 gr4 at4 lt4)
              have ba := below_alloc (Below.refl w2.heap.size w2) (.cells #[.slice ao2 (fgs L k i).length cap2] 39)
              have kg : Keep (blk wz) (w2.alloc (.cells #[.slice ao2 (fgs L k i).length cap2] 39)) v4 := keep_grown gr4
              have HW4 := Lib.hid ((HW2.out.below ba).keep kg HWB2.out)
              have HWB4 := Lib.hid (show ∀ (j : Nat) (x : WW), (W ++ [(ao2, (fgs L k W.length).length, cap2)])[j]? = some x → ∀ q ∈ blk x.1, q ∉ blk (some (⟨ga, 0, none⟩ : Addr)) from fun j u hu q hq hm => by
                simp only [blk, List.mem_singleton] at hm
                subst hm
                rcases own_gg at4 with h | h
                · exact HWB2.out j u hu q hq h
                · have := (HW2.out.blocks j u hu q hq).2; simp at h; omega)
              have HWO4 := Lib.hid (show v4.ownsRow wf.heap.size 39 1 (.slice (some ⟨ga, 0, none⟩) (i + 1) ca) (i + 1) ((W ++ [(ao2, (fgs L k W.length).length, cap2)]).map WW.v) from by rw [List.map_append, HWL.out]; exact own4)
              have HB4 := Lib.hid ((HB2.out.trans (ba.mono hwB)).trans (kg.below (by simp; omega) (fun q hq => (owns_blk HWO2.out q hq).1)))
              clear own4 gr4 at4 lt4 kg ba
              go_wp2_with fail
              go_roundw
              case rel => exact ⟨some ⟨ga, 0, none⟩, ca, i + 1, W ++ [(ao2, (fgs L k W.length).length, cap2)], rfl, by go_num, by omega, Lib.hid (by rw [List.length_append, HWL.out]; rfl), HWO4, HW4, HWB4, HB4⟩
              case measure => simp [intOf]; omega
            · have hii : ¬ (i : Int) < (n : Int) := by omega
              obtain rfl : n = i := by omega
              go_wp2_with fail
              rename World => wg
              obtain ⟨gz, hwz, _⟩ := owns_none HWO.out h0
              subst hwz
              have HAP := Lib.hid (show ∀ (j : Nat) (t : TT), T2[j]? = some t → ∀ q ∈ tbB t.1 t.2.1, q < wf.heap.size from fun j t ht q hq => (HOK.out.tbs.lt j t ht q hq).2)
              go_loopw [12] (fun v12 w4 => ∃ (i : Nat) (T3 : List TT), v12 = .int .i64 (i : Int) ∧ i ≤ n ∧ Hid (TabsOk w w4 n L (fun j => if j < i then fgs L (k + 1) j else fgs L k j) (some ⟨gt, 0, none⟩) tc T3) ∧ Hid (w4.ownsRow wf.heap.size 39 1 (.slice (some ⟨gz, 0, none⟩) n wc) n (W.map WW.v)) ∧ Hid (Ws w4 wf.heap.size (fgs L k) W) ∧ Hid (∀ (j : Nat) (t : TT), T3[j]? = some t → ∀ q ∈ tbB t.1 t.2.1, q ∉ blk (some (⟨gz, 0, none⟩ : Addr)) ∧ ∀ (j2 : Nat) (x : WW), W[j2]? = some x → q ∉ blk x.1) ∧ Hid (Below w.heap.size w w4)) (fun v12 _ => n - (intOf v12).toNat)
              case atStart => exact ⟨0, T2, rfl, Nat.zero_le _, Lib.hid ((HOK.out.below HBB.out).congr (fun j hj => by simp)), HWO, HW, Lib.hid (fun j t ht q hq => ⟨fun hm => by have h1 := HAP.out j t ht q hq; have h2 := (owns_blk HWO.out q hm).1; omega, fun j2 x hx hm => by have h1 := HAP.out j t ht q hq; have h2 := (HW.out.blocks j2 x hx q hm).1; omega⟩), Lib.hid (HB.out.trans (HBB.out.mono HB.out.size))⟩
              case round =>
                clear HOK HWO HW HWB HBB HB HAP
                obtain ⟨i, T3, rfl, hi, HOK, HWO, HW, HAP, HB⟩ := hrel
                have hi0 : (0 : Int) ≤ (i : Int) := by omega
                by_cases hin : i < n
                · have hii : (i : Int) < (n : Int) := by omega
                  obtain ⟨⟨b, ao, bcap⟩, ht⟩ : ∃ t, T3[i]? = some t := ⟨_, List.getElem?_eq_getElem (by rw [HOK.out.len]; exact hin)⟩
                  obtain ⟨s, p, c, hs, hp, hc, htb⟩ := HOK.out.tbs.tb i _ ht
                  simp only [Nat.lt_irrefl, if_false] at htb
                  have HTI := Lib.hid ht; have HS := Lib.hid hs; have HP := Lib.hid hp; have HC := Lib.hid hc; have HTB := Lib.hid htb
                  have HWL := Lib.hid (show W.length = n from by have := HWO.out.1; rw [List.length_map] at this; omega)
                  obtain ⟨⟨xo, xl, xc⟩, hx⟩ : ∃ x, W[i]? = some x := ⟨_, List.getElem?_eq_getElem (by rw [HWL.out]; exact hin)⟩
                  obtain ⟨hxl, hxo⟩ := HW.out i _ hx
                  dsimp only at hxl hxo
                  obtain ⟨g', e', _, hcell⟩ := owns_c1 HWO.out (j := i) (v := .slice xo (fgs L k i).length xc) (by rw [List.getElem?_map, hx, ← hxl]; rfl)
                  cases e'
                  obtain ⟨m, hm⟩ : ∃ m, (fgs L k i).length = m := ⟨_, rfl⟩
                  have HX := Lib.hid hx; have HXO := Lib.hid hxo; have HM := Lib.hid hm
                  rw [hm] at hcell
                  have hm3 : m ≤ 4 := by have := fgs_len L k i; omega
                  clear ht hs hp hc htb hx hxo hxl hm
                  by_cases hmk : m < k + 1
                  · have hmki : (m : Int) < ((k + 1 : Nat) : Int) := by omega
                    go_wp2_with fail
                    go_roundw
                    case rel => exact ⟨i + 1, T3, by go_num, by omega, Lib.hid (HOK.out.congr (fun j hj => by
                      by_cases e1 : j < i
                      · rw [if_pos e1, if_pos (by omega)]
                      · rw [if_neg e1]
                        by_cases e2 : j = i
                        · subst e2; rw [if_pos (by omega), fgs_stay (by rw [HM.out]; exact hmk)]
                        · rw [if_neg (by omega)])), HWO, HW, HAP, HB⟩
                    case measure => simp [intOf]; omega
                  · have hmki : ¬ (m : Int) < ((k + 1 : Nat) : Int) := by omega
                    obtain ⟨fp, hfp⟩ : ∃ f, (fgs L k i)[k]? = some f := ⟨_, List.getElem?_eq_getElem (by rw [HM.out]; omega)⟩
                    obtain ⟨q, hq⟩ := List.getElem?_of_mem (fgs_mem L k i fp (List.mem_of_getElem? hfp))
                    have hqn : q < n := by rw [← HN.out]; exact (List.getElem?_eq_some_iff.1 hq).1
                    have hfn := HNUM.out q fp hq
                    have HFP := Lib.hid hfp; have HFN := Lib.hid hfn
                    obtain ⟨gx, hgx, _⟩ := owns_none HXO.out (by rw [HM.out]; omega)
                    subst hgx
                    obtain ⟨⟨yo, yl, yc⟩, hy⟩ : ∃ x, W[q]? = some x := ⟨_, List.getElem?_eq_getElem (by rw [HWL.out]; exact hqn)⟩
                    have HY := Lib.hid hy
                    obtain ⟨hyl, hyo⟩ := HW.out q _ hy
                    dsimp only at hyl hyo
                    have HYL := Lib.hid hyl; have HYO := Lib.hid hyo
                    obtain ⟨my, hmy⟩ : ∃ m, (fgs L k q).length = m := ⟨_, rfl⟩
                    have HMY := Lib.hid hmy
                    clear hfp hq hfn hy hyl hyo hmy
                    have LD := Lib.hid (show ∀ w', Keep (tbB b ao) wr w' → w'.cell? ⟨gt, i, none⟩ = some (.pointer (some ⟨b, 0, none⟩)) ∧ w'.cell? ⟨gz, i, none⟩ = some (.slice (some ⟨gx, 0, none⟩) m xc) ∧ w'.cell? ⟨gx, k * 3, none⟩ = some (.int .i64 (q : Int)) ∧ w'.cell? ⟨gz, q, none⟩ = some (.slice yo my yc) from fun w' k' => by
                      have r1 := owns_keep HOK.out.row k' (blk_own _ _ _ fun g hg hm => HOK.out.nb i _ HTI.out g hm hg)
                      have r2 := owns_keep HWO.out k' (blk_own _ _ _ fun g hg hm => (HAP.out i _ HTI.out g hm).1 hg)
                      have r3 := owns_keep HXO.out k' (blk_own _ _ _ fun g hg hm => (HAP.out i _ HTI.out g hm).2 i _ HX.out hg)
                      obtain ⟨g1, e1, _, c1⟩ := owns_c1 r1 (j := i) (v := .pointer (some ⟨b, 0, none⟩)) (by rw [List.getElem?_map, HTI.out]; rfl)
                      obtain ⟨g2, e2, _, c2⟩ := owns_c1 r2 (j := i) (v := .slice (some ⟨gx, 0, none⟩) m xc) (by rw [List.getElem?_map, HX.out, ← HM.out]; rw [← (HW.out i _ HX.out).1]; rfl)
                      obtain ⟨g3, e3, _, c3⟩ := owns_c1 r2 (j := q) (v := .slice yo my yc) (by rw [List.getElem?_map, HY.out, ← HMY.out, ← HYL.out]; rfl)
                      cases e1; cases e2; cases e3
                      have c4 := owns_px r3 HFP.out (q := 0) (by omega)
                      rw [Nat.add_zero] at c4
                      refine ⟨c1, c2, c4.trans ?_, c3⟩
                      rw [← HFN.out]; rfl)
                    have W1 := Lib.hid (show IntKind.i64.wrap (((k + 1 : Nat) : Int) - 1) = (k : Int) from by rw [IntWalk.i64_in _ (by omega)]; omega)
                    have W1b := Lib.hid (show IntKind.i64.wrap (k : Int) = (k : Int) from by rw [IntWalk.i64_in _ (by omega)])
                    have hk0 : (0 : Int) ≤ (k : Int) := by omega
                    have hq0 : (0 : Int) ≤ (q : Int) := by omega
                    have hqi : (q : Int) < (n : Int) := by omega
                    have hkm : (k : Int) < (m : Int) := by omega
                    go_upto_region 22 with (fail)
                    refine wp_region_held_drew (S := fun w' => Keep (tbB b ao) wr w') (by kernel_rfl) (Keep.of_below (Below.refl _ _).drew _) (fun s0 => ?_)
                    have BD := Lib.hid (show Below wr.heap.size wr wr.drew from (Below.refl _ _).drew)
                    generalize wr.drew = wd at *
                    refine wpAnyH_take (i := 0) (v := .slice (some ⟨gt, 0, none⟩) n tc) rfl (by kernel_rfl) (by kernel_rfl) (by kernel_rfl) (fun _ _ _ h => h) (Or.inl ⟨by rfl, fun w' hw' => by go_simp⟩) s0 ?_
                    try simp only [Act.put, List.getElem_toArray, List.getElem_cons_succ, List.getElem_cons_zero, List.setIfInBounds_toArray, List.set_cons_zero, List.set_cons_succ, Nat.zero_add, List.nil_append]
                    refine wpAnyH_take (i := 1) (v := .int .i64 (i : Int)) rfl (by kernel_rfl) (by kernel_rfl) (by kernel_rfl) (fun _ _ _ h => h) (Or.inl ⟨by rfl, fun w' hw' => by go_simp⟩) s0 ?_
                    try simp only [Act.put, List.getElem_toArray, List.getElem_cons_succ, List.getElem_cons_zero, List.setIfInBounds_toArray, List.set_cons_zero, List.set_cons_succ, Nat.zero_add, List.nil_append]
                    refine wpAnyH_take (i := 2) (v := .pointer (some ⟨gt, i, none⟩)) rfl (by kernel_rfl) (by kernel_rfl) (by kernel_rfl) (fun _ _ _ h => h) (Or.inl ⟨by rfl, fun w' hw' => by go_simp⟩) s0 ?_
                    try simp only [Act.put, List.getElem_toArray, List.getElem_cons_succ, List.getElem_cons_zero, List.setIfInBounds_toArray, List.set_cons_zero, List.set_cons_succ, Nat.zero_add, List.nil_append]
                    refine wpAnyH_take (i := 3) (v := .pointer (some ⟨b, 0, none⟩)) rfl (by kernel_rfl) (by kernel_rfl) (by kernel_rfl) (fun _ _ _ h => h) (Or.inl ⟨by rfl, fun w' hw' => by obtain ⟨z0, z1, z2, z3⟩ := LD.out _ hw'; go_simp⟩) s0 ?_
                    try simp only [Act.put, List.getElem_toArray, List.getElem_cons_succ, List.getElem_cons_zero, List.setIfInBounds_toArray, List.set_cons_zero, List.set_cons_succ, Nat.zero_add, List.nil_append]
                    refine wpAnyH_take (i := 4) (v := .int .i64 ((k + 1 : Nat) : Int)) rfl (by kernel_rfl) (by kernel_rfl) (by kernel_rfl) (fun _ _ _ h => h) (Or.inl ⟨by rfl, fun w' hw' => by go_simp⟩) s0 ?_
                    try simp only [Act.put, List.getElem_toArray, List.getElem_cons_succ, List.getElem_cons_zero, List.setIfInBounds_toArray, List.set_cons_zero, List.set_cons_succ, Nat.zero_add, List.nil_append]
                    refine wpAnyH_take (i := 5) (v := .slice (some ⟨gz, 0, none⟩) n wc) rfl (by kernel_rfl) (by kernel_rfl) (by kernel_rfl) (fun _ _ _ h => h) (Or.inl ⟨by rfl, fun w' hw' => by go_simp⟩) s0 ?_
                    try simp only [Act.put, List.getElem_toArray, List.getElem_cons_succ, List.getElem_cons_zero, List.setIfInBounds_toArray, List.set_cons_zero, List.set_cons_succ, Nat.zero_add, List.nil_append]
                    refine wpAnyH_take (i := 6) (v := .slice (some ⟨gz, 0, none⟩) n wc) rfl (by kernel_rfl) (by kernel_rfl) (by kernel_rfl) (fun _ _ _ h => h) (Or.inl ⟨by rfl, fun w' hw' => by go_simp⟩) s0 ?_
                    try simp only [Act.put, List.getElem_toArray, List.getElem_cons_succ, List.getElem_cons_zero, List.setIfInBounds_toArray, List.set_cons_zero, List.set_cons_succ, Nat.zero_add, List.nil_append]
                    refine wpAnyH_take (i := 7) (v := .int .i64 (i : Int)) rfl (by kernel_rfl) (by kernel_rfl) (by kernel_rfl) (fun _ _ _ h => h) (Or.inl ⟨by rfl, fun w' hw' => by go_simp⟩) s0 ?_
                    try simp only [Act.put, List.getElem_toArray, List.getElem_cons_succ, List.getElem_cons_zero, List.setIfInBounds_toArray, List.set_cons_zero, List.set_cons_succ, Nat.zero_add, List.nil_append]
                    refine wpAnyH_take (i := 8) (v := .pointer (some ⟨gz, i, none⟩)) rfl (by kernel_rfl) (by kernel_rfl) (by kernel_rfl) (fun _ _ _ h => h) (Or.inl ⟨by rfl, fun w' hw' => by go_simp⟩) s0 ?_
                    try simp only [Act.put, List.getElem_toArray, List.getElem_cons_succ, List.getElem_cons_zero, List.setIfInBounds_toArray, List.set_cons_zero, List.set_cons_succ, Nat.zero_add, List.nil_append]
                    refine wpAnyH_take (i := 9) (v := .slice (some ⟨gx, 0, none⟩) m xc) rfl (by kernel_rfl) (by kernel_rfl) (by kernel_rfl) (fun _ _ _ h => h) (Or.inl ⟨by rfl, fun w' hw' => by obtain ⟨z0, z1, z2, z3⟩ := LD.out _ hw'; go_simp⟩) s0 ?_
                    try simp only [Act.put, List.getElem_toArray, List.getElem_cons_succ, List.getElem_cons_zero, List.setIfInBounds_toArray, List.set_cons_zero, List.set_cons_succ, Nat.zero_add, List.nil_append]
                    refine wpAnyH_take (i := 10) (v := .int .i64 ((k + 1 : Nat) : Int)) rfl (by kernel_rfl) (by kernel_rfl) (by kernel_rfl) (fun _ _ _ h => h) (Or.inl ⟨by rfl, fun w' hw' => by go_simp⟩) s0 ?_
                    try simp only [Act.put, List.getElem_toArray, List.getElem_cons_succ, List.getElem_cons_zero, List.setIfInBounds_toArray, List.set_cons_zero, List.set_cons_succ, Nat.zero_add, List.nil_append]
                    refine wpAnyH_take (i := 11) (v := .int .i64 (k : Int)) rfl (by kernel_rfl) (by kernel_rfl) (by kernel_rfl) (fun _ _ _ h => h) (Or.inl ⟨by rfl, fun w' hw' => by (go_simp; first | done | exact W1.out | exact W1b.out | (simp; exact W1b.out) | (simp [W1b.out]))⟩) s0 ?_
                    try simp only [Act.put, List.getElem_toArray, List.getElem_cons_succ, List.getElem_cons_zero, List.setIfInBounds_toArray, List.set_cons_zero, List.set_cons_succ, Nat.zero_add, List.nil_append]
                    refine wpAnyH_take (i := 12) (v := .pointer (some ⟨gx, k * 3, none⟩)) rfl (by kernel_rfl) (by kernel_rfl) (by kernel_rfl) (fun _ _ _ h => h) (Or.inl ⟨by rfl, fun w' hw' => by go_simp⟩) s0 ?_
                    try simp only [Act.put, List.getElem_toArray, List.getElem_cons_succ, List.getElem_cons_zero, List.setIfInBounds_toArray, List.set_cons_zero, List.set_cons_succ, Nat.zero_add, List.nil_append]
                    refine wpAnyH_take (i := 13) (v := .pointer (some ⟨gx, k * 3, none⟩)) rfl (by kernel_rfl) (by kernel_rfl) (by kernel_rfl) (fun _ _ _ h => h) (Or.inl ⟨by rfl, fun w' hw' => by (first | rfl | go_simp)⟩) s0 ?_
                    try simp only [Act.put, List.getElem_toArray, List.getElem_cons_succ, List.getElem_cons_zero, List.setIfInBounds_toArray, List.set_cons_zero, List.set_cons_succ, Nat.zero_add, List.nil_append]
                    refine wpAnyH_take (i := 14) (v := .int .i64 (q : Int)) rfl (by kernel_rfl) (by kernel_rfl) (by kernel_rfl) (fun _ _ _ h => h) (Or.inl ⟨by rfl, fun w' hw' => by obtain ⟨z0, z1, z2, z3⟩ := LD.out _ hw'; go_simp⟩) s0 ?_
                    try simp only [Act.put, List.getElem_toArray, List.getElem_cons_succ, List.getElem_cons_zero, List.setIfInBounds_toArray, List.set_cons_zero, List.set_cons_succ, Nat.zero_add, List.nil_append]
                    refine wpAnyH_take (i := 15) (v := .pointer (some ⟨gz, q, none⟩)) rfl (by kernel_rfl) (by kernel_rfl) (by kernel_rfl) (fun _ _ _ h => h) (Or.inl ⟨by rfl, fun w' hw' => by go_simp⟩) s0 ?_
                    try simp only [Act.put, List.getElem_toArray, List.getElem_cons_succ, List.getElem_cons_zero, List.setIfInBounds_toArray, List.set_cons_zero, List.set_cons_succ, Nat.zero_add, List.nil_append]
                    refine wpAnyH_take (i := 16) (v := .slice yo my yc) rfl (by kernel_rfl) (by kernel_rfl) (by kernel_rfl) (fun _ _ _ h => h) (Or.inl ⟨by rfl, fun w' hw' => by obtain ⟨z0, z1, z2, z3⟩ := LD.out _ hw'; go_simp⟩) s0 ?_
                    try simp only [Act.put, List.getElem_toArray, List.getElem_cons_succ, List.getElem_cons_zero, List.setIfInBounds_toArray, List.set_cons_zero, List.set_cons_succ, Nat.zero_add, List.nil_append]
                    refine wpAnyH_ready (rs := [17]) (by kernel_rfl) (by simp) ?_
                    refine AllReadyH.cons rfl (fun K hK => ?_) AllReadyH.nil
                    rw [if_pos (by rfl)]
                    have LN := Lib.hid (learn_yes (xc := yc) (k + 1) wd (HTB.out.below BD.out) (by omega) (by omega) (by rw [HM.out]; omega) (by rw [HM.out]; omega) (psrd_own (owns_keep HYO.out (Keep.of_below BD.out []) (by simp))) HMY.out (fgs_tell HNUM.out (by rw [HN.out]; exact hle) k q (by omega)) (fun _ x hx hm => (HAP.out i _ HTI.out x hm).2 q _ HY.out hx))
                    rw [show ((k + 1 : Nat) : Int) = (k : Int) + 1 from rfl] at LN
                    go_simp
                    refine LN.out.mono ?_; rintro e w2 ⟨rfl, ao3, cap3, h4, k4, hnew⟩
                    have H4 := Lib.hid h4; have K4 := Lib.hid k4; have HNEW := Lib.hid hnew
                    have s1 := s0.trans k4
                    clear h4 k4 hnew LN
                    go_simp
                    refine hK.out _ _ s1 (fun _ => ?_)
                    clear hK K
                    try simp only [Act.put, List.getElem_toArray, List.getElem_cons_succ, List.getElem_cons_zero, List.setIfInBounds_toArray, List.set_cons_zero, List.set_cons_succ, Nat.zero_add, List.nil_append]
                    refine wpAnyH_take (i := 18) (v := .int .i64 0) rfl (by kernel_rfl) (by kernel_rfl) (by kernel_rfl) (fun _ _ _ h => h) (Or.inl ⟨by rfl, fun w' hw' => by go_simp⟩) s1 ?_
                    try simp only [Act.put, List.getElem_toArray, List.getElem_cons_succ, List.getElem_cons_zero, List.setIfInBounds_toArray, List.set_cons_zero, List.set_cons_succ, Nat.zero_add, List.nil_append]
                    refine wpAnyH_done (by kernel_rfl) ?_ _
                    have S1 := Lib.hid s1
                    have HFS := Lib.hid (fgs_step (L := L) (k := k) (j := i) (by rw [HM.out]; exact hmk) HFP.out HS.out)
                    rw [HFN.out, Int.toNat_natCast] at HFS
                    have HOK2 := Lib.hid (((HOK.out.below BD.out).turn HTI.out (u := (ao3, cap3)) HS.out HP.out HC.out H4.out K4.out HNEW.out (learnt_ne (by omega) (fun e => by have := HM.out; rw [e] at this; simp at this; omega))).congr (Gk := fun j => if j < i + 1 then fgs L (k + 1) j else fgs L k j) (fun j hj => by
                      by_cases e2 : j = i
                      · subst e2; rw [if_pos rfl, if_pos (by omega), HFS.out]
                      · rw [if_neg e2]
                        by_cases e1 : j < i
                        · rw [if_pos e1, if_pos (by omega)]
                        · rw [if_neg e1, if_neg (by omega)]))
                    have HWO2 := Lib.hid (owns_keep HWO.out S1.out (blk_own _ _ _ fun g hg hm => (HAP.out i _ HTI.out g hm).1 hg))
                    have HW2 := Lib.hid (HW.out.keep S1.out (fun j x hx y hy hm => (HAP.out i _ HTI.out y hm).2 j x hx hy))
                    have HAP2 := Lib.hid (show ∀ (j : Nat) (t : TT), (T3.set i (b, ao3, cap3))[j]? = some t → ∀ q ∈ tbB t.1 t.2.1, q ∉ blk (some (⟨gz, 0, none⟩ : Addr)) ∧ ∀ (j2 : Nat) (x : WW), W[j2]? = some x → q ∉ blk x.1 from fun j x hx y hy => by
                      rcases set_at hx with ⟨rfl, rfl⟩ | ⟨_, hx⟩
                      · rcases HNEW.out y hy with h | h
                        · exact HAP.out j _ HTI.out y h
                        · have hz := BD.out.size
                          exact ⟨fun hm => by have := (owns_blk HWO.out y hm).2; omega, fun j2 x2 hx2 hm => by have := (HW.out.blocks j2 x2 hx2 y hm).2; omega⟩
                      · exact HAP.out j x hx y hy)
                    have HB2 := Lib.hid (HB.out.trans (S1.out.below HB.out.size (fun g hg => (HOK.out.tbs.lt i _ HTI.out g hg).1)))
                    clear s0 s1
                    go_wp2_with fail
                    go_roundw
                    case rel => exact ⟨i + 1, T3.set i (b, ao3, cap3), by go_num, by omega, HOK2, HWO2, HW2, HAP2, HB2⟩
                    case measure => simp [intOf]; omega
                · have hii : ¬ (i : Int) < (n : Int) := by omega
                  obtain rfl : n = i := by omega
                  go_wp2_with fail
                  go_roundw
                  case rel => exact ⟨k + 1, T3, by go_num, by omega, Lib.hid (HOK.out.congr (fun j hj => by rw [if_pos hj])), HB⟩
                  case measure => simp [intOf]; omega
        · have hki : ¬ ((k + 1 : Nat) : Int) < 4 := by omega
          obtain rfl : k = 3 := by omega
          go_wp2_with fail
          go_ret2
          exact ⟨_, _, rfl, ⟨T2, HOK.out⟩, HB.out⟩
end Go.Proofs.Ytokmchkoojeadaa
