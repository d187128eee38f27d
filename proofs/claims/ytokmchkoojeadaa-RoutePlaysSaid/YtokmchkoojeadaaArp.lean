/- Arguments that are slices of a script's ops. -/
import Derived.Test.YtokmchkoojeadaaSp0
import Derived.Test.YtokmchkoojeadaaArg
import Derived.Deep.MidRow
namespace Go.Proofs.Ytokmchkoojeadaa.routePlays
open Go.ChangeShapes Go.WideShapes Go.ChangeAt Go.RowKit Go.Deep
set_option linter.unusedVariables false
set_option linter.unusedSimpArgs false
set_option linter.unusedSectionVars false
set_option maxRecDepth 100000
theorem psrd_of {W : World} {ao : Option Addr} : ∀ (n : Nat), (∀ j, j < n → ∃ g o a h l, ao = some ⟨g, o, none⟩ ∧ g < W.heap.size ∧ W.cell? ⟨g, o + j * 3, none⟩ = some (.int .i64 a) ∧ W.cell? ⟨g, o + j * 3 + 1, none⟩ = some (.int .u64 h) ∧ W.cell? ⟨g, o + j * 3 + 2, none⟩ = some (.int .u64 l)) → ∃ L : List Pe, L.length = n ∧ PsRd W ao L
  | 0, _ => ⟨[], rfl, fun j p hp => by cases hp⟩
  | n + 1, hall => by
    obtain ⟨L, hL, hrd⟩ := psrd_of n (fun j hj => hall j (by omega))
    obtain ⟨g, o, a, h, l, e, h0, h1, h2, h3⟩ := hall n (by omega)
    refine ⟨L ++ [⟨a, h, l⟩], by rw [List.length_append, hL]; rfl, fun j p hp => ?_⟩
    rcases Nat.lt_trichotomy j L.length with hj | hj | hj
    · rw [List.getElem?_append_left hj] at hp; exact hrd j p hp
    · subst hj; rw [List.getElem?_append_right (Nat.le_refl _), Nat.sub_self] at hp; cases hp
      rw [hL]
      refine ⟨g, o, e, h0, fun q hq => ?_⟩
      match q, hq with
      | 0, _ => exact h1
      | 1, _ => exact h2
      | 2, _ => exact h3
    · rw [List.getElem?_eq_none (by rw [List.length_append]; simp; omega)] at hp; cases hp
theorem one_at {l : List Value} {a : Nat} {v : Value} (h : (l.drop a).take 1 = [v]) : l[a]? = some v := by
  have h2 : ((l.drop a).take 1)[0]? = some v := by rw [h]; rfl
  rw [List.getElem?_take, if_pos (by omega), List.getElem?_drop] at h2
  exact h2
theorem two_at {l : List Value} {a : Nat} {u v : Value} (h : (l.drop a).take 2 = [u, v]) : l[a]? = some u ∧ l[a + 1]? = some v := by
  have h2 : ((l.drop a).take 2)[0]? = some u := by rw [h]; rfl
  have h3 : ((l.drop a).take 2)[1]? = some v := by rw [h]; rfl
  rw [List.getElem?_take, if_pos (by omega), List.getElem?_drop] at h2 h3
  exact ⟨h2, h3⟩
theorem some_at {α : Type} {xs : List α} {n i : Nat} (h : xs.length = n) (hi : i < n) : ∃ y, xs[i]? = some y := ⟨_, List.getElem?_eq_getElem (by omega)⟩
/-- n ops of a script lie from ao on -/
def OpsRd (W : World) (ao : Option Addr) (n : Nat) : Prop := ∀ q, q < n → ∃ (g o : Nat) (oc : List Value) (kind i : Int) (lo : Option Addr) (ln lc : Nat) (L : List Pe) (ph pl mk mf mt mid mph mpl mhops : Int), ao = some ⟨g, o, none⟩ ∧ g < W.heap.size ∧ W.rangeAt g (o + q * 54) oc ∧ OpIs W W.heap.size oc kind i lo ln lc L ph pl mk mf mt mid mph mpl mhops
section
variable {H : Type} {enc : TypeId × Value → H} {W : World} {held : Bool}
/-- a position, by its reading -/
theorem pos_of {fuel : Nat} {cs : List Value} {x : DataW H × List MemPlace} (h : DataW.trod enc Try.prog W 0 (fun _ => true) held fuel 24 cs = some x) : ∃ a b, cs = [.int .u64 a, .int .u64 b] := by
  obtain ⟨y0, y1, n2, hy, hl, t0, t1⟩ := Go.ChangeShapes.trod_struct2 Try.underlying24 h
  have c42 : Try.prog.cellsOf 24 = 2 := by kernel_rfl
  have c6 : Try.prog.cellsOf 22 = 1 := by kernel_rfl
  rw [c42] at hl
  match cs, hl with
  | [u0, u1], _ =>
    change DataW.trod enc Try.prog W 0 (fun _ => true) held n2 22 (([u0, u1].drop 0).take (Try.prog.cellsOf 22)) = some y0 at t0
    change DataW.trod enc Try.prog W 0 (fun _ => true) held n2 22 (([u0, u1].drop 1).take (Try.prog.cellsOf 22)) = some y1 at t1
    rw [c6] at t0 t1
    simp only [List.drop_zero, List.take_succ_cons, List.take_zero, List.drop_succ_cons] at t0 t1
    obtain ⟨x, e0, _, _⟩ := DataW.trod_int Try.underlying22 t0
    obtain ⟨y, e1, _, _⟩ := DataW.trod_int Try.underlying22 t1
    simp only [List.cons.injEq, and_true] at e0 e1
    subst e0 e1
    exact ⟨x, y, rfl⟩
/-- a slice of peers, by its reading -/
theorem peers_of {fuel : Nat} {cs0 : List Value} {d : DataW H} {p : List MemPlace} (h : DataW.trod enc Try.prog W 0 (fun _ => true) held fuel 39 cs0 = some (d, p)) :
    ∃ ao n cap L, cs0 = [.slice ao n cap] ∧ L.length = n ∧ n ≤ cap ∧ cap ≤ maxLen ∧ PsRd W ao L ∧ (n = 0 ∨ ∃ elems spare, d = .slice elems spare ∧ elems.length = n) := by
  rcases open_slice Try.underlying39 h with ⟨hcs, hx⟩ | ⟨a, len, cap, m, f, D, Pl, hcs, hb, hl, hm, hmm, hx, hall⟩
  · exact ⟨none, 0, 0, [], hcs, rfl, Nat.le_refl _, Nat.zero_le _, PsRd.nil _ _, .inl rfl⟩
  · simp only [if_true] at hmm
    have c3 : Try.prog.cellsOf 26 = 3 := by kernel_rfl
    have c2 : Try.prog.cellsOf 24 = 2 := by kernel_rfl
    have c1 : Try.prog.cellsOf 3 = 1 := by kernel_rfl
    have hds : d = .slice ((List.range len).map D) ((List.range (m - len)).map fun j => D (len + j)) := congrArg Prod.fst hx
    have key : ∃ L : List Pe, L.length = len ∧ PsRd W (some a) L := psrd_of len fun i hi => by
      obtain ⟨g, o, rfl⟩ : ∃ g o, a = ⟨g, o, none⟩ := by
        obtain ⟨cs', h1, h2⟩ := hall 0 (by omega)
        rw [Nat.zero_mul, add_zero, c3] at h1
        obtain ⟨hl2, hce⟩ := cells_each h1
        match cs', hl2 with
        | [u0, u1, u2], _ =>
          have h7 := hce 0 (by omega)
          rw [add_zero] at h7
          simp only [List.getElem?_cons_zero] at h7
          exact no_spot h7
      obtain ⟨cs', h1, h2⟩ := hall i (by omega)
      rw [c3] at h1
      obtain ⟨hl2, hce⟩ := cells_each h1
      obtain ⟨y0, y1, n2, hy, _, t0, t1⟩ := Go.ChangeShapes.trod_struct2 Try.underlying26 h2
      match cs', hl2 with
      | [u0, u1, u2], _ =>
        change DataW.trod enc Try.prog W 0 (fun _ => true) held n2 3 (([u0, u1, u2].drop 0).take (Try.prog.cellsOf 3)) = some y0 at t0
        change DataW.trod enc Try.prog W 0 (fun _ => true) held n2 24 (([u0, u1, u2].drop 1).take (Try.prog.cellsOf 24)) = some y1 at t1
        rw [c1] at t0
        rw [c2] at t1
        simp only [List.drop_zero, List.take_succ_cons, List.take_zero, List.drop_succ_cons] at t0 t1
        obtain ⟨x, e0, _, _⟩ := DataW.trod_int Try.underlying3 t0
        obtain ⟨ph, pl, e1⟩ := pos_of t1
        simp only [List.cons.injEq, and_true] at e0 e1
        obtain ⟨e1, e2⟩ := e1
        subst e0 e1 e2
        have q0 := hce 0 (by omega)
        have q1 := hce 1 (by omega)
        have q2 := hce 2 (by omega)
        simp only [List.getElem?_cons_zero, List.getElem?_cons_succ] at q0 q1 q2
        rw [add_zero, Addr.add_lit] at q0
        rw [Addr.add_lit, Addr.add_lit] at q1 q2
        exact ⟨g, o, x, ph, pl, rfl, World.block_lt_of_cell? W _ q0, q0, q1, q2⟩
    obtain ⟨L, hL, hrd⟩ := key
    exact ⟨some a, len, cap, L, hcs, hL, hl, hm, hrd, .inr ⟨_, _, hds, by simp⟩⟩
/-- a message, by its reading -/
theorem msg_of {fuel : Nat} {cs : List Value} {x : DataW H × List MemPlace} (h : DataW.trod enc Try.prog W 0 (fun _ => true) held fuel 66 cs = some x) : ∃ k f t id ph pl hops, MsgIs cs.toArray k f t id ph pl hops ∧ 0 ≤ id ∧ id < 18446744073709551616 := by
  obtain ⟨xs, n, _, rfl, hl, hlen, hf⟩ := DataW.trod_struct Try.underlying66 h
  have c49 : Try.prog.cellsOf 66 = 49 := by kernel_rfl
  have cK : Try.prog.cellsOf 40 = 1 := by kernel_rfl
  have c1 : Try.prog.cellsOf 3 = 1 := by kernel_rfl
  have c6 : Try.prog.cellsOf 22 = 1 := by kernel_rfl
  have c2 : Try.prog.cellsOf 24 = 2 := by kernel_rfl
  rw [c49] at hl
  have hx : xs.length = 23 := by rw [hlen]; rfl
  obtain ⟨y0, hy0⟩ := some_at hx (i := 0) (by omega)
  obtain ⟨y1, hy1⟩ := some_at hx (i := 1) (by omega)
  obtain ⟨y2, hy2⟩ := some_at hx (i := 2) (by omega)
  obtain ⟨y8, hy8⟩ := some_at hx (i := 8) (by omega)
  obtain ⟨y20, hy20⟩ := some_at hx (i := 20) (by omega)
  obtain ⟨y21, hy21⟩ := some_at hx (i := 21) (by omega)
  have t0 := hf 0 _ rfl
  have t1 := hf 1 _ rfl
  have t2 := hf 2 _ rfl
  have t8 := hf 8 _ rfl
  have t20 := hf 20 _ rfl
  have t21 := hf 21 _ rfl
  rw [hy0] at t0; rw [hy1] at t1; rw [hy2] at t2; rw [hy8] at t8; rw [hy20] at t20; rw [hy21] at t21
  change DataW.trod enc Try.prog W 0 (fun _ => true) held n 40 ((cs.drop 0).take (Try.prog.cellsOf 40)) = some y0 at t0
  change DataW.trod enc Try.prog W 0 (fun _ => true) held n 3 ((cs.drop 1).take (Try.prog.cellsOf 3)) = some y1 at t1
  change DataW.trod enc Try.prog W 0 (fun _ => true) held n 3 ((cs.drop 2).take (Try.prog.cellsOf 3)) = some y2 at t2
  change DataW.trod enc Try.prog W 0 (fun _ => true) held n 22 ((cs.drop 20).take (Try.prog.cellsOf 22)) = some y8 at t8
  change DataW.trod enc Try.prog W 0 (fun _ => true) held n 24 ((cs.drop 45).take (Try.prog.cellsOf 24)) = some y20 at t20
  change DataW.trod enc Try.prog W 0 (fun _ => true) held n 3 ((cs.drop 47).take (Try.prog.cellsOf 3)) = some y21 at t21
  rw [cK] at t0
  rw [c1] at t1 t2 t21
  rw [c6] at t8
  rw [c2] at t20
  obtain ⟨k, e0, _, _⟩ := DataW.trod_int Try.underlying40 t0
  obtain ⟨f, e1, _, _⟩ := DataW.trod_int Try.underlying3 t1
  obtain ⟨t, e2, _, _⟩ := DataW.trod_int Try.underlying3 t2
  obtain ⟨id, e8, _, wid⟩ := DataW.trod_int Try.underlying22 t8
  obtain ⟨ph, pl, e20⟩ := pos_of t20
  obtain ⟨hops, e21, _, _⟩ := DataW.trod_int Try.underlying3 t21
  have p20 := two_at e20
  refine ⟨k, f, t, id, ph, pl, hops, ⟨by simpa using hl, ?_, ?_, ?_, ?_, ?_, ?_, ?_⟩, (bounds_u64 wid).1, by have := (bounds_u64 wid).2; omega⟩
  · rw [List.getElem?_toArray]; exact one_at e0
  · rw [List.getElem?_toArray]; exact one_at e1
  · rw [List.getElem?_toArray]; exact one_at e2
  · rw [List.getElem?_toArray]; exact one_at e8
  · rw [List.getElem?_toArray]; exact p20.1
  · rw [List.getElem?_toArray]; exact p20.2
  · rw [List.getElem?_toArray]; exact one_at e21
theorem ops_arg {ts : List TypeId} {ds : List (DataW H)} (hsz : (DataW.weightsEach Try.prog ts ds).all (· ≤ reachBytes) = true) {d : DataW H} (j : Nat) (ht : ts[j]? = some 29) (hd : ds[j]? = some d)
    {base : Nat} {v : Value} {p : List MemPlace} (ok : Value.okWide Try.prog W .any base 29 v) (k : DataW.Trod enc Try.prog W 0 (fun _ => true) held 29 v d p) :
    ∃ ao n cap, v = .slice ao n cap ∧ n ≤ cap ∧ n ≤ 140737488355328 ∧ OpsRd W ao n := by
  obtain ⟨a0, len0, cap0, rfl⟩ := okWide_slice Try.underlying29 ok
  obtain ⟨fuel, hf⟩ := k
  rcases open_slice Try.underlying29 hf with ⟨hcs, hx⟩ | ⟨a, len, cap, m, f, D, Pl, hcs, hb, hl, hm, hmm, hx, hall⟩
  · have e : Value.slice a0 len0 cap0 = .slice none 0 0 := by simpa [Value.cells] using hcs
    exact ⟨none, 0, 0, e, Nat.le_refl _, by omega, fun i hi => by omega⟩
  · have e : Value.slice a0 len0 cap0 = .slice (some a) len cap := by simpa [Value.cells] using hcs
    simp only [if_true] at hmm
    have c54 : Try.prog.cellsOf 68 = 54 := by kernel_rfl
    have c49 : Try.prog.cellsOf 66 = 49 := by kernel_rfl
    have c1 : Try.prog.cellsOf 3 = 1 := by kernel_rfl
    have c2 : Try.prog.cellsOf 24 = 2 := by kernel_rfl
    have c3 : Try.prog.cellsOf 39 = 1 := by kernel_rfl
    have hds : d = .slice ((List.range len).map D) ((List.range (m - len)).map fun j => D (len + j)) := congrArg Prod.fst hx
    refine ⟨some a, len, cap, e, hl, ?_, fun i hi => ?_⟩
    · subst hds
      have hsl := sized_slice hsz ht hd Try.underlying29
      have hby : 1 ≤ Try.prog.bytesOf 68 := of_decide_eq_true (by kernel_rfl)
      have hrb : reachBytes = 140737488351232 := rfl
      simp only [List.length_map, List.length_range] at hsl
      have : (len + (m - len)) * 1 ≤ (len + (m - len)) * Try.prog.bytesOf 68 := Nat.mul_le_mul_left _ hby
      omega
    · obtain ⟨cs', h1, h2⟩ := hall i (by omega)
      rw [c54] at h1
      obtain ⟨hl2, hce⟩ := cells_each h1
      obtain ⟨g, o, rfl⟩ : ∃ g o, a = ⟨g, o, none⟩ := by
        obtain ⟨cs0, h3, _⟩ := hall 0 (by omega)
        rw [Nat.zero_mul, add_zero, c54] at h3
        obtain ⟨hl3, hc3⟩ := cells_each h3
        have h7 := hc3 0 (by omega)
        rw [add_zero, List.getElem?_eq_getElem (by omega)] at h7
        exact no_spot h7
      have hrange : W.rangeAt g (o + i * 54) cs' := fun j v hv => by
        have hj := (List.getElem?_eq_some_iff.1 hv).1
        have h8 := hce j (by omega)
        rw [Addr.add_lit, Addr.add_lit, hv] at h8
        exact h8
      obtain ⟨xs, n2, _, hy, _, hlen, hfs⟩ := DataW.trod_struct Try.underlying68 h2
      have hx5 : xs.length = 5 := by rw [hlen]; rfl
      match xs, hx5 with
      | [y0, y1, y2, y3, y4], _ =>
        have t0 := hfs 0 _ rfl
        have t1 := hfs 1 _ rfl
        have t2 := hfs 2 _ rfl
        have t3 := hfs 3 _ rfl
        have t4 := hfs 4 _ rfl
        change DataW.trod enc Try.prog W 0 (fun _ => true) held n2 3 ((cs'.drop 0).take (Try.prog.cellsOf 3)) = some y0 at t0
        change DataW.trod enc Try.prog W 0 (fun _ => true) held n2 3 ((cs'.drop 1).take (Try.prog.cellsOf 3)) = some y1 at t1
        change DataW.trod enc Try.prog W 0 (fun _ => true) held n2 39 ((cs'.drop 2).take (Try.prog.cellsOf 39)) = some y2 at t2
        change DataW.trod enc Try.prog W 0 (fun _ => true) held n2 24 ((cs'.drop 3).take (Try.prog.cellsOf 24)) = some y3 at t3
        change DataW.trod enc Try.prog W 0 (fun _ => true) held n2 66 ((cs'.drop 5).take (Try.prog.cellsOf 66)) = some y4 at t4
        rw [c1] at t0 t1
        rw [c3] at t2
        rw [c2] at t3
        rw [c49] at t4
        obtain ⟨kind, e0, _, _⟩ := DataW.trod_int Try.underlying3 t0
        obtain ⟨ii, e1, _, _⟩ := DataW.trod_int Try.underlying3 t1
        obtain ⟨lo, ln, lc, L, e2, hln, hnc, hcm, hrd, h9⟩ := peers_of (d := y2.1) (p := y2.2) t2
        obtain ⟨ph, pl, e3⟩ := pos_of t3
        rw [List.take_of_length_le (by rw [List.length_drop]; omega)] at t4
        obtain ⟨mk, mf, mt, mid, mph, mpl, mhops, hmsg, hid⟩ := msg_of t4
        have hle : ln * 24 ≤ 140737488355328 := by
          rcases h9 with rfl | ⟨es, sp, e9, rfl⟩
          · omega
          · have hD : D i = .agg [y0.1, y1.1, .slice es sp, y3.1, y4.1] := by
              have := congrArg Prod.fst hy
              simp only at this
              rw [this, ← e9]
              rfl
            have hmem : (es.length + sp.length) * Try.prog.bytesOf 26 ∈ DataW.weights Try.prog 29 d := by
              rw [hds]
              have u1 := Try.underlying29
              simp only [DataW.weights, u1, List.mem_cons, List.mem_append]
              refine .inr (.inl ?_)
              have hin : ∀ (l : List (DataW H)) (x : DataW H), x ∈ l → ∀ n ∈ DataW.weights Try.prog 68 x, n ∈ DataW.weightsAll Try.prog 68 l := by
                intro l
                induction l with
                | nil => intro x hx; cases hx
                | cons y r ih =>
                  intro x hx n hn
                  simp only [DataW.weightsAll, List.mem_append]
                  rcases List.mem_cons.1 hx with rfl | hx
                  · exact .inl hn
                  · exact .inr (ih x hx n hn)
              refine hin _ (D i) (List.mem_map.2 ⟨i, by simp [hi], rfl⟩) _ ?_
              rw [hD]
              have u2 := Try.underlying68
              have u3 := Try.underlying39
              simp [DataW.weights, DataW.weightsEach, u2, u3]
            have := List.all_eq_true.1 hsz _ (DataW.weights_mem_each ht hd _ hmem)
            have hby : Try.prog.bytesOf 26 = 24 := by kernel_rfl
            rw [hby] at this
            have e : reachBytes = 140737488351232 := rfl
            simp at this
            omega
        have p3 := two_at e3
        have q0 := hce 0 (by omega)
        rw [List.getElem?_eq_getElem (by omega), add_zero, Addr.add_lit] at q0
        refine ⟨g, o, cs', kind, ii, lo, ln, lc, L, ph, pl, mk, mf, mt, mid, mph, mpl, mhops, rfl, World.block_lt_of_cell? W _ q0, hrange, ⟨hl2, one_at e0, one_at e1, one_at e2, p3.1, p3.2, hmsg, hid, hrd, hln, hle, ⟨hnc, hcm⟩, fun hne q hq => ?_⟩⟩
        obtain ⟨y, hy⟩ : ∃ y, L[0]? = some y := ⟨_, List.getElem?_eq_getElem (List.length_pos_iff.2 hne)⟩
        obtain ⟨g2, o2, e2', hg2, _⟩ := hrd 0 y hy
        subst e2'
        simp only [blk, List.mem_singleton] at hq
        subst hq
        exact hg2
end
end Go.Proofs.Ytokmchkoojeadaa.routePlays
