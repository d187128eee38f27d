/- Learn of a table. -/
import Derived.Test.YtokmchkoojeadaaMb
import Derived.Deep.AppendLies
import Derived.Deep.RegionLaw
namespace Go.Proofs.Ytokmchkoojeadaa
open Go.RowKit Go.Sort
set_option linter.unusedVariables false
set_option linter.unusedSimpArgs false
set_option maxRecDepth 100000
theorem peer_info : (Try.prog.info? 26).map (fun i => (i.zero, i.size, i.bytes)) = some (some (.agg #[.int .i64 0, .int .u64 0, .int .u64 0]), 3, 24) := by kernel_rfl
theorem pes_elem : Try.prog.underlying 39 = some (.slice (Try.prog.elem 39)) := by kernel_rfl
theorem pes_size (w : World) : (sizeOf (Try.prog.elem 39)).run Try.prog w = .ok 3 w := by kernel_rfl
theorem run_cuth (w : World) (g n cap hi : Nat) (h : hi ≤ cap) : (Instr.sliceAt 39 (.slice (some ⟨g, 0, none⟩) n cap) none (some (.int .i64 (hi : Int))) none).run Try.prog w = .ok (.slice (some ⟨g, 0, none⟩) hi cap) w := by
  rw [run_sliceAt_slice _ _ _ _ _ _ pes_elem, run_slice_h w _ _ n cap pes_elem .i64 (hi : Int) (by omega) (by omega), pes_size]
  simp [Result.andThen, sliced, Addr.add_lit]
theorem pe_one (x : Pe) : ∀ u ∈ x.list, u.oneCell' = true := by
  intro u hu
  simp only [Pe.list, List.mem_cons, List.not_mem_nil, or_false] at hu
  rcases hu with rfl | rfl | rfl <;> rfl
/-- what a table has learnt behind i fingers of f -/
def learnt (s : Pe) (F : List Pe) (i : Nat) (L : List Pe) : List Pe :=
  F.take i ++ (match F[i - 1]?, L[i - 1]? with | some f, some x => if btw f.h f.l x.h x.l s.h s.l then [x] else [] | _, _ => [])
section
variable {B b cap n xc : Nat} {ao xo : Option Addr} {s p c : Pe} {F L : List Pe}
set_option maxHeartbeats 400000 in
theorem learn_nil (v : Value) (w : World) : Calls Try.prog 20 #[.pointer none, .int .i64 1, v] w fun e w' => e = .returned (.int .i64 1) ∧ w = w' := by
  go_enter Try.func20, Try.ntmps20
  go_wp2_with fail
  go_ret
  exact ⟨rfl, rfl⟩
theorem owns_px {w : World} {g : Nat} (ho : w.ownsRow B 26 3 (.slice (some ⟨g, 0, none⟩) F.length cap) F.length (fl Pe.list F)) {j q : Nat} {x : Pe} (hj : F[j]? = some x) (hq : q < 3) : w.cell? ⟨g, j * 3 + q, none⟩ = x.list[q]? := by
  have hjl := (List.getElem?_eq_some_iff.1 hj).1
  rcases ho.2 with ⟨h2, h3⟩ | ⟨g', cap', cur, h2, hb, hg, h3, h4, h5, h6⟩
  · omega
  · cases h2
    have hl := ho.1
    have hlt : j * 3 + q < F.length * 3 := by omega
    rw [cell_of_row w g _ cur _ (0, 0) hg]
    have h7 := congrArg (·[j * 3 + q]?) h6
    simp only [List.getElem?_take] at h7
    rw [if_pos hlt, Array.getElem?_toList, fl_at pe_len F j q hq, hj] at h7
    exact h7
theorem news_pe {w : World} {x : Pe} {b : Nat} (h : w.heap[b]? = some (.cells #[.int .i64 x.n, .int .u64 x.h, .int .u64 x.l] 26 (0, 0))) : ∀ (j : Nat) (u : Value), x.list[j]? = some u → w.cell? ((⟨b, 0, none⟩ : Addr).add j) = some u := by
  intro j u hu
  have hadd : (⟨b, 0, none⟩ : Addr).add j = ⟨b, j, none⟩ := by unfold Addr.add; split <;> simp_all
  rw [hadd, cell_of_row w b j _ _ (0, 0) h]
  simpa using hu
theorem Holds.set {w : World} {L : List (Addr × Value)} (h : Holds w L) (a : Addr) (v : Value) (hn : ∀ p ∈ L, p.1 ≠ a) : Holds (w.setCell a v) L := fun p hp => by
  obtain ⟨h1, h2⟩ := h p hp
  exact ⟨(World.cell?_setCell_other _ _ _ _ (fun e => hn p hp e.symm)).trans h1, by simpa [World.setCell] using h2⟩
theorem own_gg {ao : Option Addr} {m cap gg H : Nat} (h : (Value.slice ao m cap).ownBlock = some gg ∨ gg = H) : gg ∈ blk ao ∨ gg = H := by
  rcases h with h | h
  · cases ao with
    | none => cases h
    | some a => simp [Value.ownBlock] at h; exact .inl (by simp [blk, h])
  · exact .inr h
set_option maxHeartbeats 12800000 in
theorem learn_yes (i : Nat) (w : World) (h : TbW w B b ao cap s p c F) (hi1 : 1 ≤ i) (hi4 : i < 4) (hiF : i ≤ F.length) (hF : F.length ≤ 1000) (hr : PsRd w xo L) (hn : L.length = n) (hm : mayTell L = true) (hx : L ≠ [] → ∀ q ∈ blk xo, q ∉ tbB b ao) :
    Calls Try.prog 20 #[.pointer (some ⟨b, 0, none⟩), .int .i64 (i : Int), .slice xo n xc] w fun e w' =>
      e = .returned (.int .i64 0) ∧ ∃ ao' cap', TbW w' B b ao' cap' s p c (learnt s F i L) ∧ Keep (tbB b ao) w w' ∧ ∀ q ∈ tbB b ao', q ∈ tbB b ao ∨ w.heap.size ≤ q := by
  have hn4 : n ≤ 4 := by
    unfold mayTell at hm
    rw [Bool.and_eq_true, decide_eq_true_eq] at hm
    omega
  have MT := Lib.hid (maytell_any (cap := xc) w hr hn (by omega))
  rw [hm] at MT
  obtain ⟨g, hao, _, hcap, hgB, hgl⟩ := owns_none h.own (by omega)
  subst hao
  obtain ⟨fl_, hfl⟩ : ∃ x, F.length = x := ⟨_, rfl⟩
  have t9 := h.row.at_ 9
  simp only [rowT, List.getElem?_toArray, List.getElem?_cons_succ, List.getElem?_cons_zero] at t9
  rw [hfl] at t9
  have hlt := h.row.lt
  have H := Lib.hid h; have HR := Lib.hid hr; have HN := Lib.hid hn; have HX := Lib.hid hx; have HFL := Lib.hid hfl; have HN4 := Lib.hid hn4; have HCAP := Lib.hid hcap; have HGL := Lib.hid hgl
  have k1 : decide ((i : Int) < 1) = false := by simp; omega
  have k2 : decide ((4 : Int) ≤ (i : Int)) = false := by simp; omega
  have k3 : decide ((fl_ : Int) < (i : Int)) = false := by simp; omega
  have k4 : (0 : Int) ≤ (i : Int) := by omega
  have k5 : (i : Int) ≤ (fl_ : Int) := by omega
  have k6 : (fl_ : Int) ≤ 1000 := by omega
  have HI := Lib.hid (show 1 ≤ i ∧ i < 4 ∧ i ≤ fl_ from ⟨hi1, hi4, by omega⟩)
  clear h hr hn hm hx hfl hn4 hi1 hi4 hiF hF hgB hgl hcap
  go_enter Try.func20, Try.ntmps20
  go_wp2_with fail
  refine MT.out.mono ?_; rintro e w1 ⟨rfl, b1⟩
  have t9' := (b1.cell (p := ⟨b, 9, none⟩) hlt).trans t9
  have f9' := (b1.frozen (p := ⟨b, 9, none⟩) hlt).trans (H.out.row.fr 9)
  have H1 := Lib.hid (H.out.below b1); have HR1 := Lib.hid (HR.out.below b1)
  have B1 := Lib.hid b1
  clear t9 MT b1
  have HCUT := Lib.hid (run_cuth w1 g fl_ cap i (by have := HCAP.out; have := HFL.out; have := HI.out; omega))
  have k2b : ¬ ((4 : Int) ≤ (i : Int)) := by simpa using k2
  go_upto_region 4 with (first
    | (refine wpList_value rfl _ (exec_slice (w := w1) (vx := .slice (some ⟨g, 0, none⟩) fl_ cap) (lv := none) (hv := some (.int .i64 (i : Int))) 39 (.tmp 35) none (some (.tmp 36)) rfl rfl rfl rfl HCUT.out) ?_))
  have h2 : TbW (w1.setCell ⟨b, 9, none⟩ (.slice (some ⟨g, 0, none⟩) i cap)) B b (some ⟨g, 0, none⟩) cap s p c (F.take i) := by
    have hle : i ≤ F.length := by have := HI.out; have := HFL.out; omega
    have hlen : (F.take i).length = i := by rw [List.length_take]; omega
    have kc := Keep.setCell w1 ⟨b, 9, none⟩ (.slice (some ⟨g, 0, none⟩) i cap)
    refine ⟨?_, H.out.base, ?_, H.out.ne⟩
    · show (w1.setCell _ _).heap[b]? = _
      rw [hlen]
      exact heap_setCell_same w1 b 9 _ _ _ H1.out.row
    · rw [hlen, ← fl_take pe_len F i]
      exact owns_keep (owns_take H1.out.own i hle) kc (blk_own _ _ _ fun q hq hm => by simp only [List.mem_singleton] at hm; exact H.out.ne (hm ▸ hq))
  have k2' := Keep.setCell w1 ⟨b, 9, none⟩ (.slice (some ⟨g, 0, none⟩) i cap)
  have K2 := Lib.hid ((Keep.of_below B1.out [b]).trans k2')
  have HR2 := Lib.hid (HR1.out.keep k2' (fun hne q hq hm => by simp only [List.mem_singleton] at hm; exact HX.out hne q hq (hm ▸ List.mem_cons_self ..)))
  have H2 := Lib.hid h2
  clear t9' f9' HCUT k2b k2' h2 H1 HR1 B1
  generalize w1.setCell ⟨b, 9, none⟩ (.slice (some ⟨g, 0, none⟩) i cap) = w2 at *
  obtain ⟨k, hk⟩ : ∃ k : Nat, i = k + 1 := ⟨i - 1, by have := HI.out; omega⟩
  have hik : (i : Int) - 1 = (k : Int) := by omega
  have HK := Lib.hid hk
  have hlen : (F.take i).length = i := by rw [List.length_take]; have := HI.out; have := HFL.out; omega
  have HLEN := Lib.hid hlen
  obtain ⟨f, hf⟩ : ∃ f, F[k]? = some f := ⟨_, List.getElem?_eq_getElem (by have := HI.out; have := HFL.out; omega)⟩
  have HF := Lib.hid hf
  have t9 := H2.out.row.at_ 9; have t1 := H2.out.row.at_ 1; have t2 := H2.out.row.at_ 2
  simp only [rowT, List.getElem?_toArray, List.getElem?_cons_succ, List.getElem?_cons_zero] at t9 t1 t2
  rw [hlen] at t9
  have hft : (F.take i)[k]? = some f := by rw [List.getElem?_take, if_pos (by omega)]; exact hf
  have a1 := owns_px H2.out.own hft (q := 1) (by omega); have a2 := owns_px H2.out.own hft (q := 2) (by omega)
  simp only [List.getElem?_cons_succ, List.getElem?_cons_zero] at a1 a2
  replace t9 := cell_regrown t9; replace t1 := cell_regrown t1; replace t2 := cell_regrown t2; replace a1 := cell_regrown a1; replace a2 := cell_regrown a2
  have k0 : (0 : Int) ≤ (k : Int) := by omega
  have k7 : (k : Int) < (i : Int) := by omega
  clear k1 k2 k3 k4 k5 hk hf hft hlen
  have hnn : (n : Int) ≤ 4 := by have := HN4.out; omega
  by_cases hin : i ≤ n
  · obtain ⟨x, hx⟩ : ∃ x, L[k]? = some x := ⟨_, List.getElem?_eq_getElem (by have := HN.out; have := HK.out; omega)⟩
    obtain ⟨gx, ox, rfl, hgx, hc⟩ := HR2.out k x hx
    have y1 := hc 1 (by omega); have y2 := hc 2 (by omega)
    simp only [List.getElem?_cons_succ, List.getElem?_cons_zero] at y1 y2
    replace y1 := cell_regrown y1; replace y2 := cell_regrown y2
    have HXX := Lib.hid hx
    have HC := Lib.hid hc; have HGX := Lib.hid hgx
    have i1 : decide ((i : Int) ≤ (n : Int)) = true := by simp; omega
    have i3 : decide (i ≤ n) = true := decide_eq_true hin
    have i4 : (i : Int) ≤ (n : Int) := by omega
    have i2 : (k : Int) < (n : Int) := by omega
    have CB := Lib.hid (fun d os => Calls.regrown_of (between_any f.h f.l x.h x.l s.h s.l (grow (redrawn w2 d) os)))
    obtain ⟨bt, hbt⟩ : ∃ y, btw f.h f.l x.h x.l s.h s.l = y := ⟨_, rfl⟩
    rw [hbt] at CB
    have HBT := Lib.hid hbt
    clear hx hc hbt hgx
    refine wp_region_quiet_below (by kernel_rfl) (by kernel_rfl) ?_
    repeat (go_big_quiet_step (exact CB.out _ _))
    refine wpQuiet_nil ?_
    intro _ hw'
    obtain ⟨⟨dq, osq⟩, hw''⟩ := hw'
    subst hw''
    have lk := below_regrown w2 dq osq
    have H3 := Lib.hid (H2.out.below lk); have HR3 := Lib.hid (HR2.out.below lk)
    have K3 := Lib.hid (K2.out.trans (Keep.of_below lk _))
    have hlt3 := H3.out.row.lt
    clear lk t9 t1 t2 a1 a2 y1 y2 CB i1 i3 i4 H2 HR2 K2
    generalize grow (redrawn w2 dq) osq = w3 at *
    cases bt with
    | false =>
      go_wp2_with fail
      go_ret
      refine ⟨rfl, some ⟨g, 0, none⟩, cap, ?_, K3.out.mono (fun q hq => .inl (by simp only [List.mem_singleton] at hq; rw [hq]; exact List.mem_cons_self ..)), fun q hq => .inl hq⟩
      have e : learnt s F i L = F.take i := by
        unfold learnt
        rw [show i - 1 = k by have := HK.out; omega, HF.out, HXX.out]
        simp only [HBT.out, Bool.false_eq_true, if_false, List.append_nil]
      rw [e]
      exact H3.out
    | true =>
      go_upto_region 5 with (fail)
      obtain ⟨i0, hi0, hz0, hz1, hz2⟩ := info_parts peer_info
      have HI0 := Lib.hid hi0; have HZ0 := Lib.hid hz0; have HZ1 := Lib.hid hz1; have HZ2 := Lib.hid hz2
      clear hi0 hz0 hz1 hz2
      obtain ⟨gx', ox', e, hgx3, hc3⟩ := HR3.out k x HXX.out
      cases e
      have y0 := hc3 0 (by omega); have y1 := hc3 1 (by omega); have y2 := hc3 2 (by omega)
      simp only [List.getElem?_cons_succ, List.getElem?_cons_zero, Nat.add_zero] at y0 y1 y2
      have HHL : Hid (Holds w3 [(⟨gx, ox + k * 3, none⟩, .int .i64 x.n), (⟨gx, ox + k * 3 + 1, none⟩, .int .u64 x.h), (⟨gx, ox + k * 3 + 2, none⟩, .int .u64 x.l)]) := Lib.hid (.cons y0 hgx3 (.cons y1 hgx3 (.cons y2 hgx3 (.nil _))))
      have hLne : L ≠ [] := by intro e; have := HXX.out; rw [e] at this; cases this
      have HGB := Lib.hid (show gx ≠ b from fun e => HX.out hLne gx (by simp [blk]) (e ▸ List.mem_cons_self ..))
      have HGG := Lib.hid (show gx ≠ g from fun e => HX.out hLne gx (by simp [blk]) (List.mem_cons_of_mem _ (by simp [blk, e])))
      have HBG := Lib.hid (show b ≠ g from fun e => H.out.ne (by simp [blk, e]))
      have HWR := Lib.hid (show IntKind.i64.wrap (k : Int) = (k : Int) from by rw [IntWalk.i64_in _ (by have := HI.out; have := HK.out; omega)])
      clear y0 y1 y2 hc3 hgx3 hLne
      refine wp_region_held_drew (S := fun w' => Holds w' [(⟨gx, ox + k * 3, none⟩, .int .i64 x.n), (⟨gx, ox + k * 3 + 1, none⟩, .int .u64 x.h), (⟨gx, ox + k * 3 + 2, none⟩, .int .u64 x.l)]) (by kernel_rfl) (HHL.out.drew) (fun s0 => ?_)
      have BD : Hid (Below w3.heap.size w3 w3.drew) := Lib.hid (Below.refl _ _).drew
      generalize w3.drew = wd at *
      have H4 := Lib.hid (H3.out.below BD.out)
      have y9 := H4.out.row.at_ 9
      simp only [rowT, List.getElem?_toArray, List.getElem?_cons_succ, List.getElem?_cons_zero] at y9
      rw [HLEN.out] at y9
      refine wpAnyH_take (i := 0) (v := .pointer (some ⟨b, 0, none⟩)) rfl (by kernel_rfl) (by kernel_rfl) (by kernel_rfl) (fun _ _ _ h => h) (Or.inl ⟨by rfl, fun w' hw' => by go_simp⟩) s0 ?_
      try simp only [Act.put, List.getElem_toArray, List.getElem_cons_succ, List.getElem_cons_zero, List.setIfInBounds_toArray, List.set_cons_zero, List.set_cons_succ, Nat.zero_add, List.nil_append]
      refine wpAnyH_take (i := 1) (v := .pointer (some ⟨b, 0, none⟩)) rfl (by kernel_rfl) (by kernel_rfl) (by kernel_rfl) (fun _ _ _ h => h) (Or.inl ⟨by rfl, fun w' hw' => by go_simp⟩) s0 ?_
      try simp only [Act.put, List.getElem_toArray, List.getElem_cons_succ, List.getElem_cons_zero, List.setIfInBounds_toArray, List.set_cons_zero, List.set_cons_succ, Nat.zero_add, List.nil_append]
      refine wpAnyH_take (i := 2) (v := .pointer (some ⟨b, 0, none⟩)) rfl (by kernel_rfl) (by kernel_rfl) (by kernel_rfl) (fun _ _ _ h => h) (Or.inl ⟨by rfl, fun w' hw' => by go_simp⟩) s0 ?_
      try simp only [Act.put, List.getElem_toArray, List.getElem_cons_succ, List.getElem_cons_zero, List.setIfInBounds_toArray, List.set_cons_zero, List.set_cons_succ, Nat.zero_add, List.nil_append]
      refine wpAnyH_take (i := 3) (v := .pointer (some ⟨b, 9, none⟩)) rfl (by kernel_rfl) (by kernel_rfl) (by kernel_rfl) (fun _ _ _ h => h) (Or.inl ⟨by rfl, fun w' hw' => by go_simp⟩) s0 ?_
      try simp only [Act.put, List.getElem_toArray, List.getElem_cons_succ, List.getElem_cons_zero, List.setIfInBounds_toArray, List.set_cons_zero, List.set_cons_succ, Nat.zero_add, List.nil_append]
      refine wpAnyH_take (i := 5) (v := .slice (some ⟨gx, ox, none⟩) n xc) rfl (by kernel_rfl) (by kernel_rfl) (by kernel_rfl) (fun _ _ _ h => h) (Or.inl ⟨by rfl, fun w' hw' => by go_simp⟩) s0 ?_
      try simp only [Act.put, List.getElem_toArray, List.getElem_cons_succ, List.getElem_cons_zero, List.setIfInBounds_toArray, List.set_cons_zero, List.set_cons_succ, Nat.zero_add, List.nil_append]
      refine wpAnyH_take (i := 6) (v := .int .i64 (i : Int)) rfl (by kernel_rfl) (by kernel_rfl) (by kernel_rfl) (fun _ _ _ h => h) (Or.inl ⟨by rfl, fun w' hw' => by go_simp⟩) s0 ?_
      try simp only [Act.put, List.getElem_toArray, List.getElem_cons_succ, List.getElem_cons_zero, List.setIfInBounds_toArray, List.set_cons_zero, List.set_cons_succ, Nat.zero_add, List.nil_append]
      refine wpAnyH_take (i := 7) (v := .int .i64 (k : Int)) rfl (by kernel_rfl) (by kernel_rfl) (by kernel_rfl) (fun _ _ _ h => h) (Or.inl ⟨by rfl, fun w' hw' => by (go_simp; exact HWR.out)⟩) s0 ?_
      try simp only [Act.put, List.getElem_toArray, List.getElem_cons_succ, List.getElem_cons_zero, List.setIfInBounds_toArray, List.set_cons_zero, List.set_cons_succ, Nat.zero_add, List.nil_append]
      refine wpAnyH_take (i := 8) (v := .pointer (some ⟨gx, ox + k * 3, none⟩)) rfl (by kernel_rfl) (by kernel_rfl) (by kernel_rfl) (fun _ _ _ h => h) (Or.inl ⟨by rfl, fun w' hw' => by go_simp⟩) s0 ?_
      try simp only [Act.put, List.getElem_toArray, List.getElem_cons_succ, List.getElem_cons_zero, List.setIfInBounds_toArray, List.set_cons_zero, List.set_cons_succ, Nat.zero_add, List.nil_append]
      refine wpAnyH_take (i := 9) (v := .agg #[.int .i64 x.n, .int .u64 x.h, .int .u64 x.l]) rfl (by kernel_rfl) (by kernel_rfl) (by kernel_rfl) (fun _ _ _ h => h) (Or.inl ⟨by rfl, fun w' hw' => by have q0 := hw'.head; have q1 := hw'.tail.head; have q2 := hw'.tail.tail.head; go_simp⟩) s0 ?_
      try simp only [Act.put, List.getElem_toArray, List.getElem_cons_succ, List.getElem_cons_zero, List.setIfInBounds_toArray, List.set_cons_zero, List.set_cons_succ, Nat.zero_add, List.nil_append]
      refine wpAnyH_ready (rs := [4, 10]) (by kernel_rfl) (by simp) ?_
      refine AllReadyH.cons rfl (fun K hK => ?_) (AllReadyH.cons rfl (fun K hK => ?_) AllReadyH.nil)
      · skip
        rw [if_pos (by rfl)]
        go_simp
        refine hK.out _ _ s0 (fun _ => ?_)
        clear hK K
        try simp only [Act.put, List.getElem_toArray, List.getElem_cons_succ, List.getElem_cons_zero, List.setIfInBounds_toArray, List.set_cons_zero, List.set_cons_succ, Nat.zero_add, List.nil_append]
        refine wpAnyH_ready (rs := [10]) (by kernel_rfl) (by simp) ?_
        refine AllReadyH.cons rfl (fun K hK => ?_) AllReadyH.nil
        rw [if_pos (by rfl)]
        go_simp
        have b3 : Below wd.heap.size wd (wd.alloc (.cells #[.int .i64 x.n, .int .u64 x.h, .int .u64 x.l] 26)) := below_alloc (Below.refl _ _) _
        have r3 := heap_alloc_new wd (.cells #[.int .i64 x.n, .int .u64 x.h, .int .u64 x.l] 26)
        have s1 := s0.below b3
        have H5 := Lib.hid (H4.out.below b3)
        have B5 := Lib.hid (BD.out.trans (b3.mono BD.out.size))
        generalize wd.alloc (.cells #[.int .i64 x.n, .int .u64 x.h, .int .u64 x.l] 26) = v3 at *
        obtain ⟨pb, hpb⟩ : ∃ q, q = wd.heap.size := ⟨_, rfl⟩
        rw [← hpb] at r3 ⊢
        have R3 := Lib.hid r3
        clear b3 r3 hpb y9
        have y9 := H5.out.row.at_ 9
        simp only [rowT, List.getElem?_toArray, List.getElem?_cons_succ, List.getElem?_cons_zero] at y9
        rw [HLEN.out] at y9
        refine hK.out _ _ s1 (fun _ => ?_)
        clear hK K
        try simp only [Act.put, List.getElem_toArray, List.getElem_cons_succ, List.getElem_cons_zero, List.setIfInBounds_toArray, List.set_cons_zero, List.set_cons_succ, Nat.zero_add, List.nil_append]
        refine wpAnyH_ready (rs := [11]) (by kernel_rfl) (by simp) ?_
        refine AllReadyH.cons rfl (fun K hK => ?_) AllReadyH.nil
        rw [if_pos (by rfl)]
        have hxown : v3.ownsRow B 26 3 (.slice (some ⟨g, 0, none⟩) i cap) i (fl Pe.list (F.take i)) := by have := H5.out.own; rwa [HLEN.out] at this
        refine wp_append_lies _ (.tmp 71) (.tmp 77) 39 rfl B 26 i0 _ 3 24 Try.underlying39 HI0.out HZ0.out HZ1.out HZ2.out rfl (by decide) (.slice (some ⟨g, 0, none⟩) i cap) i (fl Pe.list (F.take i)) rfl hxown ⟨pb, 0, none⟩ 1 1 x.list rfl rfl (news_pe R3.out) (pe_one x) (by decide) (by have := HI.out; unfold maxLen; omega) (by have := HI.out; omega) (by have := H5.out.base; have := H5.out.row.lt; omega) _ rfl ?_
        intro ga ca v4 own4 gr4 at4 lt4
        have kg : Keep (blk (some ⟨g, 0, none⟩)) v3 v4 := keep_grown gr4
        have nb9 : b ∉ blk (some (⟨g, 0, none⟩ : Addr)) := by simp [blk]; exact HBG.out
        have z0 := (kg.cell (a := ⟨b, 9, none⟩) H5.out.row.lt nb9).trans y9
        have z1 := (kg.frozen (a := ⟨b, 9, none⟩) H5.out.row.lt nb9).trans (H5.out.row.fr 9)
        have s4 : Holds v4 [(⟨gx, ox + k * 3, none⟩, .int .i64 x.n), (⟨gx, ox + k * 3 + 1, none⟩, .int .u64 x.h), (⟨gx, ox + k * 3 + 2, none⟩, .int .u64 x.l)] := by
          have q0 := s1.head; have q1 := s1.tail.head; have q2 := s1.tail.tail.head; have ql := s1.lt
          have ngx : gx ∉ blk (some (⟨g, 0, none⟩ : Addr)) := by simp [blk]; exact HGG.out
          exact .cons ((kg.cell (a := ⟨gx, ox + k * 3, none⟩) ql ngx).trans q0) (Nat.lt_of_lt_of_le ql kg.size) (.cons ((kg.cell (a := ⟨gx, ox + k * 3 + 1, none⟩) ql ngx).trans q1) (Nat.lt_of_lt_of_le ql kg.size) (.cons ((kg.cell (a := ⟨gx, ox + k * 3 + 2, none⟩) ql ngx).trans q2) (Nat.lt_of_lt_of_le ql kg.size) (.nil _)))
        have R4 := Lib.hid (H5.out.row.keep kg nb9)
        have OWN4 := Lib.hid own4; have AT4 := Lib.hid (own_gg at4); have LT4 := Lib.hid lt4
        have K4 := Lib.hid (((K3.out.trans (Keep.of_below B5.out [b])).mono (T := tbB b (some ⟨g, 0, none⟩)) (fun q hq => .inl (by simp only [List.mem_singleton] at hq; rw [hq]; exact List.mem_cons_self ..))).trans (kg.mono (fun q hq => .inl (List.mem_cons_of_mem _ hq))))
        have S3 := Lib.hid (show w.heap.size ≤ v3.heap.size from Nat.le_trans K3.out.size B5.out.size)
        clear own4 gr4 at4 lt4 kg nb9 y9
        refine hK.out _ _ s4 (fun _ => ?_)
        clear hK K
        try simp only [Act.put, List.getElem_toArray, List.getElem_cons_succ, List.getElem_cons_zero, List.setIfInBounds_toArray, List.set_cons_zero, List.set_cons_succ, Nat.zero_add, List.nil_append]
        refine wpAnyH_take (i := 12) (v := .pointer (some ⟨b, 0, none⟩)) rfl (by kernel_rfl) (by kernel_rfl) (by kernel_rfl) (fun _ _ _ h => h) (Or.inl ⟨by rfl, fun w' hw' => by go_simp⟩) s4 ?_
        try simp only [Act.put, List.getElem_toArray, List.getElem_cons_succ, List.getElem_cons_zero, List.setIfInBounds_toArray, List.set_cons_zero, List.set_cons_succ, Nat.zero_add, List.nil_append]
        refine wpAnyH_take (i := 13) (v := .pointer (some ⟨b, 9, none⟩)) rfl (by kernel_rfl) (by kernel_rfl) (by kernel_rfl) (fun _ _ _ h => h) (Or.inl ⟨by rfl, fun w' hw' => by go_simp⟩) s4 ?_
        try simp only [Act.put, List.getElem_toArray, List.getElem_cons_succ, List.getElem_cons_zero, List.setIfInBounds_toArray, List.set_cons_zero, List.set_cons_succ, Nat.zero_add, List.nil_append]
        refine wpAnyH_ready (rs := [14]) (by kernel_rfl) (by simp) ?_
        refine AllReadyH.cons rfl (fun K hK => ?_) AllReadyH.nil
        rw [if_pos (by rfl)]
        go_simp
        have s5 := s4.set ⟨b, 9, none⟩ (.slice (some ⟨ga, 0, none⟩) (i + 1) ca) (by intro p hp; simp only [List.mem_cons, List.not_mem_nil, or_false] at hp; rcases hp with rfl | rfl | rfl <;> (intro e; simp only [Addr.mk.injEq] at e; exact HGB.out e.1))
        refine hK.out _ _ s5 (fun _ => ?_)
        clear hK K
        try simp only [Act.put, List.getElem_toArray, List.getElem_cons_succ, List.getElem_cons_zero, List.setIfInBounds_toArray, List.set_cons_zero, List.set_cons_succ, Nat.zero_add, List.nil_append]
        refine wpAnyH_done (by kernel_rfl) ?_ _
        clear s0 s1 s4 s5 z0 z1
        have kc := Keep.setCell v4 ⟨b, 9, none⟩ (.slice (some ⟨ga, 0, none⟩) (i + 1) ca)
        have hgb : b ≠ ga := fun e => by
          rcases AT4.out with h1 | h1
          · exact H.out.ne (e ▸ h1)
          · have := H5.out.row.lt; omega
        have e : learnt s F i L = F.take i ++ [x] := by
          unfold learnt
          rw [show i - 1 = k by have := HK.out; omega, HF.out, HXX.out]
          simp only [HBT.out, if_true]
        have hl1 : (F.take i ++ [x]).length = i + 1 := by rw [List.length_append, HLEN.out]; rfl
        have END : Hid (TbW (v4.setCell ⟨b, 9, none⟩ (.slice (some ⟨ga, 0, none⟩) (i + 1) ca)) B b (some ⟨ga, 0, none⟩) ca s p c (learnt s F i L)) := Lib.hid (by
          rw [e]
          refine ⟨?_, H.out.base, ?_, by simp [blk]; exact hgb⟩
          · show (v4.setCell _ _).heap[b]? = _
            rw [hl1]
            exact heap_setCell_same v4 b 9 _ _ _ R4.out
          · rw [hl1, fl_app, fl_one]
            exact owns_keep OWN4.out kc (blk_own _ _ _ fun q hq hm => by simp only [List.mem_singleton] at hm; simp only [blk, List.mem_singleton] at hq; omega))
        have K6 := Lib.hid (K4.out.trans (kc.mono (T := tbB b (some ⟨g, 0, none⟩)) (fun q hq => .inl (by simp only [List.mem_singleton] at hq; rw [hq]; exact List.mem_cons_self ..))))
        have NEW := Lib.hid (show ∀ q ∈ tbB b (some (⟨ga, 0, none⟩ : Addr)), q ∈ tbB b (some (⟨g, 0, none⟩ : Addr)) ∨ w.heap.size ≤ q from fun q hq => by
          rcases List.mem_cons.1 hq with rfl | hq
          · exact .inl (List.mem_cons_self ..)
          · simp only [blk, List.mem_singleton] at hq
            subst hq
            rcases AT4.out with h1 | h1
            · exact .inl (List.mem_cons_of_mem _ h1)
            · right; rw [h1]; exact S3.out)
        clear kc hgb e hl1
        generalize v4.setCell ⟨b, 9, none⟩ (.slice (some ⟨ga, 0, none⟩) (i + 1) ca) = w6 at *
        go_wp2_with fail
        go_ret
        exact ⟨rfl, _, _, END.out, K6.out, NEW.out⟩
      · skip
        rw [if_pos (by rfl)]
        go_simp
        have b3 : Below wd.heap.size wd (wd.alloc (.cells #[.int .i64 x.n, .int .u64 x.h, .int .u64 x.l] 26)) := below_alloc (Below.refl _ _) _
        have r3 := heap_alloc_new wd (.cells #[.int .i64 x.n, .int .u64 x.h, .int .u64 x.l] 26)
        have s1 := s0.below b3
        have H5 := Lib.hid (H4.out.below b3)
        have B5 := Lib.hid (BD.out.trans (b3.mono BD.out.size))
        generalize wd.alloc (.cells #[.int .i64 x.n, .int .u64 x.h, .int .u64 x.l] 26) = v3 at *
        obtain ⟨pb, hpb⟩ : ∃ q, q = wd.heap.size := ⟨_, rfl⟩
        rw [← hpb] at r3 ⊢
        have R3 := Lib.hid r3
        clear b3 r3 hpb y9
        have y9 := H5.out.row.at_ 9
        simp only [rowT, List.getElem?_toArray, List.getElem?_cons_succ, List.getElem?_cons_zero] at y9
        rw [HLEN.out] at y9
        refine hK.out _ _ s1 (fun _ => ?_)
        clear hK K
        try simp only [Act.put, List.getElem_toArray, List.getElem_cons_succ, List.getElem_cons_zero, List.setIfInBounds_toArray, List.set_cons_zero, List.set_cons_succ, Nat.zero_add, List.nil_append]
        refine wpAnyH_ready (rs := [4]) (by kernel_rfl) (by simp) ?_
        refine AllReadyH.cons rfl (fun K hK => ?_) AllReadyH.nil
        rw [if_pos (by rfl)]
        go_simp
        refine hK.out _ _ s1 (fun _ => ?_)
        clear hK K
        try simp only [Act.put, List.getElem_toArray, List.getElem_cons_succ, List.getElem_cons_zero, List.setIfInBounds_toArray, List.set_cons_zero, List.set_cons_succ, Nat.zero_add, List.nil_append]
        refine wpAnyH_ready (rs := [11]) (by kernel_rfl) (by simp) ?_
        refine AllReadyH.cons rfl (fun K hK => ?_) AllReadyH.nil
        rw [if_pos (by rfl)]
        have hxown : v3.ownsRow B 26 3 (.slice (some ⟨g, 0, none⟩) i cap) i (fl Pe.list (F.take i)) := by have := H5.out.own; rwa [HLEN.out] at this
        refine wp_append_lies _ (.tmp 71) (.tmp 77) 39 rfl B 26 i0 _ 3 24 Try.underlying39 HI0.out HZ0.out HZ1.out HZ2.out rfl (by decide) (.slice (some ⟨g, 0, none⟩) i cap) i (fl Pe.list (F.take i)) rfl hxown ⟨pb, 0, none⟩ 1 1 x.list rfl rfl (news_pe R3.out) (pe_one x) (by decide) (by have := HI.out; unfold maxLen; omega) (by have := HI.out; omega) (by have := H5.out.base; have := H5.out.row.lt; omega) _ rfl ?_
        intro ga ca v4 own4 gr4 at4 lt4
        have kg : Keep (blk (some ⟨g, 0, none⟩)) v3 v4 := keep_grown gr4
        have nb9 : b ∉ blk (some (⟨g, 0, none⟩ : Addr)) := by simp [blk]; exact HBG.out
        have z0 := (kg.cell (a := ⟨b, 9, none⟩) H5.out.row.lt nb9).trans y9
        have z1 := (kg.frozen (a := ⟨b, 9, none⟩) H5.out.row.lt nb9).trans (H5.out.row.fr 9)
        have s4 : Holds v4 [(⟨gx, ox + k * 3, none⟩, .int .i64 x.n), (⟨gx, ox + k * 3 + 1, none⟩, .int .u64 x.h), (⟨gx, ox + k * 3 + 2, none⟩, .int .u64 x.l)] := by
          have q0 := s1.head; have q1 := s1.tail.head; have q2 := s1.tail.tail.head; have ql := s1.lt
          have ngx : gx ∉ blk (some (⟨g, 0, none⟩ : Addr)) := by simp [blk]; exact HGG.out
          exact .cons ((kg.cell (a := ⟨gx, ox + k * 3, none⟩) ql ngx).trans q0) (Nat.lt_of_lt_of_le ql kg.size) (.cons ((kg.cell (a := ⟨gx, ox + k * 3 + 1, none⟩) ql ngx).trans q1) (Nat.lt_of_lt_of_le ql kg.size) (.cons ((kg.cell (a := ⟨gx, ox + k * 3 + 2, none⟩) ql ngx).trans q2) (Nat.lt_of_lt_of_le ql kg.size) (.nil _)))
        have R4 := Lib.hid (H5.out.row.keep kg nb9)
        have OWN4 := Lib.hid own4; have AT4 := Lib.hid (own_gg at4); have LT4 := Lib.hid lt4
        have K4 := Lib.hid (((K3.out.trans (Keep.of_below B5.out [b])).mono (T := tbB b (some ⟨g, 0, none⟩)) (fun q hq => .inl (by simp only [List.mem_singleton] at hq; rw [hq]; exact List.mem_cons_self ..))).trans (kg.mono (fun q hq => .inl (List.mem_cons_of_mem _ hq))))
        have S3 := Lib.hid (show w.heap.size ≤ v3.heap.size from Nat.le_trans K3.out.size B5.out.size)
        clear own4 gr4 at4 lt4 kg nb9 y9
        refine hK.out _ _ s4 (fun _ => ?_)
        clear hK K
        try simp only [Act.put, List.getElem_toArray, List.getElem_cons_succ, List.getElem_cons_zero, List.setIfInBounds_toArray, List.set_cons_zero, List.set_cons_succ, Nat.zero_add, List.nil_append]
        refine wpAnyH_take (i := 12) (v := .pointer (some ⟨b, 0, none⟩)) rfl (by kernel_rfl) (by kernel_rfl) (by kernel_rfl) (fun _ _ _ h => h) (Or.inl ⟨by rfl, fun w' hw' => by go_simp⟩) s4 ?_
        try simp only [Act.put, List.getElem_toArray, List.getElem_cons_succ, List.getElem_cons_zero, List.setIfInBounds_toArray, List.set_cons_zero, List.set_cons_succ, Nat.zero_add, List.nil_append]
        refine wpAnyH_take (i := 13) (v := .pointer (some ⟨b, 9, none⟩)) rfl (by kernel_rfl) (by kernel_rfl) (by kernel_rfl) (fun _ _ _ h => h) (Or.inl ⟨by rfl, fun w' hw' => by go_simp⟩) s4 ?_
        try simp only [Act.put, List.getElem_toArray, List.getElem_cons_succ, List.getElem_cons_zero, List.setIfInBounds_toArray, List.set_cons_zero, List.set_cons_succ, Nat.zero_add, List.nil_append]
        refine wpAnyH_ready (rs := [14]) (by kernel_rfl) (by simp) ?_
        refine AllReadyH.cons rfl (fun K hK => ?_) AllReadyH.nil
        rw [if_pos (by rfl)]
        go_simp
        have s5 := s4.set ⟨b, 9, none⟩ (.slice (some ⟨ga, 0, none⟩) (i + 1) ca) (by intro p hp; simp only [List.mem_cons, List.not_mem_nil, or_false] at hp; rcases hp with rfl | rfl | rfl <;> (intro e; simp only [Addr.mk.injEq] at e; exact HGB.out e.1))
        refine hK.out _ _ s5 (fun _ => ?_)
        clear hK K
        try simp only [Act.put, List.getElem_toArray, List.getElem_cons_succ, List.getElem_cons_zero, List.setIfInBounds_toArray, List.set_cons_zero, List.set_cons_succ, Nat.zero_add, List.nil_append]
        refine wpAnyH_done (by kernel_rfl) ?_ _
        clear s0 s1 s4 s5 z0 z1
        have kc := Keep.setCell v4 ⟨b, 9, none⟩ (.slice (some ⟨ga, 0, none⟩) (i + 1) ca)
        have hgb : b ≠ ga := fun e => by
          rcases AT4.out with h1 | h1
          · exact H.out.ne (e ▸ h1)
          · have := H5.out.row.lt; omega
        have e : learnt s F i L = F.take i ++ [x] := by
          unfold learnt
          rw [show i - 1 = k by have := HK.out; omega, HF.out, HXX.out]
          simp only [HBT.out, if_true]
        have hl1 : (F.take i ++ [x]).length = i + 1 := by rw [List.length_append, HLEN.out]; rfl
        have END : Hid (TbW (v4.setCell ⟨b, 9, none⟩ (.slice (some ⟨ga, 0, none⟩) (i + 1) ca)) B b (some ⟨ga, 0, none⟩) ca s p c (learnt s F i L)) := Lib.hid (by
          rw [e]
          refine ⟨?_, H.out.base, ?_, by simp [blk]; exact hgb⟩
          · show (v4.setCell _ _).heap[b]? = _
            rw [hl1]
            exact heap_setCell_same v4 b 9 _ _ _ R4.out
          · rw [hl1, fl_app, fl_one]
            exact owns_keep OWN4.out kc (blk_own _ _ _ fun q hq hm => by simp only [List.mem_singleton] at hm; simp only [blk, List.mem_singleton] at hq; omega))
        have K6 := Lib.hid (K4.out.trans (kc.mono (T := tbB b (some ⟨g, 0, none⟩)) (fun q hq => .inl (by simp only [List.mem_singleton] at hq; rw [hq]; exact List.mem_cons_self ..))))
        have NEW := Lib.hid (show ∀ q ∈ tbB b (some (⟨ga, 0, none⟩ : Addr)), q ∈ tbB b (some (⟨g, 0, none⟩ : Addr)) ∨ w.heap.size ≤ q from fun q hq => by
          rcases List.mem_cons.1 hq with rfl | hq
          · exact .inl (List.mem_cons_self ..)
          · simp only [blk, List.mem_singleton] at hq
            subst hq
            rcases AT4.out with h1 | h1
            · exact .inl (List.mem_cons_of_mem _ h1)
            · right; rw [h1]; exact S3.out)
        clear kc hgb e hl1
        generalize v4.setCell ⟨b, 9, none⟩ (.slice (some ⟨ga, 0, none⟩) (i + 1) ca) = w6 at *
        go_wp2_with fail
        go_ret
        exact ⟨rfl, _, _, END.out, K6.out, NEW.out⟩
  · have i1 : decide ((i : Int) ≤ (n : Int)) = false := by simp; omega
    have i3 : decide (i ≤ n) = false := decide_eq_false hin
    refine wp_region_quiet_below (by kernel_rfl) (by kernel_rfl) ?_
    repeat (go_big_quiet_step (fail))
    refine wpQuiet_nil ?_
    intro _ hw'
    obtain ⟨⟨dq, osq⟩, hw''⟩ := hw'
    subst hw''
    have lk := below_regrown w2 dq osq
    have H3 := Lib.hid (H2.out.below lk)
    have K3 := Lib.hid (K2.out.trans (Keep.of_below lk _))
    clear lk t9 t1 t2 a1 a2 i1 i3
    generalize grow (redrawn w2 dq) osq = w3 at *
    go_wp2_with fail
    go_ret
    refine ⟨rfl, some ⟨g, 0, none⟩, cap, ?_, K3.out.mono (fun q hq => .inl (by simp only [List.mem_singleton] at hq; rw [hq]; exact List.mem_cons_self ..)), fun q hq => .inl hq⟩
    have e : learnt s F i L = F.take i := by
      unfold learnt
      rw [show i - 1 = k by have := HK.out; omega, HF.out, List.getElem?_eq_none (by have := HN.out; have := HK.out; omega)]
      simp
    rw [e]
    exact H3.out
end
end Go.Proofs.Ytokmchkoojeadaa
