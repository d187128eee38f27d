/- remove. -/
import Derived.Test.YtkhfbnlmjnbhmaaSetW
import Derived.Deep.Cut
namespace Go.Proofs.Ytkhfbnlmjnbhmaa
open Go.RowKit Go.Sort
set_option linter.unusedVariables false

theorem timer_elem : Try.prog.underlying 57 = some (.slice (Try.prog.elem 57)) := by kernel_rfl
theorem timer_size (w : World) : (sizeOf (Try.prog.elem 57)).run Try.prog w = .ok 3 w := by kernel_rfl
theorem run_cutt (w : World) (g n cap hi : Nat) (h : hi ≤ cap) : (Instr.sliceAt 57 (.slice (some ⟨g, 0, none⟩) n cap) none (some (.int .i64 (hi : Int))) none).run Try.prog w = .ok (.slice (some ⟨g, 0, none⟩) hi cap) w := by
  rw [run_sliceAt_slice _ _ _ _ _ _ timer_elem, run_slice_h w _ _ n cap timer_elem .i64 (hi : Int) (by omega) (by omega), timer_size]
  simp [Result.andThen, sliced, Addr.add_lit]

section
variable {l : List Tm} {f : Nat → Option Nat} {S : List Tm}
theorem take_tm {l : List Tm} {n : Nat} (h : l.length = n + 1) : l = l.take n ++ [tm l n] := by
  apply ext_tm (by simp; omega)
  intro k hk
  by_cases e : k < n
  · rw [tm_app_left (by simp; omega), tm_take e]
  · obtain rfl : k = n := by omega
    have : (l.take k).length = k := by simp; omega
    unfold tm
    rw [List.getD, List.getD, List.getElem?_append_right (by omega), this]
    simp
/-- the last takes the place of number i -/
theorem HS.wo_mid (h : HS l f S) {n i : Nat} (hn : l.length = n + 1) (hi : i < n) : ((l.take n).set i (tm l n)).Perm (wo S (tm l i).1) := by
  have hl := take_tm hn
  have e1 : tm (l.take n) i = tm l i := tm_take hi
  have h1 := perm_wo (l.take n) i (tm l n) (by
    have := h.ids
    rw [hl] at this
    unfold Ids at this ⊢
    rw [List.map_append] at this
    exact (List.nodup_append.1 this).1) (by simp; omega)
  rw [e1] at h1
  have h2 : wo l (tm l i).1 = wo (l.take n) (tm l i).1 ++ [tm l n] := by
    have hne := h.ids.ne (j := n) (k := i) (by omega) (by omega) (by omega)
    generalize (tm l i).1 = q at *
    generalize hx : tm l n = x at *
    conv => lhs; rw [hl]
    unfold wo
    rw [List.filter_append]
    congr 1
    rw [List.filter_cons, if_pos (by simpa using hne)]
    rfl
  rw [← h2] at h1
  exact h1.trans (wo_perm h.perm _)
theorem HS.wo_end (h : HS l f S) {n : Nat} (hn : l.length = n + 1) : (l.take n).Perm (wo S (tm l n).1) := by
  have hl := take_tm hn
  have h2 : wo l (tm l n).1 = l.take n := by
    have hid := h.ids
    generalize hx : tm l n = x at *
    rw [hl] at hid ⊢
    unfold wo Ids at *
    rw [List.map_append, List.nodup_append] at hid
    rw [List.filter_append, List.take_left' (by simp; omega)]
    have e1 : List.filter (fun t => t.1 != x.1) (l.take n) = l.take n := by
      rw [List.filter_eq_self]
      intro y hy
      simp only [bne_iff_ne, ne_eq]
      exact hid.2.2 _ (List.mem_map.2 ⟨y, hy, rfl⟩) _ (by simp)
    rw [e1]
    simp
  rw [← h2]
  exact wo_perm h.perm _
/-- what is left, behind settle -/
theorem HS.rem_mid (h : HS l f S) {n i id : Nat} (hn : l.length = n + 1) (hi : i < n) (he : (tm l i).1 = id) : St (tm l n) (l.take n) i (upd f id none) (l.take n) i (upd f id none) := by
  refine ⟨rfl, by simp; omega, (h.heap.take n).hole i (by simp; omega), List.Perm.refl _, fun j hj hne => ?_, fun _ => rfl⟩
  have hj' : j < n := by simp at hj; omega
  rw [tm_take hj', upd_other _ _ (by rw [← he]; exact h.ids.ne (by omega) (by omega) hne)]
  exact h.fwd j (by omega)
theorem HS.rem_in (h : HS l f S) {n i id : Nat} (hn : l.length = n + 1) (hi : i < n) (he : (tm l i).1 = id) {l' : List Tm} {f' : Nat → Option Nat} (k : Full (tm l n) (l.take n) i (upd f id none) l' f') : HS l' f' (wo S id) := by
  subst he
  refine ⟨k.heap, k.perm.trans (h.wo_mid hn hi), dist_wo h.dist _, k.fwd, fun q => ?_⟩
  rw [k.dom, inS_wo, ← h.dom]
  have hne := h.ids.ne (j := n) (k := i) (by omega) (by omega) (by omega)
  by_cases e : q = (tm l i).1
  · subst e; rw [upd_same]; simp [Ne.symm hne]
  · rw [upd_other _ _ e]
    by_cases e2 : q = (tm l n).1
    · subst e2; simp [hne, h.fwd n (by omega)]
    · simp [e, e2]
theorem HS.rem_end (h : HS l f S) {n id : Nat} (hn : l.length = n + 1) (he : (tm l n).1 = id) : HS (l.take n) (upd f id none) (wo S id) := by
  subst he
  refine ⟨h.heap.take n, h.wo_end hn, dist_wo h.dist _, fun j hj => ?_, fun q => ?_⟩
  · have hj' : j < n := by simp at hj; omega
    rw [tm_take hj', upd_other _ _ (h.ids.ne (by omega) (by omega) (by omega))]
    exact h.fwd j (by omega)
  · rw [inS_wo, ← h.dom]
    by_cases e : q = (tm l n).1
    · subst e; rw [upd_same]; simp
    · rw [upd_other _ _ e]; simp [e]
end
/-- the list cut by one -/
theorem HpW.cut {w w2 : World} {B hb gm k : Nat} {g cap n : Nat} {l : List Tm} {f : Nat → Option Nat} (h : HpW w B hb gm k (some ⟨g, 0, none⟩) cap l f) (hn : l.length = n + 1)
    (h2 : w2 = w.setCell ⟨hb, 2, none⟩ (.slice (some ⟨g, 0, none⟩) n cap)) : HpW w2 B hb gm k (some ⟨g, 0, none⟩) cap (l.take n) f ∧ Keep [hb] w w2 := by
  have k2 : Keep [hb] w w2 := by subst h2; exact Keep.setCell w ⟨hb, 2, none⟩ _
  have hlen : (l.take n).length = n := by simp; omega
  have cl := h.cl; have cm := h.cm; have fr := h.fr
  have hl := h.hlt
  have hs := k2.size
  refine ⟨⟨?_, ?_, ?_, by omega, h.base, h.gbase, ?_, h.map.keep k2 (by simpa using h.nhg.symm), h.nhg, h.nhr, h.ngr, fun x hx => h.ok x (List.mem_of_mem_take hx), by have := h.few; omega⟩, k2⟩
  · rw [hlen]; subst h2; go_simp
  · subst h2; go_simp
  · subst h2; go_simp
  · rw [hlen, ← fl_take c3_len]
    have := owns_take h.own n (by omega)
    exact owns_keep this k2 (blk_own _ _ _ (fun q hq hm => h.nhr (by simp at hm; exact hm ▸ hq)))
/-- delete(m, id) -/
theorem wpList_del {w w' : World} {ops : Array Oper} {rest : List Oper} {o : Oper} {a : Act} {Q : Exit → Act → World → Prop} (hgd : o.guard = none) (m k : Operand)
    (ho : o.op = .call { callee := .builtin .delete, args := #[m, k], argTypes := #[58, 32] }) {gm id : Nat} (hm : a.eval m = .map (some gm)) (hk : a.eval k = .int .u64 (id : Int))
    (hr : (Builtin.delete_ #[58, 32] o.type #[.map (some gm), .int .u64 (id : Int)]).run Try.prog w = .ok (.tuple #[]) w') (h : wpList Try.prog ops Q rest (a.put o.dst (.tuple #[])) w') : wpList Try.prog ops Q (o :: rest) a w := by
  refine wpList_plain hgd fun K hK => ?_
  unfold Oper.wp execOp
  simp only [ho, resolve, invoke, builtin, Sem.run_bind, Sem.run_pure, Result.andThen_ok, List.map_toArray, List.map_cons, List.map_nil, hm, hk, hr]
  exact hK _ _ h

set_option maxHeartbeats 4000000 in
theorem remove_any {B hb gm : Nat} {ao : Option Addr} {cap : Nat} {l S : List Tm} {f : Nat → Option Nat} (w : World) (id i : Nat) (hid : id < 18446744073709551616) (hw : HpW w B hb gm l.length ao cap l f) (hs : HS l f S) (hf : f id = some i) :
    Calls Try.prog 32 #[.pointer (some ⟨hb, 2, none⟩), .int .u64 (id : Int)] w fun e w' => e = .returned (.tuple #[]) ∧ ∃ l' f', HpW w' B hb gm l'.length ao cap l' f' ∧ HS l' f' (wo S id) ∧ Keep (hb :: gm :: blk ao) w w' ∧ Side hb w w' := by
  obtain ⟨hi, hti⟩ := hs.at_ hf
  obtain ⟨n, hn⟩ : ∃ n, l.length = n + 1 := ⟨l.length - 1, by omega⟩
  have hfew := hw.few
  have hwz := hw.below (Below.refl _ w).drew
  have hr := hwz.map.look1 id hid hf
  have c2 := hw.cl; have c3 := hw.cm
  have hsz := hw.hlt
  have hdz : Below w.heap.size w w.drew := (Below.refl _ w).drew
  rw [hn] at c2
  have hnhg := hw.nhg; have hnhr := hw.nhr
  clear hw
  have HWZ := Lib.hid hwz; have HS0 := Lib.hid hs; have HF := Lib.hid hf; have HN := Lib.hid hn; have HTI := Lib.hid hti; have HDZ := Lib.hid hdz
  have hi' : i ≤ n := by omega
  have hn' : n < 256 := by omega
  clear hwz hs hf hn hti hdz hi hfew
  go_enter Try.func32, Try.ntmps32
  go_wp2_with fail
  go_region
  generalize World.drew w = wz at *
  clear hr c2 c3
  obtain ⟨g, rfl, hg, hgb, hn1, hn2, x0, x1, x2⟩ := HWZ.out.at_ n (by have := HN.out; omega)
  have c2 := HWZ.out.cl; have c3 := HWZ.out.cm
  rw [HN.out] at c2
  have HL := Lib.hid (HWZ.out.fits n (by have := HN.out; omega))
  generalize htl : tm l n = t at *
  have HT := Lib.hid htl; clear htl
  have hcap : n ≤ cap := by
    have := HWZ.out.own
    rw [HN.out] at this
    obtain ⟨g', cap', e, _, _⟩ := this.form (by omega)
    rcases this.2 with ⟨h2, h3⟩ | ⟨g2, cap2, cur, h2, _, _, h3, _⟩
    · cases h2
    · cases h2; omega
  have HCUT := Lib.hid (run_cutt (wz.alloc (boxo t)) g (n + 1) cap n hcap)
  have fr := HWZ.out.fr
  have hlz := HWZ.out.hlt
  go_upto_region 3 with (refine wpList_value rfl _ (exec_slice (w := wz.alloc (boxo t)) (vx := .slice (some ⟨g, 0, none⟩) (n + 1) cap) (lv := none) (hv := some (.int .i64 (n : Int))) 57 (.tmp 30) none (some (.tmp 31)) rfl rfl rfl rfl HCUT.out) ?_)
  have hsz2 : (wz.setCell ⟨hb, 2, none⟩ (.slice (some ⟨g, 0, none⟩) n cap)).heap.size = wz.heap.size := by simp [World.setCell]
  obtain ⟨h1, k1⟩ := HWZ.out.cut HN.out rfl
  have b2 := below_alloc (Below.refl (wz.setCell ⟨hb, 2, none⟩ (.slice (some ⟨g, 0, none⟩) n cap)).heap.size _) (boxo t)
  have h2 := h1.below b2
  have k2 := k1.trans (Keep.of_below b2 [hb])
  have SD2 := Lib.hid (Side.of_keep (Keep.of_below b2 []) h1.hlt (by simp))
  have hbx := BoxT.new (wz.setCell ⟨hb, 2, none⟩ (.slice (some ⟨g, 0, none⟩) n cap)) t
  rw [hsz2] at hbx
  clear h1 k1 b2 hsz2 c2 c3 x0 x1 x2 fr HCUT
  generalize World.alloc (wz.setCell _ _) _ = w2 at *
  have c3 := h2.cm
  obtain ⟨w3, hrd, hm3, k3⟩ := h2.map.del id hid 0
  have hmz := HWZ.out.map.lt
  have hbx3 := hbx.keep k3 (by simp; omega)
  have hfe : (if (f id).isSome = true then l.length - 1 else l.length) = n := by rw [HF.out, HN.out]; simp
  rw [hfe] at hm3
  have h3 := h2.turn k3 hm3
  have kk := (((Keep.of_below HDZ.out (hb :: gm :: blk (some ⟨g, 0, none⟩))).trans (k2.mono (by simp))).trans (k3.mono (by simp)) : Keep (hb :: gm :: blk (some ⟨g, 0, none⟩)) w w3)
  obtain ⟨z0, z1, z2, z3⟩ := hbx3
  have sd : Side hb w w3 := ((Side.of_keep (Keep.of_below HDZ.out []) hsz (by simp)).trans ((Side.set hb wz _).trans (SD2.out))).trans (Side.of_keep k3 h2.hlt (by simpa using hnhg))
  have HSD := Lib.hid sd
  have HW3 := Lib.hid h3; have HK3 := Lib.hid kk; have HRD := Lib.hid hrd
  clear sd h3 kk hrd k3 hm3 h2 k2 hbx hfe
  by_cases hlt : i < n
  · have hids : Ids ((l.take n).set i t) := by have := HS0.out.wo_mid HN.out hlt; rw [HT.out] at this; exact Ids.perm this (dist_ids (dist_wo HS0.out.dist _))
    have hst := HS0.out.rem_mid HN.out hlt HTI.out
    rw [HT.out] at hst
    have HP := Lib.hid (settle_any w3 t i HL.out (by omega) HW3.out hst hids)
    clear hids hst
    go_wp2_with (at_delete; refine wpList_del rfl (.tmp 38) (.tmp 39) rfl rfl rfl HRD.out ?_)
    refine HP.out.mono ?_; rintro e w4 ⟨rfl, l', f', h4, full, k4⟩
    go_wp2_with fail
    go_end0
    have hlen : l'.length = n := by rw [full.perm.length_eq, List.length_set, List.length_take, HN.out]; omega
    have hne := HS0.out.ids.ne (j := n) (k := i) (by rw [HN.out]; omega) (by rw [HN.out]; omega) (by omega)
    rw [HT.out, HTI.out] at hne
    have hfn := HS0.out.fwd n (by rw [HN.out]; omega)
    rw [HT.out] at hfn
    rw [upd_other _ _ hne, hfn] at h4
    simp only [Option.isSome_some, if_true] at h4
    rw [← hlen] at h4
    have hfull := full
    rw [← HT.out] at hfull
    exact ⟨rfl, l', f', h4, HS0.out.rem_in HN.out hlt HTI.out hfull, HK3.out.trans (k4.mono (fun q hq => .inl (List.mem_cons_of_mem _ hq))), HSD.out.trans (Side.of_keep k4 HW3.out.hlt (by simp only [List.mem_cons, not_or]; exact ⟨hnhg, hnhr⟩))⟩
  · obtain rfl : i = n := by omega
    go_wp2_with (at_delete; refine wpList_del rfl (.tmp 38) (.tmp 39) rfl rfl rfl HRD.out ?_)
    go_end0
    have h3 := HW3.out
    have hlen : (l.take i).length = i := by rw [List.length_take, HN.out]; omega
    rw [← hlen] at h3
    refine ⟨rfl, l.take i, upd f id none, ?_, HS0.out.rem_end HN.out HTI.out, HK3.out, HSD.out⟩
    have := HW3.out
    rw [hlen]
    exact this
end Go.Proofs.Ytkhfbnlmjnbhmaa
