/- add, Send. -/
import Derived.Test.YthanjfnpohhebaaNet
namespace Go.Proofs.Ythanjfnpohhebaa
open Go.RowKit Go.Sort
set_option linter.unusedVariables false

section
variable {w w' : World} {B hn gm : Nat} {S : List Pkt} {room made : Nat} {T : Tr} {Bs : List Nat}
/-- one packet more, its bytes new -/
theorem NetW.more (h : NetW w B hn gm S room made T) (hm : 1 ≤ made) (hids : ∀ p ∈ S, p.id < made) (hf : S.length < room) (fr to : Int) {ao : Option Addr} {cap : Nat} {l : List Nat} (hl : l.length ≤ 65546)
    {w1 w2 : World} (b : Below w.heap.size w w1) (ho : Own w1 w.heap.size ao l.length cap l) (hmap : MapV w2 gm (S.length + 1) (fmap (S ++ [⟨made, fr, to, ao, cap, l⟩]))) (k : Keep [gm] w1 w2) (hB : B ≤ w.heap.size) :
    NetW w2 B hn gm (S ++ [⟨made, fr, to, ao, cap, l⟩]) room made T ∧ Turned (hn :: gm :: bs S) (hn :: gm :: bs (S ++ [⟨made, fr, to, ao, cap, l⟩])) w w2 := by
  have hkb := Keep.of_below b []
  have h1 := h.keep hkb (by simp)
  have hnew : ∀ g ∈ blk ao, w.heap.size ≤ g := fun g hg => (ho.lt_size g hg).1
  have hbs : ∀ g ∈ blk ao, g ∉ bs S := fun g hg hm => by have := hnew g hg; have := (h.pk.lt g hm).2; omega
  have hgl : gm < w.heap.size := h.map.lt
  have hhl := h.hlt
  have hbsa : bs (S ++ [⟨made, fr, to, ao, cap, l⟩]) = bs S ++ blk ao := by simp [bs]
  have hpk2 : PkW w2 B S := h1.pk.keep k (fun g hg e => h.ng (by simp at e; exact e ▸ hg))
  have ho2 : Own w2 B ao l.length cap l := (ho.keep k (fun g hg e => by simp at e; have := hnew g hg; omega)).base hB
  refine ⟨⟨by simpa using hmap, (k.block hn (Nat.lt_of_lt_of_le hhl b.size) (by simpa using h.ne)).trans h1.row, h.base, h.gbase, h.ne, hpk2.app ho2 hbs, ?_, ?_, ?_, ?_, ?_, h.rm, by simp; omega⟩, ?_, ?_⟩
  · rw [hbsa, List.mem_append]
    rintro (h3 | h3)
    · exact h.nh h3
    · have := hnew _ h3; omega
  · rw [hbsa, List.mem_append]
    rintro (h3 | h3)
    · exact h.ng h3
    · have := hnew _ h3; omega
  · unfold Inc
    rw [List.pairwise_append]
    exact ⟨h.inc, by simp, fun x hx y hy => by rw [List.mem_singleton] at hy; subst hy; exact hids x hx⟩
  · intro p hp
    rcases List.mem_append.1 hp with hp | hp
    · exact h.ids p hp
    · rw [List.mem_singleton] at hp; subst hp; exact ⟨hm, Nat.le_refl _⟩
  · intro p hp
    rcases List.mem_append.1 hp with hp | hp
    · exact h.lens p hp
    · rw [List.mem_singleton] at hp; subst hp; exact hl
  · exact (hkb.mono (by simp)).trans (k.mono (by simp))
  · intro q hq
    rw [hbsa] at hq
    simp only [List.mem_cons, List.mem_append] at hq ⊢
    rcases hq with h3 | h3 | h3 | h3
    · exact .inl (.inl h3)
    · exact .inl (.inr (.inl h3))
    · exact .inl (.inr (.inr h3))
    · exact .inr (hnew q h3)
end

section
variable {B hn gm : Nat} {S : List Pkt} {room made : Nat} {T : Tr} {Bs : List Nat}
theorem mkl (w : World) (S : List Pkt) (p : Pkt) (hn : ∀ x ∈ S, x.id ≠ p.id) (gm : Nat) (h : MapV w gm S.length (fmap S)) (hid : p.id < 18446744073709551616) (hl : S.length < 1000000) :
    ∃ w', (Instr.mapUpdate 60 (.map (some gm)) (.int .u64 (p.id : Int)) (agv p)).run Try.prog w = .ok () w' ∧ MapV w' gm (S.length + 1) (fmap (S ++ [p])) ∧ Keep [gm] w w' := by
  obtain ⟨w', h1, h2, h3⟩ := h.put p.id p.cells hid hl
  have e : fmap S p.id = none := by
    cases hk : look S p.id with
    | none => simp [fmap, hk]
    | some q => obtain ⟨a, b⟩ := look_some hk; exact absurd b (hn q a)
  rw [e] at h2
  rw [fmap_app S p hn] at h2
  exact ⟨w', h1, h2, h3⟩
theorem heldNet {gm : Nat} {x : Value} {w w' : World} (h : w.cell? ⟨hn, 1, none⟩ = some x ∧ w.cell? ⟨hn, 2, none⟩ = some (.map (some gm)) ∧ hn < w.heap.size) (b : Below w.heap.size w w') :
    w'.cell? ⟨hn, 1, none⟩ = some x ∧ w'.cell? ⟨hn, 2, none⟩ = some (.map (some gm)) ∧ hn < w'.heap.size :=
  ⟨(b.cell h.2.2).trans h.1, (b.cell h.2.2).trans h.2.1, Nat.lt_of_lt_of_le h.2.2 b.size⟩
theorem heldNet2 {gm : Nat} {x : Value} {w w' : World} (h : w.cell? ⟨hn, 1, none⟩ = some x ∧ w.cell? ⟨hn, 2, none⟩ = some (.map (some gm)) ∧ hn < w.heap.size) (hne : hn ≠ gm) (k : Keep [gm] w w') :
    w'.cell? ⟨hn, 1, none⟩ = some x ∧ w'.cell? ⟨hn, 2, none⟩ = some (.map (some gm)) ∧ hn < w'.heap.size :=
  ⟨(k.cell h.2.2 (by simpa using hne)).trans h.1, (k.cell h.2.2 (by simpa using hne)).trans h.2.1, Nat.lt_of_lt_of_le h.2.2 k.size⟩
set_option maxRecDepth 100000 in
set_option maxHeartbeats 2000000 in
theorem add_any (w : World) (fr to : Int) {ao : Option Addr} {cap n M : Nat} {l : List Nat} (hr : Rd w ao l) (hln : l.length = n) (hl : n ≤ 65546) (hf : S.length < room) (hM : M = made + 1) (hm : M < 18446744073709551616) (h : Net w B hn Bs S room made T) (hao : ∀ g ∈ blk ao, g ≠ hn) :
    Calls Try.prog 34 #[.pointer (some ⟨hn, 0, none⟩), .int .i64 fr, .int .i64 to, .slice ao n cap] w fun e w' =>
      ∃ ao' cap' Bs', e = .returned (.int .u64 (M : Int)) ∧ Net w' B hn Bs' (S ++ [⟨M, fr, to, ao', cap', l⟩]) room M T ∧ Turned Bs Bs' w w' := by
  obtain ⟨gm, rfl, h⟩ := h
  have c1 := h.at_ 1; have f1 := h.fr 1
  have hlt := h.hlt
  simp only [rowN, List.getElem?_toArray, List.getElem?_cons_succ, List.getElem?_cons_zero] at c1
  have k1 := Keep.setCell w ⟨hn, 1, none⟩ (.int .u64 (M : Int))
  have hB : B ≤ w.heap.size := by have := h.base; omega
  have hrm := h.rm
  have hids := h.ids
  have HN := Lib.hid (h.setMade M (by omega))
  have hr1 := hr.keep k1 (by simpa using hao)
  have HMc := Lib.hid (show (made : Int) + 1 = (M : Int) by omega)
  have hm1 : made + 1 < 18446744073709551616 := by omega
  have K1 := Lib.hid k1
  have HI := Lib.hid (fun (x : Pkt) (hx : x ∈ S) => show x.id ≠ M by have := (hids x hx).2; omega)
  clear h hr k1 hao hids
  clear hM
  go_enter Try.func34, Try.ntmps34
  go_wp2_with fail
  rw [HMc.out]
  generalize hw1 : w.setCell ⟨hn, 1, none⟩ (.int .u64 (M : Int)) = w1 at *
  have hs1 : w1.heap.size = w.heap.size := by rw [← hw1]; simp [World.setCell]
  have HS1 := Lib.hid hs1
  have HNE := Lib.hid HN.out.ne
  have c1 := HN.out.at_ 1; have c2 := HN.out.at_ 2
  simp only [rowN, List.getElem?_toArray, List.getElem?_cons_succ, List.getElem?_cons_zero] at c1 c2
  have hlt1 := HN.out.hlt
  have hS : w1.cell? ⟨hn, 1, none⟩ = some (.int .u64 (M : Int)) ∧ w1.cell? ⟨hn, 2, none⟩ = some (.map (some gm)) ∧ hn < w1.heap.size := ⟨c1, c2, hlt1⟩
  have HR := Lib.hid hr1
  clear hr1 f1 hw1 hs1
  go_region_held3 (fun w' => w'.cell? ⟨hn, 1, none⟩ = some (.int .u64 (M : Int)) ∧ w'.cell? ⟨hn, 2, none⟩ = some (.map (some gm)) ∧ hn < w'.heap.size)
    (first | assumption | exact heldNet (by assumption) (by assumption) | exact heldNet2 (by assumption) HNE.out (by assumption))
    (first
      | (go_at_call 38; refine (clone_any _ (HR.out.below (Below.refl _ _).drew) hln (by omega)).mono ?_; rintro e w2' ⟨ao2, cap2, he, own2, b2⟩; rw [hln] at he; subst he; have b2 : Below w1.heap.size w1 w2' := below_next (Below.refl _ _).drew b2; have own2 : Own w2' w1.heap.size ao2 l.length cap2 l := own2; obtain ⟨w3', hr3, hm3, k3⟩ := mkl w2' S ⟨M, fr, to, ao2, cap2, l⟩ HI.out gm (HN.out.map.keep (Keep.of_below b2 []) (by simp)) hm (by omega); have hr3 : (Instr.mapUpdate 60 (.map (some gm)) (.int .u64 (M : Int)) (.agg #[.int .u64 (M : Int), .int .i64 fr, .int .i64 to, .slice ao2 n cap2])).run Try.prog w2' = .ok () w3' := hln ▸ hr3; have HO2 := Lib.hid own2; have HM3 := Lib.hid hm3; clear own2 hm3))
  clear c1 c2 hlt1
  obtain ⟨c1, c2, hlt1⟩ := heldNet2 (heldNet hS b2) HNE.out k3
  go_wp2_with fail
  go_ret
  have hx := HN.out.more (by have := HMc.out; omega) (fun p hp => by have := (HN.out.ids p hp).2; have := HI.out p hp; omega) hf fr to (by omega) b2 (hln.symm ▸ HO2.out) HM3.out k3 (by rw [HS1.out]; exact hB)
  have hs := HS1.out
  refine ⟨ao2, cap2, _, rfl, ⟨gm, rfl, hx.1⟩, ?_⟩
  have t1 : Turned (hn :: gm :: bs S) (hn :: gm :: bs S) w w1 := ⟨K1.out.mono (by simp), fun q hq => .inl hq⟩
  exact t1.trans hx.2

def Tr.addSent (T : Tr) : Tr := { T with sent := T.sent + 1 }
def Tr.addTwice (T : Tr) : Tr := { T with twice := T.twice + 1 }
def Tr.addSpoilt (T : Tr) : Tr := { T with spoilt := T.spoilt + 1 }
def Tr.addTaken (T : Tr) : Tr := { T with taken := T.taken + 1 }
def Tr.addLost (T : Tr) : Tr := { T with lost := T.lost + 1 }
set_option maxHeartbeats 400000 in
theorem send_nil (w : World) (fr to : Int) (v : Value) : Calls Try.prog 14 #[.pointer none, .int .i64 fr, .int .i64 to, v] w fun e w' => e = .returned (.tuple #[.int .u64 0, .int .i64 1]) ∧ w = w' := by
  go_enter Try.func14, Try.ntmps14
  go_wp2_with fail
  go_ret2
  exact ⟨rfl, rfl⟩
set_option maxHeartbeats 400000 in
theorem send_long (w : World) (fr to : Int) (ao : Option Addr) (n cap : Nat) (hn0 : 65546 < n) (hcap : n ≤ 140737488355328) : Calls Try.prog 14 #[.pointer (some ⟨hn, 0, none⟩), .int .i64 fr, .int .i64 to, .slice ao n cap] w fun e w' => e = .returned (.tuple #[.int .u64 0, .int .i64 73]) ∧ w = w' := by
  go_enter Try.func14, Try.ntmps14
  go_wp2_with fail
  go_ret2
  exact ⟨rfl, rfl⟩
set_option maxHeartbeats 400000 in
theorem send_full (w : World) (fr to : Int) (ao : Option Addr) (n cap : Nat) (hl : n ≤ 65546) (h : Net w B hn Bs S room made T) (hf : room ≤ S.length) :
    Calls Try.prog 14 #[.pointer (some ⟨hn, 0, none⟩), .int .i64 fr, .int .i64 to, .slice ao n cap] w fun e w' => e = .returned (.tuple #[.int .u64 0, .int .i64 71]) ∧ Below w.heap.size w w' := by
  have C := Lib.hid (full_any w h)
  rw [show decide (room ≤ S.length) = true by simp [hf]] at C
  clear h hf
  go_enter Try.func14, Try.ntmps14
  go_wp2_with fail
  refine C.out.mono ?_; rintro e w1 ⟨rfl, b1⟩
  go_wp2_with fail
  go_ret2
  exact ⟨rfl, b1⟩
set_option maxHeartbeats 800000 in
theorem send_yes (w : World) (fr to : Int) {ao : Option Addr} {cap n M : Nat} {l : List Nat} (hr : Rd w ao l) (hln : l.length = n) (hl : n ≤ 65546) (hf : S.length < room) (hM : M = made + 1) (hm : M < 18446744073709551616) (h : Net w B hn Bs S room made T) (hao : ∀ g ∈ blk ao, g ≠ hn) (hT : T.sent < 4611686018427387904) :
    Calls Try.prog 14 #[.pointer (some ⟨hn, 0, none⟩), .int .i64 fr, .int .i64 to, .slice ao n cap] w fun e w' =>
      ∃ ao' cap' Bs', e = .returned (.tuple #[.int .u64 (M : Int), .int .i64 0]) ∧ Net w' B hn Bs' (S ++ [⟨M, fr, to, ao', cap', l⟩]) room M T.addSent ∧ Turned Bs Bs' w w' := by
  have C := Lib.hid (full_any w h)
  rw [show decide (room ≤ S.length) = false by simp; omega] at C
  have H := Lib.hid h; have HR := Lib.hid hr; have HA := Lib.hid hao
  clear h hr hao
  go_enter Try.func14, Try.ntmps14
  go_wp2_with fail
  refine C.out.mono ?_; rintro e w1 ⟨rfl, b1⟩
  obtain ⟨gm, hBs, h1⟩ := H.out.below b1
  have c3 := h1.at_ 3; have f3 := h1.fr 3; have hlt := h1.hlt
  simp only [rowN, List.getElem?_toArray, List.getElem?_cons_succ, List.getElem?_cons_zero] at c3
  have hts : (T.sent : Int) + 1 ≤ 4611686018427387904 := by omega
  have HN1 := Lib.hid h1; have HBs := Lib.hid hBs; have BB1 := Lib.hid b1
  clear h1 hBs b1
  go_wp2_with fail
  have k2 := Keep.setCell w1 ⟨hn, 3, none⟩ (.int .i64 ((T.sent + 1 : Nat) : Int))
  have h2 := HN1.out.setTr 3 (.int .i64 ((T.sent + 1 : Nat) : Int)) T.addSent rfl
  rw [show ((T.sent : Int) + 1) = ((T.sent + 1 : Nat) : Int) by omega]
  have hr2 := (HR.out.below BB1.out).keep k2 (by simpa using HA.out)
  generalize hw2 : w1.setCell ⟨hn, 3, none⟩ (.int .i64 ((T.sent + 1 : Nat) : Int)) = w2 at *
  clear hw2 c3 f3
  have h2' : Net w2 B hn Bs S room made T.addSent := ⟨gm, HBs.out, h2⟩
  have hk : Turned Bs Bs w w2 := ⟨(Keep.of_below BB1.out _).trans (k2.mono (by rw [HBs.out]; simp)), fun q hq => .inl hq⟩
  have HT := Lib.hid hk
  have AD := Lib.hid (add_any w2 fr to (cap := cap) hr2 hln hl hf hM hm h2' HA.out)
  clear hr2 h2 h2' hk k2 hM
  go_wp2_with fail
  refine AD.out.mono ?_; rintro e w3 ⟨ao', cap', Bs', rfl, h3, t3⟩
  have H3 := Lib.hid h3; have T3 := Lib.hid t3
  clear h3 t3
  go_wp2_with fail
  go_ret2
  exact ⟨ao', cap', Bs', rfl, H3.out, HT.out.trans T3.out⟩
end
end Go.Proofs.Ythanjfnpohhebaa
