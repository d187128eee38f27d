/- The document's writer: a transaction. Layer 4, plain: a part that is written behind what is there, or read off it: one step for both ways. The coder of package wire: what it holds, what a part's function does with it, written or read. -/
import Derived.Test.YtngcbpgafjnfaaaGreatDoorLot3
import Derived.Test.YtngcbpgafjnfaaaGreatDoorLot2

namespace Go.Proofs.YtngcbpgafjnfaaaGreatDoor
open Go.RowKit
set_option linter.unusedVariables false

abbrev ItmsIs := @SlIs Itm 8 ItmIs
theorem ItmIs.mono {w : World} {P Q : Nat → Prop} {cs : List Value} {i : Itm} (h : ItmIs w P cs i) (hq : ∀ k, P k → Q k) : ItmIs w Q cs i := by
  obtain ⟨ao, n, cap, i0, i1, i2, i3, h1, h2, h3, h4⟩ := h
  exact ⟨ao, n, cap, i0, i1, i2, i3, h1, h2, h3.mono hq, h4⟩
theorem ItmsIs.safe {w w' : World} {P : Nat → Prop} {ao : Option Addr} {n cap : Nat} {l : List Itm} (h : ItmsIs w P ao n cap l) (b : Safe P w w') : ItmsIs w' P ao n cap l := SlIs.safe (w := w) (w' := w') (is := ItmIs) (fun _ _ h => h.safe b) h b
theorem ItmsIs.mono {w : World} {P Q : Nat → Prop} {ao : Option Addr} {n cap : Nat} {l : List Itm} (h : ItmsIs w P ao n cap l) (hq : ∀ k, P k → Q k) : ItmsIs w Q ao n cap l := SlIs.mono (is := ItmIs) (P := P) (Q := Q) (fun _ _ h => h.mono hq) h hq
/-- a transaction by its cells -/
def TxnIs (w : World) (P : Nat → Prop) (cs : List Value) (t : Txn) : Prop :=
  ∃ ao n cap a b c, cs = [.int .u64 (t.id : Int), .int .i64 t.client, .int .i64 a, .int .i64 b, .int .i64 c, .slice ao n cap] ∧ t.mans = [a, b, c] ∧ ItmsIs w P ao n cap t.items ∧ I64 t.client ∧ I64 a ∧ I64 b ∧ I64 c ∧ t.id < 18446744073709551616
/-- what the writer lays of a transaction -/
def txOut (t : Txn) : List Nat := le 8 t.id ++ (wholeOut 4 t.client ++ (mansOut t.mans ++ (le 1 t.items.length ++ (t.items.take 8).flatMap itmOut)))
theorem flat_same {α : Type} {f g : α → List Nat} {l : List α} (h : ∀ a ∈ l, f a = g a) : l.flatMap f = l.flatMap g := by
  induction l with
  | nil => rfl
  | cons a l ih => rw [List.flatMap_cons, List.flatMap_cons, h a (by simp), ih fun b hb => h b (by simp [hb])]
theorem tx_ok (t : Txn) : txC.ok t = (eight.ok t.id && ((whole 4 2147483647).ok t.client && (mansC.ok t.mans && (list 8 itmC).ok t.items))) := by
  show (true && _) = _
  rw [Bool.true_and]
  rfl
theorem txOut_enc {t : Txn} (h : txC.ok t = true) : txOut t = txC.enc t := by
  rw [tx_ok] at h
  simp only [Bool.and_eq_true] at h
  show _ = eight.enc t.id ++ ((whole 4 2147483647).enc t.client ++ (mansC.enc t.mans ++ (list 8 itmC).enc t.items))
  rw [txOut, wholeOut_enc h.2.1, mansOut_enc h.2.2.1, list_enc]
  have h2 := h.2.2.2
  rw [list_ok, Bool.and_eq_true, List.all_eq_true, decide_eq_true_eq] at h2
  rw [List.take_of_length_le h2.1, flat_same fun a ha => itmOut_enc (h2.2 a ha)]
  rfl

set_option maxHeartbeats 16000000 in
theorem otx_any (P : Nat → Prop) (g : Nat) (l : List Nat) (ok : Bool) (t : Txn) (cs : List Value) (w : World) (hi : TxnIs w P cs t) (hl : (l ++ txOut t).length + 16 ≤ 140737488355328) (h : OutIs w P g l ok) :
    Calls Tryz.prog 140 #[.pointer (some ⟨g, 0, none⟩), .agg cs.toArray] w (Wrote w P g (l ++ txOut t) (ok && txC.ok t)) := by
  obtain ⟨ao, n, cap, a, b, c, rfl, hman, hd, ⟨hb1, hb2⟩, ha, hb, hc3, hid⟩ := hi
  obtain ⟨id, client, mans, items⟩ := t
  simp only at hman hd hb1 hb2 hid ⊢
  subst hman
  have hn : n ≤ 9223372036854775807 := Nat.le_trans hd.2.1 hd.2.2.1
  have hil := hd.1
  have HLL := Lib.hid (show l.length + 8 + (wholeOut 4 client).length + (mansOut [a, b, c]).length + 1 + ((items.take 8).flatMap itmOut).length + 16 ≤ 140737488355328 by
    simp only [txOut, List.length_append, le_length] at hl
    omega)
  generalize hbx : (Obj.cells #[.int .u64 (id : Int), .int .i64 client, .int .i64 a, .int .i64 b, .int .i64 c, .slice ao n cap] 34) = ob
  have H0 := h.alloc ob
  have HS := Lib.hid ((Safe.refl P w).alloc h.lt ob)
  have HD := Lib.hid ((hd.safe HS.out).mono (Q := fun q => P q ∨ q = w.heap.size) fun k hk => .inl hk)
  have hc : ∀ wr, Safe (fun q => P q ∨ q = w.heap.size) (w.alloc ob) wr → wr.cell? ⟨w.heap.size, 0, none⟩ = some (.int .u64 (id : Int)) ∧ wr.cell? ⟨w.heap.size, 1, none⟩ = some (.int .i64 client) ∧ (wr.cell? ⟨w.heap.size, 2, none⟩ = some (.int .i64 a) ∧ wr.cell? ⟨w.heap.size, 3, none⟩ = some (.int .i64 b) ∧ wr.cell? ⟨w.heap.size, 4, none⟩ = some (.int .i64 c)) ∧
      wr.cell? ⟨w.heap.size, 5, none⟩ = some (.slice ao n cap) := by
    intro wr hs
    have hx : ∀ j, wr.cell? ⟨w.heap.size, j, none⟩ = (w.alloc ob).cell? ⟨w.heap.size, j, none⟩ := fun j => hs.cell (a := ⟨w.heap.size, j, none⟩) (.inr rfl)
    subst hbx
    refine ⟨?_, ?_, ⟨?_, ?_, ?_⟩, ?_⟩ <;> (rw [hx]; go_simp)
  have HC := Lib.hid hc
  have T1 := Lib.hid (onum_any _ g l ok id hid 8 (by omega) (by have := HLL.out; omega) 18446744073709551615 (w.alloc ob) H0)
  have HOK := Lib.hid (show txC.ok ⟨id, client, [a, b, c], items⟩ = ((whole 4 2147483647).ok client && (mansC.ok [a, b, c] && (list 8 itmC).ok items)) by
    rw [tx_ok]
    have e1 : eight.ok id = true := decide_eq_true (by omega)
    rw [e1, Bool.true_and])
  have HOUT := Lib.hid (show txOut ⟨id, client, [a, b, c], items⟩ = le 8 id ++ (wholeOut 4 client ++ (mansOut [a, b, c] ++ (le 1 n ++ (items.take 8).flatMap itmOut))) by rw [← hil]; rfl)
  have HID := Lib.hid (show decide (id ≤ 18446744073709551615) = true from decide_eq_true (by omega))
  have hwn := wholeOut_length 4 client
  have c0 := (hc _ (Safe.refl _ _)).1
  rw [← hbx] at T1 HC HS HD c0
  clear H0 hc h hd hl hbx
  generalize hw0 : w.alloc _ = w0 at T1 HC HS HD c0
  have HP := Lib.hid (show ∀ k, P k → (fun q => P q ∨ q = w.heap.size) k from fun k hk => .inl hk)
  generalize (fun q => P q ∨ q = w.heap.size) = P' at T1 HC HD HP
  have HW0 := Lib.hid hw0
  clear hw0
  generalize txOut _ = O at HOUT ⊢
  generalize txC.ok _ = K2 at HOK ⊢
  go_enter Tryz.func140, Tryz.ntmps140
  go_wp2_with fail
  rw [HW0.out]
  refine T1.out.mono ?_
  rintro e w1 ⟨rfl, q1, q2⟩
  rw [HID.out, Bool.and_true] at q1
  have Q2 := Lib.hid q2
  have T2 := Lib.hid (owhole_any _ g _ _ client hb2 4 (by omega) (by have := HLL.out; simp only [List.length_append, le_length]; omega) 2147483647 w1 q1)
  have c1 := (HC.out w1 q2).2.1
  clear c0 q1 q2 HW0
  go_wp2_with fail
  refine T2.out.mono ?_
  rintro e w2 ⟨rfl, q1, q2⟩
  have Q3 := Lib.hid (Q2.out.trans q2)
  have T3 := Lib.hid (omans_any _ g _ _ a b c ha hb hc3 (by have := HLL.out; simp only [List.length_append, le_length]; omega) w2 q1)
  obtain ⟨m0, m1, m2⟩ := (HC.out w2 Q3.out).2.2.1
  clear c1 q1 q2
  go_wp2_with fail
  refine T3.out.mono ?_
  rintro e w3 ⟨rfl, q1, q2⟩
  have Q4 := Lib.hid (Q3.out.trans q2)
  have T4 := Lib.hid (onum_any _ g _ _ n (by omega) 1 (by omega) (by have := HLL.out; simp only [List.length_append, le_length]; omega) 8 w3 q1)
  have c5 := (HC.out w3 Q4.out).2.2.2
  clear m0 m1 m2 q1 q2
  go_wp2_with fail
  refine T4.out.mono ?_
  rintro e w4 ⟨rfl, q1, q2⟩
  have Q5 := Lib.hid (Q4.out.trans q2)
  have Q6 := Lib.hid q1
  clear c5 q1 q2
  go_wp2_with fail
  go_loopw [4] (fun i wr => ∃ (k : Nat), k ≤ n ∧ k ≤ 8 ∧ i = .int .i64 (k : Int) ∧ OutIs wr P' g (l ++ le 8 id ++ wholeOut 4 client ++ mansOut [a, b, c] ++ le 1 n ++ (items.take k).flatMap itmOut) (ok && (whole 4 2147483647).ok client && mansC.ok [a, b, c] && decide (n ≤ 8) && (items.take k).all itmC.ok) ∧ Safe P' w0 wr) (fun i _ => 8 - (intOf i).toNat)
  case atStart => exact ⟨0, by omega, by omega, rfl, by simpa using Q6.out, Q5.out⟩
  case round =>
    obtain ⟨k, hk, hk8, rfl, ho, hs⟩ := hrel
    have HO := Lib.hid ho
    have HS2 := Lib.hid hs
    clear ho hs
    have c5 := (HC.out wr HS2.out).2.2.2
    by_cases hlt : k < n
    · by_cases h8 : k < 8
      · obtain ⟨x, hx⟩ := HD.out.lt hlt
        have hd2 := HD.out.safe HS2.out
        obtain ⟨g2, o2, cs2, e1, hg2, e2, e3⟩ := hd2.2.2.2 k x hx
        have HI := Lib.hid e2
        obtain ⟨ao3, n3, cap3, i0, i1, i2, i3, e4, _⟩ := e2
        subst e1
        have k0 : wr.cell? ⟨g2, o2 + k * 8, none⟩ = some (.int .i64 x.bucket) := e3 0 _ (by rw [e4]; rfl)
        have k1 : wr.cell? ⟨g2, o2 + k * 8 + 1, none⟩ = some (.int .u32 (x.ver : Int)) := e3 1 _ (by rw [e4]; rfl)
        have k2 : wr.cell? ⟨g2, o2 + k * 8 + 2, none⟩ = some (.bool x.write) := e3 2 _ (by rw [e4]; rfl)
        have k3 : wr.cell? ⟨g2, o2 + k * 8 + 3, none⟩ = some (.slice ao3 n3 cap3) := e3 3 _ (by rw [e4]; rfl)
        have k4 : wr.cell? ⟨g2, o2 + k * 8 + 4, none⟩ = some (.int .u32 ((i0 : Nat) : Int)) := e3 4 _ (by rw [e4]; rfl)
        have k5 : wr.cell? ⟨g2, o2 + k * 8 + 5, none⟩ = some (.int .u32 ((i1 : Nat) : Int)) := e3 5 _ (by rw [e4]; rfl)
        have k6 : wr.cell? ⟨g2, o2 + k * 8 + 6, none⟩ = some (.int .u32 ((i2 : Nat) : Int)) := e3 6 _ (by rw [e4]; rfl)
        have k7 : wr.cell? ⟨g2, o2 + k * 8 + 7, none⟩ = some (.int .u32 ((i3 : Nat) : Int)) := e3 7 _ (by rw [e4]; rfl)
        rw [e4] at HI
        have HA := Lib.hid (map_more hx itmOut)
        have HK := Lib.hid (all_more hx itmC.ok)
        have hlen := take_len items itmOut (show k + 1 ≤ 8 by omega)
        rw [HA.out, List.length_append] at hlen
        have T := Lib.hid (oitem_any _ g _ _ x _ wr HI.out (by have := HLL.out; simp only [List.length_append, le_length]; omega) HO.out)
        clear hlen e3 e4 hd2 hg2
        go_wp2_with fail
        refine T.out.mono ?_
        rintro e wa ⟨rfl, q1, q2⟩
        have Q1 := Lib.hid q1
        have Q2 := Lib.hid (HS2.out.trans q2)
        clear q1 q2 k0 k1 k2 k3 k4 k5 k6 k7 c5
        go_wp2_with fail
        go_roundw
        case rel =>
          refine ⟨k + 1, by omega, by omega, by go_num, ?_, Q2.out⟩
          have q := Q1.out
          rw [HA.out, HK.out]
          simpa only [List.append_assoc, Bool.and_assoc] using q
        case measure => simp [intOf]; omega
      · obtain rfl : k = 8 := by omega
        go_wp2_with fail
        go_end0
        rw [HOUT.out, HOK.out, ← listMay_ok, listMay, hil]
        refine ⟨rfl, ?_, HS.out.trans (HS2.out.mono HP.out)⟩
        have q := HO.out.mono HP.out
        simpa only [List.append_assoc, Bool.and_assoc] using q
    · obtain rfl : n = k := by omega
      go_wp2_with fail
      go_end0
      rw [HOUT.out, HOK.out, ← listMay_ok, listMay, hil, List.take_of_length_le (show items.length ≤ 8 by omega)]
      refine ⟨rfl, ?_, HS.out.trans (HS2.out.mono HP.out)⟩
      have q := HO.out.mono HP.out
      rw [List.take_of_length_le (show items.length ≤ n by omega)] at q
      simpa only [List.append_assoc, Bool.and_assoc] using q
end Go.Proofs.YtngcbpgafjnfaaaGreatDoor


namespace Go.Proofs.YtngcbpgafjnfaaaGreatDoor
set_option linter.unusedVariables false

/-- one part: read off l (md), or written behind l -/
def step {α : Type} (c : Cod α) (md : Bool) (l : List Nat) (a : α) : Option (List Nat × α) :=
  if md then (c.dec l).map fun x => (x.2, x.1) else if c.ok a then some (l ++ c.enc a, a) else none
theorem step_w {α : Type} (c : Cod α) (l : List Nat) (a : α) : step c false l a = if c.ok a then some (l ++ c.enc a, a) else none := rfl
theorem step_r {α : Type} (c : Cod α) (l : List Nat) (a : α) : step c true l a = (c.dec l).map fun x => (x.2, x.1) := rfl
theorem step_two {α β : Type} (c : Cod α) (d : Cod β) (md : Bool) (l : List Nat) (a : α) (b : β) :
    step (c.two d) md l (a, b) = (step c md l a).bind fun x => (step d md x.1 b).bind fun y => some (y.1, (x.2, y.2)) := by
  cases md
  · simp only [step_w, Cod.two, Cod.dep]
    cases h1 : c.ok a <;> cases h2 : d.ok b <;> simp [h2]
  · simp only [step_r, Cod.two, Cod.dep]
    cases h1 : c.dec l with
    | none => simp
    | some x =>
      obtain ⟨x, r⟩ := x
      simp only [Option.map_some, Option.bind_some]
      cases h2 : d.dec r with
      | none => simp
      | some y => obtain ⟨y, s⟩ := y; simp
theorem step_dep {α β : Type} (c : Cod α) (d : α → Cod β) (md : Bool) (l : List Nat) (a : α) (b : β) :
    step (c.dep d) md l (a, b) = (step c md l a).bind fun x => (step (d x.2) md x.1 b).bind fun y => some (y.1, (x.2, y.2)) := by
  cases md
  · simp only [step_w, Cod.dep]
    cases h1 : c.ok a <;> cases h2 : (d a).ok b <;> simp [h2]
  · simp only [step_r, Cod.dep]
    cases h1 : c.dec l with
    | none => simp
    | some x =>
      obtain ⟨x, r⟩ := x
      simp only [Option.map_some, Option.bind_some]
      cases h2 : (d x).dec r with
      | none => simp
      | some y => obtain ⟨y, s⟩ := y; simp
theorem step_map {α β : Type} (c : Cod α) (f : α → β) (g : β → α) (md : Bool) (l : List Nat) (b : β) (h : ∀ b, f (g b) = b) :
    step (c.map f g fun _ => true) md l b = (step c md l (g b)).map fun x => (x.1, f x.2) := by
  cases md
  · simp only [step_w, Cod.map, Bool.true_and]
    cases h1 : c.ok (g b) <;> simp [h]
  · simp only [step_r, Cod.map]
    cases h1 : c.dec l <;> simp
theorem step_skip {α : Type} (z : α) (p : α → Bool) (l : List Nat) (a : α) (md : Bool) (hp : p a = true → a = z) (hr : md = true → p a = true) :
    step (skip z p) md l a = if p a then some (l, a) else none := by
  cases md
  · simp only [step_w, skip, List.append_nil]
  · simp only [step_r, skip, Option.map_some, hr rfl, if_true, ← hp (hr rfl)]

/-- one behind another -/
def stepL {α : Type} (c : Cod α) (md : Bool) : List α → List Nat → Option (List Nat × List α)
  | [], l => some (l, [])
  | a :: x, l => (step c md l a).bind fun y => (stepL c md x y.1).bind fun z => some (z.1, y.2 :: z.2)
theorem stepL_append {α : Type} (c : Cod α) (md : Bool) : ∀ (x y : List α) (l : List Nat),
    stepL c md (x ++ y) l = (stepL c md x l).bind fun p => (stepL c md y p.1).bind fun q => some (q.1, p.2 ++ q.2)
  | [], y, l => by
    simp only [List.nil_append, stepL, Option.bind_some]
    cases stepL c md y l <;> rfl
  | a :: x, y, l => by
    simp only [List.cons_append, stepL]
    cases h : step c md l a with
    | none => rfl
    | some p =>
      simp only [Option.bind_some]
      rw [stepL_append c md x y p.1]
      cases h1 : stepL c md x p.1 with
      | none => rfl
      | some q =>
        simp only [Option.bind_some]
        cases h2 : stepL c md y q.1 with
        | none => rfl
        | some r => simp
theorem stepL_one {α : Type} (c : Cod α) (md : Bool) (a : α) (l : List Nat) : stepL c md [a] l = (step c md l a).map fun p => (p.1, [p.2]) := by
  simp only [stepL]
  cases step c md l a <;> simp
theorem stepL_len {α : Type} (c : Cod α) (md : Bool) : ∀ (x : List α) (l l' : List Nat) (y : List α), stepL c md x l = some (l', y) → y.length = x.length
  | [], l, l', y, h => by simp only [stepL, Option.some.injEq, Prod.mk.injEq] at h; rw [← h.2]
  | a :: x, l, l', y, h => by
    simp only [stepL] at h
    cases h1 : step c md l a with
    | none => rw [h1] at h; cases h
    | some p =>
      rw [h1] at h
      simp only [Option.bind_some] at h
      cases h2 : stepL c md x p.1 with
      | none => rw [h2] at h; cases h
      | some q =>
        rw [h2] at h
        simp only [Option.bind_some, Option.some.injEq, Prod.mk.injEq] at h
        obtain ⟨_, rfl⟩ := h
        simp [stepL_len c md x p.1 q.1 q.2 h2]
/-- the first k of them, and one more -/
theorem stepL_more {α : Type} (c : Cod α) (md : Bool) {x : List α} {k : Nat} {a : α} (h : x[k]? = some a) (l : List Nat) :
    stepL c md (x.take (k + 1)) l = (stepL c md (x.take k) l).bind fun p => (step c md p.1 a).map fun q => (q.1, p.2 ++ [q.2]) := by
  have e : x.take (k + 1) = x.take k ++ [a] := by rw [List.take_add_one, h]; rfl
  rw [e, stepL_append]
  cases h1 : stepL c md (x.take k) l with
  | none => rfl
  | some p =>
    simp only [Option.bind_some, stepL_one]
    cases h2 : step c md p.1 a <;> simp
/-- where one fails all do -/
theorem stepL_none {α : Type} (c : Cod α) (md : Bool) {x : List α} {k : Nat} (l : List Nat) (h : stepL c md (x.take k) l = none) : stepL c md x l = none := by
  rw [← List.take_append_drop k x, stepL_append, h]; rfl
theorem stepL_r {α : Type} (c : Cod α) : ∀ (x : List α) (l : List Nat), stepL c true x l = (repDec c x.length l).map fun p => (p.2, p.1)
  | [], l => rfl
  | a :: x, l => by
    simp only [stepL, step_r, List.length_cons, repDec]
    cases h : c.dec l with
    | none => rfl
    | some p =>
      obtain ⟨p, r⟩ := p
      simp only [Option.map_some, Option.bind_some]
      rw [stepL_r c x r]
      cases h1 : repDec c x.length r with
      | none => rfl
      | some q => obtain ⟨q, s⟩ := q; rfl
theorem stepL_w {α : Type} (c : Cod α) : ∀ (x : List α) (l : List Nat), stepL c false x l = if x.all c.ok then some (l ++ x.flatMap c.enc, x) else none
  | [], l => by simp [stepL]
  | a :: x, l => by
    simp only [stepL, step_w, List.all_cons, List.flatMap_cons]
    cases h : c.ok a
    · rfl
    · simp only [if_true, Option.bind_some, Bool.true_and]
      rw [stepL_w c x]
      cases h1 : x.all c.ok <;> simp
theorem step_rep {α : Type} (c : Cod α) (md : Bool) (n : Nat) (x : List α) (hx : x.length = n) (l : List Nat) : step (rep c n) md l x = stepL c md x l := by
  subst hx
  cases md
  · rw [stepL_w, step_w]; simp [rep]
  · rw [stepL_r, step_r]; rfl
/-- their number, and they: those that are there, or as many zeros as are told -/
theorem step_list {α : Type} (c : Cod α) (md : Bool) (max : Nat) (z : α) (x : List α) (l : List Nat) :
    step (list max c) md l x = (step (num' 1 max) md l x.length).bind fun p => stepL c md (if md then List.replicate p.2 z else x) p.1 := by
  cases md
  · rw [step_w, list_ok, step_w]
    show _ = (if decide (x.length ≤ max) then some (l ++ le 1 x.length, x.length) else none).bind _
    by_cases h : x.length ≤ max
    · simp only [h, decide_true, if_true, Bool.true_and, Option.bind_some, list_enc]
      simp only [Bool.false_eq_true, if_false]
      rw [stepL_w]
      by_cases hx : x.all c.ok = true
      · rw [if_pos hx, if_pos hx]; simp
      · rw [if_neg hx, if_neg hx]
    · simp [h]
  · simp only [step_r, if_true]
    simp only [list, Cod.map, Cod.dep]
    cases h : (num' 1 max).dec l with
    | none => rfl
    | some p =>
      obtain ⟨n, r⟩ := p
      simp only [Option.map_some, Option.bind_some]
      rw [stepL_r, List.length_replicate]
      simp only [rep]
      cases h1 : repDec c n r with
      | none => rfl
      | some q => obtain ⟨q, s⟩ := q; rfl
/-- a number as an int -/
theorem step_whole (n most : Nat) (md : Bool) (l : List Nat) (v : Nat) : step (whole n most) md l (v : Int) = (step (num' n most) md l v).map fun p => (p.1, (p.2 : Int)) := by
  cases md
  · rw [step_w, step_w, whole_ok, whole_enc]
    show _ = Option.map _ (if decide (v ≤ most) then some (l ++ le n v, v) else none)
    by_cases h : v ≤ most
    · rw [if_pos (by simpa using h), if_pos (by simpa using h)]; simp
    · rw [if_neg (by simpa using h), if_neg (by simpa using h)]; rfl
  · rw [step_r, step_r]
    show Option.map _ (Option.map _ ((num' n most).dec l)) = _
    cases (num' n most).dec l <;> rfl
end Go.Proofs.YtngcbpgafjnfaaaGreatDoor


namespace Go.Proofs.YtngcbpgafjnfaaaGreatDoor
open Go.RowKit
set_option linter.unusedVariables false

/-- where what is read lies (its block); cells that are to stay while it is written -/
structure Src where
  b : Nat
  C : Nat → Nat → Value → Prop
/-- a coder at block gc: does it read; its bytes; whose values they are -/
structure CdAt (w : World) (md : Bool) (gc : Nat) (sb : Src) (f : ByteArray) (ao : Option Addr) (n cap : Nat) (l : List Nat) : Prop where
  c0 : w.cell? ⟨gc, 0, none⟩ = some (.bool md)
  c1 : w.cell? ⟨gc, 1, none⟩ = some (.slice ao n cap)
  c2 : w.cell? ⟨gc, 2, none⟩ = some (.string f)
  f1 : w.frozen? ⟨gc, 1, none⟩ = false
  f2 : w.frozen? ⟨gc, 2, none⟩ = false
  lt : gc < w.heap.size
  len : l.length = n
  le : n ≤ cap
  max : cap ≤ maxLen
  wr : md = false → Own w 0 ao n cap l ∧ gc ∉ blk ao
  st : md = false → ∀ g j v, sb.C g j v → w.cell? ⟨g, j, none⟩ = some v ∧ g < w.heap.size ∧ g ≠ gc ∧ ∀ o, ao = some ⟨g, o, none⟩ → j < o + n
  rd : md = true → Rd w ao l ∧ sb.b ≠ gc ∧ ∀ b ∈ blk ao, b = sb.b
/-- these blocks are none that the coder turns -/
def OffC (md : Bool) (w : World) (P : Nat → Prop) (gc : Nat) (sb : Src) (ao : Option Addr) : Prop := (md = true → P sb.b) ∧ ∀ b, P b → b < w.heap.size ∧ b ≠ gc ∧ (md = false → b ∉ blk ao)
def CdIs (w : World) (md : Bool) (P : Nat → Prop) (gc : Nat) (sb : Src) (f : ByteArray) (l : List Nat) : Prop := ∃ ao n cap, CdAt w md gc sb f ao n cap l ∧ OffC md w P gc sb ao

section
variable {w w' w'' : World} {md : Bool} {P Q N M : Nat → Prop} {gc g o : Nat} {sb : Src} {f : ByteArray} {l : List Nat} {ao : Option Addr} {n cap : Nat}
theorem CdIs.lt (h : CdIs w md P gc sb f l) : gc < w.heap.size := by obtain ⟨ao, n, cap, h1, h2⟩ := h; exact h1.lt
theorem CdIs.off (h : CdIs w md P gc sb f l) {b : Nat} (hb : P b) : b < w.heap.size ∧ b ≠ gc := by obtain ⟨ao, n, cap, h1, h2⟩ := h; exact ⟨(h2.2 b hb).1, (h2.2 b hb).2.1⟩
theorem CdIs.src (h : CdIs w true P gc sb f l) : P sb.b := by obtain ⟨ao, n, cap, h1, h2⟩ := h; exact h2.1 rfl
/-- other blocks that it does not turn -/
theorem CdIs.reP (h : CdIs w md P gc sb f l) (h1 : md = true → Q sb.b) (h2 : ∀ b, Q b → P b ∨ md = true ∧ b < w.heap.size ∧ b ≠ gc) : CdIs w md Q gc sb f l := by
  obtain ⟨ao, n, cap, ha, hof⟩ := h
  refine ⟨ao, n, cap, ha, h1, fun b hb => ?_⟩
  rcases h2 b hb with h3 | ⟨h3, h4, h5⟩
  · exact hof.2 b h3
  · exact ⟨h4, h5, fun h6 => by rw [h3] at h6; cases h6⟩
/-- new blocks do not turn it -/
theorem CdAt.below (h : CdAt w md gc sb f ao n cap l) (b : Below w.heap.size w w') : CdAt w' md gc sb f ao n cap l := by
  have k := Keep.of_below b []
  exact ⟨(k.cell (a := ⟨gc, 0, none⟩) h.lt (by simp)).trans h.c0, (k.cell (a := ⟨gc, 1, none⟩) h.lt (by simp)).trans h.c1, (k.cell (a := ⟨gc, 2, none⟩) h.lt (by simp)).trans h.c2,
    (k.frozen (a := ⟨gc, 1, none⟩) h.lt (by simp)).trans h.f1, (k.frozen (a := ⟨gc, 2, none⟩) h.lt (by simp)).trans h.f2, Nat.lt_of_lt_of_le h.lt b.size, h.len, h.le, h.max,
    fun hm => ⟨(h.wr hm).1.below b, (h.wr hm).2⟩, fun hm g j v hv => ⟨(b.cell (p := ⟨g, j, none⟩) (h.st hm g j v hv).2.1).trans (h.st hm g j v hv).1, Nat.lt_of_lt_of_le (h.st hm g j v hv).2.1 b.size, (h.st hm g j v hv).2.2⟩, fun hm => ⟨(h.rd hm).1.below b, (h.rd hm).2⟩⟩
theorem CdAt.blk_lt (h : CdAt w false gc sb f ao n cap l) : ∀ b ∈ blk ao, b < w.heap.size := fun b hb => ((h.wr rfl).1.lt_size b hb).2
/-- a new block more, that is none of the coder's -/
theorem CdIs.alloc (h : CdIs w md P gc sb f l) (ob : Obj) (h2 : ∀ b, Q b → P b ∨ b = w.heap.size) (h1 : md = true → Q sb.b) : CdIs (w.alloc ob) md Q gc sb f l := by
  obtain ⟨ao, n, cap, ha, hof⟩ := h
  refine ⟨ao, n, cap, ha.below (below_alloc (Below.refl _ _) ob), h1, fun b hb => ?_⟩
  rcases h2 b hb with h3 | rfl
  · exact ⟨by have := (hof.2 b h3).1; simp; omega, (hof.2 b h3).2⟩
  · exact ⟨by simp, fun e => by have := ha.lt; omega, fun hm hb2 => by subst hm; have := ha.blk_lt _ hb2; omega⟩
/-- a store beside it -/
theorem CdAt.put (h : CdAt w true gc sb f ao n cap l) (hP : ∀ b ∈ blk ao, b ≠ g) (hg : g ≠ gc) (v : Value) : CdAt (w.setCell ⟨g, o, none⟩ v) true gc sb f ao n cap l := by
  have hne : ∀ j, (⟨g, o, none⟩ : Addr) ≠ ⟨gc, j, none⟩ := fun j e => hg (by cases e; rfl)
  refine ⟨?_, ?_, ?_, (by rw [World.frozen?_setCell]; exact h.f1), (by rw [World.frozen?_setCell]; exact h.f2), (by simpa [World.setCell] using h.lt), h.len, h.le, h.max, (fun hm => by cases hm), (fun hm => by cases hm), fun _ => ⟨(h.rd rfl).1.keep (Keep.setCell w ⟨g, o, none⟩ v) fun b hb hm => hP b hb (by simpa using hm), (h.rd rfl).2⟩⟩
  · rw [World.cell?_setCell_other _ _ _ _ (hne 0)]; exact h.c0
  · rw [World.cell?_setCell_other _ _ _ _ (hne 1)]; exact h.c1
  · rw [World.cell?_setCell_other _ _ _ _ (hne 2)]; exact h.c2
theorem CdIs.put (h : CdIs w true P gc sb f l) (hP : ¬ P g) (hg : g ≠ gc) (v : Value) : CdIs (w.setCell ⟨g, o, none⟩ v) true P gc sb f l := by
  obtain ⟨ao, n, cap, ha, hof⟩ := h
  exact ⟨ao, n, cap, ha.put (fun b hb e => hP (by have h1 := (ha.rd rfl).2.2 b hb; have h2 := hof.1 rfl; rw [← h1, e] at h2; exact h2)) hg v, hof.1, fun b hb => ⟨by simpa [World.setCell] using (hof.2 b hb).1, (hof.2 b hb).2⟩⟩
end

/-- the cells from o on of block g -/
def Cells (w : World) (g o : Nat) (cs : List Value) : Prop := ∀ j u, cs[j]? = some u → w.cell? ⟨g, o + j, none⟩ = some u
theorem Cells.safe {w w' : World} {P : Nat → Prop} {g o : Nat} {cs : List Value} (h : Cells w g o cs) (s : Safe P w w') (hg : P g) : Cells w' g o cs := fun j u hu => (s.cell (a := ⟨g, o + j, none⟩) hg).trans (h j u hu)
theorem Cells.same {w w' : World} {g o : Nat} {cs : List Value} (h : Cells w g o cs) (hs : ∀ j, j < cs.length → w'.cell? ⟨g, o + j, none⟩ = w.cell? ⟨g, o + j, none⟩) : Cells w' g o cs := fun j u hu => (hs j (List.getElem?_eq_some_iff.1 hu).1).trans (h j u hu)

/-- a kind of part: how it is written and read, how many cells it has, its zero, what its cells are -/
structure Kd (α : Type) where
  cod : Cod α
  sz : Nat
  zero : α
  is : World → (Nat → Prop) → List Value → α → Prop
structure Kd.Fine {α : Type} (k : Kd α) : Prop where
  size : ∀ w N cs a, k.is w N cs a → cs.length = k.sz
  safe : ∀ w w' N P cs a, k.is w N cs a → Safe P w w' → (∀ b, N b → P b) → k.is w' N cs a
  mono : ∀ w N M cs a, k.is w N cs a → (∀ b, N b → M b) → k.is w M cs a

/-- the blocks that stay: where it is read the new ones too -/
def Grow (md : Bool) (P : Nat → Prop) (w w' : World) : Nat → Prop := fun b => P b ∨ md = true ∧ w.heap.size ≤ b ∧ b < w'.heap.size
theorem Grow.old {md : Bool} {P : Nat → Prop} {w w' : World} {b : Nat} (h : P b) : Grow md P w w' b := .inl h
/-- the call gave up, and what it tells -/
def Gave (md : Bool) (f : ByteArray) (e : Ending) (w w' : World) : Prop :=
  ∃ a, w.heap.size ≤ a ∧ a < w'.heap.size ∧ e = .panicked [{ v := .iface 112 (.pointer (some ⟨a, 0, none⟩)), recovered := false }] ∧ w'.cell? ⟨a, 0, none⟩ = some (.int .i64 (if md then 44 else 42)) ∧ w'.cell? ⟨a, 1, none⟩ = some (.string f)
/-- the blocks of P stay; block g has the cells that it had, and they may be laid as before -/
structure SafeK (P : Nat → Prop) (g : Nat) (w w' : World) : Prop extends Safe P w w' where
  has : ∀ j, (w.cell? ⟨g, j, none⟩).isSome = true → (w'.cell? ⟨g, j, none⟩).isSome = true
  fr : ∀ j, w'.frozen? ⟨g, j, none⟩ = w.frozen? ⟨g, j, none⟩
section
variable {P Q : Nat → Prop} {g : Nat} {w w' w'' : World}
theorem SafeK.refl (P : Nat → Prop) (g : Nat) (w : World) : SafeK P g w w := ⟨Safe.refl P w, fun _ h => h, fun _ => rfl⟩
theorem SafeK.trans (h : SafeK P g w w') (k : SafeK P g w' w'') : SafeK P g w w'' := ⟨h.toSafe.trans k.toSafe, fun j hj => k.has j (h.has j hj), fun j => (k.fr j).trans (h.fr j)⟩
theorem SafeK.weak (h : SafeK P g w w') (hq : ∀ k, Q k → P k) : SafeK Q g w w' := ⟨h.toSafe.mono hq, h.has, h.fr⟩
theorem SafeK.in_ (h : Safe P w w') (hg : P g) : SafeK P g w w' := ⟨h, fun j hj => by rw [h.cell (a := ⟨g, j, none⟩) hg]; exact hj, fun j => World.frozen?_of_block (w := w) (a := ⟨g, j, none⟩) (h.block g hg)⟩
theorem SafeK.of (h : Safe (fun b => P b ∨ b = g) w w') : SafeK P g w w' := (SafeK.in_ h (.inr rfl)).weak fun b hb => .inl hb
theorem SafeK.below (h : Below w.heap.size w w') (hP : ∀ b, P b → b < w.heap.size) (hg : g < w.heap.size) : SafeK P g w w' :=
  SafeK.of ⟨h.os, h.tape, h.output, h.size, fun b hb => h.block b (by rcases hb with hb | rfl; exact hP b hb; exact hg)⟩
end
/-- what a part's function comes to -/
def Coded {α : Type} (md : Bool) (P N : Nat → Prop) (gc : Nat) (sb : Src) (f : ByteArray) (g o : Nat) (k : Kd α) (w : World) (r : Option (List Nat × α)) (e : Ending) (w' : World) : Prop :=
  SafeK P g w w' ∧ match r with
  | none => Gave md f e w w'
  | some p => e = .returned (.tuple #[]) ∧ CdIs w' md (Grow md P w w') gc sb f p.1 ∧ (∃ cs, k.is w' (Grow md N w w') cs p.2 ∧ Cells w' g o cs) ∧
      (∀ j, j < o ∨ o + k.sz ≤ j → w'.cell? ⟨g, j, none⟩ = w.cell? ⟨g, j, none⟩) ∧ ∀ j, w'.frozen? ⟨g, j, none⟩ = w.frozen? ⟨g, j, none⟩
/-- a part's function: from any coder, on any value; where it is read from zero -/
def Codes {α : Type} (F : Nat) (xs : List Value) (k : Kd α) (mx : Nat) : Prop :=
  ∀ (md : Bool) (P N : Nat → Prop) (gc : Nat) (sb : Src) (f : ByteArray) (l : List Nat) (g o : Nat) (cs : List Value) (a : α) (w : World), CdIs w md P gc sb f l → (md = true → a = k.zero) → k.is w N cs a → Cells w g o cs →
    (∀ b, N b → P b) → (md = false → P g) → (md = true → ¬ P g ∧ ∀ j, w.frozen? ⟨g, j, none⟩ = false) → g < w.heap.size → g ≠ gc → l.length + mx ≤ 140737488355328 →
    Calls Tryz.prog F ([Value.pointer (some ⟨gc, 0, none⟩), .pointer (some ⟨g, o, none⟩)] ++ xs).toArray w (Coded md P N gc sb f g o k w (step k.cod md l a))

/-- a part of a struct: where it stands, what it is -/
structure Slot where
  off : Nat
  sz : Nat
  p : World → (Nat → Prop) → List Value → Prop
structure Slot.Fine (s : Slot) : Prop where
  size : ∀ w N cs, s.p w N cs → cs.length = s.sz
  safe : ∀ w w' N P cs, s.p w N cs → Safe P w w' → (∀ b, N b → P b) → s.p w' N cs
  mono : ∀ w N M cs, s.p w N cs → (∀ b, N b → M b) → s.p w M cs
def Kd.slot {α : Type} (k : Kd α) (off : Nat) (a : α) : Slot := ⟨off, k.sz, fun w N cs => k.is w N cs a⟩
theorem Kd.Fine.slot {α : Type} {k : Kd α} (h : k.Fine) (off : Nat) (a : α) : (k.slot off a).Fine := ⟨fun w N cs hp => h.size w N cs a hp, fun w w' N P cs hp => h.safe w w' N P cs a hp, fun w N M cs hp => h.mono w N M cs a hp⟩
def Slots (w : World) (N : Nat → Prop) (g o : Nat) : List Slot → Prop
  | [] => True
  | s :: L => (∃ cs, s.p w N cs ∧ Cells w g (o + s.off) cs) ∧ Slots w N g o L
def Apart (off sz : Nat) : List Slot → Prop
  | [] => True
  | s :: L => (s.off + s.sz ≤ off ∨ off + sz ≤ s.off) ∧ Apart off sz L
def AllFine : List Slot → Prop
  | [] => True
  | s :: L => s.Fine ∧ AllFine L
theorem Slots.go {w w' : World} {N M P : Nat → Prop} {g o off sz : Nat} : ∀ {L : List Slot}, Slots w N g o L → AllFine L → Apart off sz L → Safe P w w' → (∀ b, N b → P b) → (∀ b, N b → M b) →
    (∀ j, j < o + off ∨ o + off + sz ≤ j → w'.cell? ⟨g, j, none⟩ = w.cell? ⟨g, j, none⟩) → Slots w' M g o L
  | [], _, _, _, _, _, _, _ => trivial
  | s :: L, h, hf, ha, hs, hN, hM, hc => by
    obtain ⟨⟨cs, h1, h2⟩, h3⟩ := h
    refine ⟨⟨cs, hf.1.mono _ _ _ _ (hf.1.safe _ _ _ _ _ h1 hs hN) hM, h2.same fun j hj => hc _ ?_⟩, Slots.go h3 hf.2 ha.2 hs hN hM hc⟩
    have := hf.1.size _ _ _ h1
    rcases ha.1 with h4 | h4 <;> omega

/-- midway through a struct: what is done, what is still to come -/
structure Mid (md : Bool) (P N : Nat → Prop) (gc : Nat) (sb : Src) (f : ByteArray) (l : List Nat) (g o sz : Nat) (D R : List Slot) (w0 w : World) : Prop where
  cd : CdIs w md (Grow md P w0 w) gc sb f l
  safe : SafeK P g w0 w
  dn : Slots w (Grow md N w0 w) g o D
  to : Slots w (Grow md N w0 w) g o R
  out : ∀ j, j < o ∨ o + sz ≤ j → w.cell? ⟨g, j, none⟩ = w0.cell? ⟨g, j, none⟩
  fz : ∀ j, w.frozen? ⟨g, j, none⟩ = w0.frozen? ⟨g, j, none⟩
def MidEnd {α : Type} (md : Bool) (P N : Nat → Prop) (gc : Nat) (sb : Src) (f : ByteArray) (g o sz off : Nat) (D R : List Slot) (k : Kd α) (w0 : World) (r : Option (List Nat × α)) (e : Ending) (w' : World) : Prop :=
  match r with
  | none => SafeK P g w0 w' ∧ Gave md f e w0 w'
  | some p => e = .returned (.tuple #[]) ∧ Mid md P N gc sb f p.1 g o sz (k.slot off p.2 :: D) R w0 w'
section
variable {md : Bool} {P N : Nat → Prop} {gc g o sz : Nat} {sb : Src} {f : ByteArray} {l : List Nat} {D R : List Slot} {w0 w : World}
theorem grow_self (md : Bool) (P : Nat → Prop) (w : World) : ∀ b, Grow md P w w b → P b := fun b hb => by
  rcases hb with h | ⟨_, h1, h2⟩
  · exact h
  · omega
theorem CdIs.growSelf (h : CdIs w md P gc sb f l) : CdIs w md (Grow md P w w) gc sb f l := h.reP (fun hm => by subst hm; exact .inl h.src) fun b hb => .inl (grow_self md P w b hb)
theorem Mid.start (hcd : CdIs w md P gc sb f l) (hto : Slots w (Grow md N w w) g o R) : Mid md P N gc sb f l g o sz [] R w w :=
  ⟨hcd.growSelf, SafeK.refl _ _ _, trivial, hto, fun _ _ => rfl, fun _ => rfl⟩
theorem Gave.from {md : Bool} {f : ByteArray} {e : Ending} {w0 w w' : World} (h : Gave md f e w w') (hs : w0.heap.size ≤ w.heap.size) : Gave md f e w0 w' := by
  obtain ⟨a, h1, h2⟩ := h
  exact ⟨a, by omega, h2⟩
theorem Mid.call {α : Type} {k : Kd α} (hk : k.Fine) {F mx : Nat} {xs : List Value} (hF : Codes F xs k mx) {off : Nat} {a : α} (M : Mid md P N gc sb f l g o sz D (k.slot off a :: R) w0 w)
    (hz : md = true → a = k.zero) (hN : ∀ b, N b → P b) (hw : md = false → P g) (hr : md = true → ¬ P g ∧ ∀ j, w0.frozen? ⟨g, j, none⟩ = false) (hg : g < w0.heap.size) (hne : g ≠ gc) (hl : l.length + mx ≤ 140737488355328)
    (hsz : off + k.sz ≤ sz) (hfd : AllFine D) (hfr : AllFine R) (had : Apart off k.sz D) (har : Apart off k.sz R) :
    Calls Tryz.prog F ([Value.pointer (some ⟨gc, 0, none⟩), .pointer (some ⟨g, o + off, none⟩)] ++ xs).toArray w (MidEnd md P N gc sb f g o sz off D R k w0 (step k.cod md l a)) := by
  obtain ⟨⟨cs, hi, hc⟩, hR⟩ := M.to
  have hsize := M.safe.size
  have hNP : ∀ b, Grow md N w0 w b → Grow md P w0 w b := fun b hb => by
    rcases hb with h | h
    · exact .inl (hN b h)
    · exact .inr h
  refine (hF md (Grow md P w0 w) (Grow md N w0 w) gc sb f l g (o + off) cs a w M.cd hz hi hc hNP (fun hm => .inl (hw hm)) (fun hm => ⟨fun h => ?_, fun j => (M.fz j).trans ((hr hm).2 j)⟩) (by omega) hne hl).mono ?_
  · rcases h with h | ⟨_, h1, _⟩
    · exact (hr hm).1 h
    · omega
  rintro e w' ⟨hs, h⟩
  have hsP : SafeK P g w w' := hs.weak fun b hb => .inl hb
  have hs := hs.toSafe
  have hsize2 := hs.size
  unfold MidEnd
  cases hst : step k.cod md l a with
  | none =>
    rw [hst] at h
    exact ⟨M.safe.trans hsP, h.from hsize⟩
  | some p =>
    rw [hst] at h
    obtain ⟨he, hcd, ⟨cs', hi', hc'⟩, hout, hfz⟩ := h
    have hgr : ∀ b, Grow md (Grow md N w0 w) w w' b → Grow md N w0 w' b := fun b hb => by
      rcases hb with (h | ⟨h1, h2, h3⟩) | ⟨h1, h2, h3⟩
      · exact .inl h
      · exact .inr ⟨h1, h2, by omega⟩
      · exact .inr ⟨h1, by omega, h3⟩
    have hgm : ∀ b, Grow md N w0 w b → Grow md N w0 w' b := fun b hb => hgr b (.inl hb)
    refine ⟨he, hcd.reP (fun hm => ?_) (fun b hb => ?_), M.safe.trans hsP, ⟨⟨cs', hk.mono _ _ _ _ _ hi' hgr, hc'⟩, M.dn.go hfd had hs hNP hgm hout⟩, hR.go hfr har hs hNP hgm hout, fun j hj => ?_, fun j => (hfz j).trans (M.fz j)⟩
    · subst hm
      rcases hcd.src with (h | ⟨h1, h2, h3⟩) | ⟨h1, h2, h3⟩
      · exact .inl h
      · exact .inr ⟨h1, h2, by omega⟩
      · exact .inr ⟨h1, by omega, h3⟩
    · rcases hb with h | ⟨h1, h2, h3⟩
      · exact .inl (.inl (.inl h))
      · by_cases hb2 : b < w.heap.size
        · exact .inl (.inl (.inr ⟨h1, h2, hb2⟩))
        · exact .inl (.inr ⟨h1, by omega, h3⟩)
    · have := hout j (by omega)
      exact this.trans (M.out j hj)
end

/-- midway through a row of parts of one kind -/
structure MidL {α : Type} (md : Bool) (P N : Nat → Prop) (gc : Nat) (sb : Src) (f : ByteArray) (l : List Nat) (g o : Nat) (k : Kd α) (xs : List α) (w0 w : World) : Prop where
  cd : CdIs w md (Grow md P w0 w) gc sb f l
  safe : SafeK P g w0 w
  at_ : ∀ i a, xs[i]? = some a → ∃ cs, k.is w (Grow md N w0 w) cs a ∧ Cells w g (o + i * k.sz) cs
  out : ∀ j, j < o ∨ o + xs.length * k.sz ≤ j → w.cell? ⟨g, j, none⟩ = w0.cell? ⟨g, j, none⟩
  fz : ∀ j, w.frozen? ⟨g, j, none⟩ = w0.frozen? ⟨g, j, none⟩
def MidLEnd {α : Type} (md : Bool) (P N : Nat → Prop) (gc : Nat) (sb : Src) (f : ByteArray) (g o i : Nat) (k : Kd α) (xs : List α) (w0 : World) (r : Option (List Nat × α)) (e : Ending) (w' : World) : Prop :=
  match r with
  | none => SafeK P g w0 w' ∧ Gave md f e w0 w'
  | some p => e = .returned (.tuple #[]) ∧ MidL md P N gc sb f p.1 g o k (xs.set i p.2) w0 w'
section
variable {md : Bool} {P N : Nat → Prop} {gc g o : Nat} {sb : Src} {f : ByteArray} {l : List Nat} {w0 w : World}
theorem MidL.start {α : Type} {k : Kd α} {xs : List α} (hcd : CdIs w md P gc sb f l) (h : ∀ i a, xs[i]? = some a → ∃ cs, k.is w (Grow md N w w) cs a ∧ Cells w g (o + i * k.sz) cs) : MidL md P N gc sb f l g o k xs w w :=
  ⟨hcd.growSelf, SafeK.refl _ _ _, h, fun _ _ => rfl, fun _ => rfl⟩
theorem MidL.call {α : Type} {k : Kd α} (hk : k.Fine) {F mx : Nat} {ys : List Value} (hF : Codes F ys k mx) {xs : List α} {i : Nat} {a : α} (M : MidL md P N gc sb f l g o k xs w0 w) (hi : xs[i]? = some a)
    (hz : md = true → a = k.zero) (hN : ∀ b, N b → P b) (hw : md = false → P g) (hr : md = true → ¬ P g ∧ ∀ j, w0.frozen? ⟨g, j, none⟩ = false) (hg : g < w0.heap.size) (hne : g ≠ gc) (hl : l.length + mx ≤ 140737488355328) :
    Calls Tryz.prog F ([Value.pointer (some ⟨gc, 0, none⟩), .pointer (some ⟨g, o + i * k.sz, none⟩)] ++ ys).toArray w (MidLEnd md P N gc sb f g o i k xs w0 (step k.cod md l a)) := by
  obtain ⟨cs, hic, hc⟩ := M.at_ i a hi
  have hil : i < xs.length := (List.getElem?_eq_some_iff.1 hi).1
  have hsize := M.safe.size
  have hNP : ∀ b, Grow md N w0 w b → Grow md P w0 w b := fun b hb => by
    rcases hb with h | h
    · exact .inl (hN b h)
    · exact .inr h
  refine (hF md (Grow md P w0 w) (Grow md N w0 w) gc sb f l g (o + i * k.sz) cs a w M.cd hz hic hc hNP (fun hm => .inl (hw hm)) (fun hm => ⟨fun h => ?_, fun j => (M.fz j).trans ((hr hm).2 j)⟩) (by omega) hne hl).mono ?_
  · rcases h with h | ⟨_, h1, _⟩
    · exact (hr hm).1 h
    · omega
  rintro e w' ⟨hs, h⟩
  have hsP : SafeK P g w w' := hs.weak fun b hb => .inl hb
  have hs := hs.toSafe
  have hsize2 := hs.size
  unfold MidLEnd
  cases hst : step k.cod md l a with
  | none =>
    rw [hst] at h
    exact ⟨M.safe.trans hsP, h.from hsize⟩
  | some p =>
    rw [hst] at h
    obtain ⟨he, hcd, ⟨cs', hi', hc'⟩, hout, hfz⟩ := h
    have hgr : ∀ b, Grow md (Grow md N w0 w) w w' b → Grow md N w0 w' b := fun b hb => by
      rcases hb with (h | ⟨h1, h2, h3⟩) | ⟨h1, h2, h3⟩
      · exact .inl h
      · exact .inr ⟨h1, h2, by omega⟩
      · exact .inr ⟨h1, by omega, h3⟩
    have hgm : ∀ b, Grow md N w0 w b → Grow md N w0 w' b := fun b hb => hgr b (.inl hb)
    refine ⟨he, hcd.reP (fun hm => ?_) (fun b hb => ?_), M.safe.trans hsP, fun j b hj => ?_, fun j hj => ?_, fun j => (hfz j).trans (M.fz j)⟩
    · subst hm
      rcases hcd.src with (h | ⟨h1, h2, h3⟩) | ⟨h1, h2, h3⟩
      · exact .inl h
      · exact .inr ⟨h1, h2, by omega⟩
      · exact .inr ⟨h1, by omega, h3⟩
    · rcases hb with h | ⟨h1, h2, h3⟩
      · exact .inl (.inl (.inl h))
      · by_cases hb2 : b < w.heap.size
        · exact .inl (.inl (.inr ⟨h1, h2, hb2⟩))
        · exact .inl (.inr ⟨h1, by omega, h3⟩)
    · by_cases e : j = i
      · subst e
        rw [List.getElem?_set_self hil] at hj
        injection hj with hj
        subst hj
        exact ⟨cs', hk.mono _ _ _ _ _ hi' hgr, hc'⟩
      · rw [List.getElem?_set_ne (Ne.symm e)] at hj
        obtain ⟨cs2, h1, h2⟩ := M.at_ j b hj
        refine ⟨cs2, hk.mono _ _ _ _ _ (hk.safe _ _ _ _ _ _ h1 hs hNP) hgm, h2.same fun q hq => hout _ ?_⟩
        have hsz := hk.size _ _ _ _ h1
        rw [hsz] at hq
        rcases (by omega : j < i ∨ i < j) with h3 | h3
        · left
          have : (j + 1) * k.sz ≤ i * k.sz := Nat.mul_le_mul_right _ h3
          rw [Nat.succ_mul] at this
          omega
        · right
          have : (i + 1) * k.sz ≤ j * k.sz := Nat.mul_le_mul_right _ h3
          rw [Nat.succ_mul] at this
          omega
    · rw [List.length_set] at hj
      have h2 : (i + 1) * k.sz ≤ xs.length * k.sz := Nat.mul_le_mul_right _ hil
      rw [Nat.succ_mul] at h2
      exact (hout j (by omega)).trans (M.out j hj)
end
end Go.Proofs.YtngcbpgafjnfaaaGreatDoor
