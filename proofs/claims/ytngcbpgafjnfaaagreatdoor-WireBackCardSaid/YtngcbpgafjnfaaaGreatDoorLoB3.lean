/- Layer 4: append of a text's bytes to a slice of the call's own, from whatever place of a row on. Layer 4, plain: the parts of a message, how each is written and read. No program in sight. -/
import Derived.Test.YtngcbpgafjnfaaaGreatDoorLoB2
import Derived.Lib.AppendStr
import Derived.Lib.SlBytesRow
set_option linter.unusedSimpArgs false
set_option linter.unusedVariables false

namespace Go.Proofs.YtngcbpgafjnfaaaGreatDoor
open Go.RowKit
set_option linter.unusedVariables false

theorem strCells_bs (s : ByteArray) : Go.Lib.strCells s = cs (bs s) := by
  simp only [Go.Lib.strCells, cs, bs, List.map_map]
  rfl
theorem run_room_str {P : Program} (w : World) (t u ty e : TypeId) (i : TypeInfo) (ht : P.underlying t = some (.slice e)) (hu : P.underlying u = some .string) (hi : P.info? e = some i) (hs1 : i.size = 1)
    (g off sLen sCap : Nat) (cur : Array Value) (hg : w.heap[g]? = some (.cells cur e (0, 0))) (s : ByteArray)
    (hroom : sLen + s.size ≤ sCap) (hfit : off + sLen + s.size ≤ cur.size) :
    (Builtin.append_ #[t, u] ty #[.slice (some ⟨g, off, none⟩) sLen sCap, .string s]).run P w =
      .ok (.slice (some ⟨g, off, none⟩) (sLen + s.size) sCap) (w.setRow g (cur.toList.take (off + sLen) ++ Go.Lib.strCells s ++ cur.toList.drop (off + sLen + s.size)).toArray) := by
  have hf := Go.Lib.run_firstCells_string (P := P) w 1 s
  have hst := run_storeCells_at P g (off + sLen) e (Go.Lib.strCells s) 0 cur w hg (by simpa [Go.Lib.strCells_length] using hfit) (Go.Lib.strCells_oneCell s)
  simp only [Nat.add_zero, Go.Lib.strCells_length] at hst
  simp [Builtin.append_, run_underlying ht, run_underlying hu, sizeOf, typeInfo, hi, hs1, Builtin.lenOf, hroom, hf, Addr.add_lit, hst]

section
variable {w : World} {B : Nat} {ao : Option Addr} {n cap : Nat} {l : List Nat}
theorem Own.run_apps (h : Own w B ao n cap l) (s : ByteArray) (hB : B ≤ w.heap.size) (hbig : n + s.size ≤ 140737488355328) (ty : TypeId) :
    ∃ ao' cap' w', (Builtin.append_ #[54, 9] ty #[.slice ao n cap, .string s]).run Tryz.prog w = .ok (.slice ao' (n + s.size) cap') w' ∧ Own w' B ao' (n + s.size) cap' (l ++ bs s) ∧ Keep (blk ao) w w' ∧
      (∀ g ∈ blk ao', g ∈ blk ao ∨ w.heap.size ≤ g) ∧ (ao' = ao ∨ ∀ g ∈ blk ao', w.heap.size ≤ g) ∧ ∀ g o j, ao = some ⟨g, o, none⟩ → j < o + n → w'.cell? ⟨g, j, none⟩ = w.cell? ⟨g, j, none⟩ := by
  obtain ⟨i0, hi, hz0, hz1, hz2⟩ := info_parts byte_info
  have hlen := h.len
  have hlt : ∀ c ∈ l ++ bs s, c < 256 := fun c hc => by rcases List.mem_append.1 hc with h1 | h1; exact h.lt c h1; exact bs_bytes s c h1
  have hml : maxLen = 9223372036854775807 := rfl
  have hsl := bs_length s
  cases ao with
  | none =>
    have hc0 := h.no rfl
    have hn0 : n = 0 := by have := h.le; omega
    subst hc0; subst hn0
    obtain rfl : l = [] := List.eq_nil_of_length_eq_zero hlen
    obtain ⟨v', w', hr, h2, h3, _⟩ := Go.Lib.run_append_own_string (P := Tryz.prog) w w.heap.size 54 9 ty 5 i0 Tryz.underlying54 Tryz.underlying9 hi hz0 hz1 hz2 (.slice none 0 0) 0 [] (World.ownsRow_nil _ _ _ _) s (by omega) (by omega) (Nat.le_refl _)
    rw [strCells_bs, Nat.zero_add] at h2
    obtain ⟨ao', cap', rfl, ho⟩ := Own.of_owns (l := bs s) rfl (by simpa [hsl] using h2) (bs_bytes s)
    rw [Nat.zero_add]
    exact ⟨ao', cap', w', hr, by simpa using ho.base hB, ⟨h3.os, h3.tape, h3.output, h3.size, fun k hk _ => h3.block k hk (by simp [Value.ownBlock])⟩, fun g hg => .inr (ho.lt_size g hg).1, .inr (fun g hg => (ho.lt_size g hg).1), fun _ _ _ e => by cases e⟩
  | some a =>
    obtain ⟨g, o, row, rfl, hbg, hg, hfit, hrow⟩ := h.row a rfl
    by_cases hroom : n + s.size ≤ cap
    · have hr := run_room_str (P := Tryz.prog) w 54 9 ty 5 i0 Tryz.underlying54 Tryz.underlying9 hi hz1 g o n cap row hg s hroom (by omega)
      refine ⟨_, _, _, hr, ⟨by simp; omega, hroom, h.max, hlt, by simp, fun a ha => ?_⟩, Keep.setRow _ _ _, fun g hg => .inl hg, .inl rfl, fun g2 o2 j e hj => by
        cases e
        rw [cell_of_row _ g j _ _ (0, 0) (setRow_heap w g row _ _ _ hg), cell_of_row _ g j _ _ (0, 0) hg, List.getElem?_toArray, List.append_assoc, List.getElem?_append_left (by simp; omega), List.getElem?_take, if_pos hj, Array.getElem?_toList]⟩
      cases ha
      rw [strCells_bs]
      refine ⟨g, o, _, rfl, hbg, setRow_heap w g row _ _ _ hg, ?_, fun j hj => ?_⟩
      · simp; omega
      · rw [List.getElem?_toArray]
        by_cases hjn : j < n
        · rw [bt_append_left (by omega), List.append_assoc, List.getElem?_append_left (by simp; omega), List.getElem?_take, if_pos (by omega), Array.getElem?_toList]
          exact hrow j hjn
        · rw [List.append_assoc, List.getElem?_append_right (by simp; omega), List.getElem?_append_left (by simp; omega)]
          rw [bt_append_right (by omega), List.getElem?_map]
          have e : o + j - (List.take (o + n) row.toList).length = j - l.length := by simp; omega
          rw [e, bt_get (by omega)]
          rfl
    · have holds : ∀ j u, (cs l)[j]? = some u → w.cell? ((⟨g, o, none⟩ : Addr).add j) = some u := by
        intro j u hu
        obtain ⟨hj, rfl⟩ := cs_at hu
        rw [Addr.add_lit, cell_of_row w g (o + j) row _ (0, 0) hg]
        exact hrow j (by omega)
      have hr := Go.Lib.run_append_grow_string (P := Tryz.prog) w 54 9 ty 5 i0 (.int .u8 0) Tryz.underlying54 Tryz.underlying9 hi hz0 ⟨g, o, none⟩ n cap (cs l) (by rw [hz1]; simpa using hlen) holds s (by omega) (by omega) (by rw [hz2]; exact growslice_fits (by omega) (by omega))
      have hge := grownCap_ge w (n + s.size) cap 5
      have hcm : grownCap w (n + s.size) cap 5 ≤ maxLen := grownCap_le_maxLen w (n + s.size) cap 5 (by omega)
      refine ⟨_, _, _, hr, ?_, ⟨rfl, rfl, rfl, by simp, fun k hk _ => heap_alloc_old w.drew _ hk⟩, fun g hg => .inr (by simp [blk] at hg; omega), .inr (fun g hg => by simp [blk] at hg; omega), fun g2 o2 j e hj => by
        cases e
        exact World.cell?_of_block (w := w) (heap_alloc_old w.drew _ (Array.getElem?_eq_some_iff.1 hg).1)⟩
      refine ⟨by simp; omega, hge, hcm, hlt, by simp, fun a ha => ?_⟩
      cases ha
      refine ⟨w.heap.size, 0, _, rfl, hB, heap_alloc_new w.drew _, ?_, fun j hj => ?_⟩
      · have hz1 : (Value.int IntKind.u8 0).cells.size = 1 := rfl
        simp only [Array.size_append, List.size_toArray, size_zeroCells, hz1, Go.Lib.strCells_length, cs, List.length_map, hlen]
        omega
      · rw [strCells_bs, Nat.zero_add, Array.getElem?_append_left (by simp; omega)]
        have e : (cs l).toArray ++ (cs (bs s)).toArray = (cs (l ++ bs s)).toArray := by simp [cs]
        rw [e, List.getElem?_toArray, cs, List.getElem?_map, bt_get (by simp; omega)]
        rfl
end

/-- the law at an append of a text's bytes -/
theorem wpList_apps {w : World} {ops : Array Oper} {rest : List Oper} {o : Oper} {a : Act} {Q : Exit → Act → World → Prop} (hgd : o.guard = none) (s x : Operand)
    (ho : o.op = .call { callee := .builtin .append, args := #[s, x], argTypes := #[54, 9] })
    {B : Nat} {ao : Option Addr} {n cap : Nat} {l : List Nat} (hs : a.eval s = .slice ao n cap) (hown : Own w B ao n cap l)
    {t : ByteArray} (hx : a.eval x = .string t) (hB : B ≤ w.heap.size) (hbig : n + t.size ≤ 140737488355328)
    (h : ∀ ao' cap' w', Own w' B ao' (n + t.size) cap' (l ++ bs t) → Keep (blk ao) w w' → (∀ g ∈ blk ao', g ∈ blk ao ∨ w.heap.size ≤ g) → wpList Tryz.prog ops Q rest (a.put o.dst (.slice ao' (n + t.size) cap')) w') : wpList Tryz.prog ops Q (o :: rest) a w := by
  obtain ⟨ao', cap', w', hr, h2, h3, h4, _⟩ := hown.run_apps t hB hbig o.type
  refine wpList_plain hgd fun K hK => ?_
  unfold Oper.wp execOp
  simp only [ho, resolve, invoke, builtin, Sem.run_bind, Sem.run_pure, Result.andThen_ok, List.map_toArray, List.map_cons, List.map_nil, hs, hx, hr]
  exact hK _ _ (h ao' cap' w' h2 h3 h4)
end Go.Proofs.YtngcbpgafjnfaaaGreatDoor


namespace Go.Proofs.YtngcbpgafjnfaaaGreatDoor
set_option linter.unusedVariables false

structure Ent where (key val : ByteArray) deriving DecidableEq
structure Itm where (bucket : Int) (ver : Nat) (write : Bool) (data : List Ent) (incs : List Nat) deriving DecidableEq
structure Txn where (id : Nat) (client : Int) (mans : List Int) (items : List Itm) deriving DecidableEq
structure Lck where (tx : Nat) (mans : List Int) (item : Itm) deriving DecidableEq
structure Vtd where (tx : Nat) (vote : Int) deriving DecidableEq
structure Cpy where (state : Int) (inc ver : Nat) (data : List Ent) (locks : List Lck) (fences : List Nat) (votes : List Vtd) deriving DecidableEq
structure Bal where (round node : Nat) deriving DecidableEq
structure Ins where (tx : Nat) (bucket replica : Int) (index : Nat) deriving DecidableEq
structure Acc where (is : Bool) (b : Bal) (value : ByteArray) deriving DecidableEq
structure Ans where (round inc ver : Nat) (data : List Ent) deriving DecidableEq
structure Ps where (hi lo : Nat) deriving DecidableEq
structure Per where (node : Int) (pos : Ps) deriving DecidableEq
structure Rc where (size0 size : Int) deriving DecidableEq
structure Dcr where (kind node by_ : Int) (arc : Rc) (count seen : Nat) deriving DecidableEq

abbrev four_ := num' 4 4294967295
abbrev eight := num' 8 18446744073709551615
abbrev node := whole 1 255
abbrev bucketC := whole 1 63
abbrev replC := whole 1 3
abbrev voteC := whole 1 2
theorem four_good : Good four_ := num_good 4 _ (by decide)
theorem eight_good : Good eight := num_good 8 _ (by decide)
theorem node_good : Good node := whole_good (by decide)
theorem bucket_good : Good bucketC := whole_good (by decide)
theorem repl_good : Good replC := whole_good (by decide)
theorem vote_good : Good voteC := whole_good (by decide)

def entC : Cod Ent := ((text 32).two (text 64)).map (fun x => ⟨x.1, x.2⟩) (fun e => (e.key, e.val)) fun _ => true
theorem ent_good : Good entC := ((text_good (by decide)).two (text_good (by decide))).map (fun _ _ _ => rfl) fun _ _ => ⟨rfl, rfl⟩
def entsC : Cod (List Ent) := list 8 entC
theorem ents_good : Good entsC := list_good (by decide) ent_good
/-- the data of an item that is written; else there are none -/
def dataC (b : Bool) : Cod (List Ent) := if b then entsC else skip [] (·.isEmpty)
theorem data_good (b : Bool) : Good (dataC b) := by
  cases b
  · exact skip_good fun a => by simp
  · exact ents_good
def itmC : Cod Itm := ((bucketC.two (four_.two (flag.dep fun b => (rep four_ 4).two (dataC b))))).map (fun x => ⟨x.1, x.2.1, x.2.2.1, x.2.2.2.2, x.2.2.2.1⟩) (fun i => (i.bucket, i.ver, i.write, i.incs, i.data)) fun _ => true
theorem itm_good : Good itmC := (bucket_good.two (four_good.two (flag_good.dep fun b => (rep_good four_good 4).two (data_good b)))).map (fun _ _ _ => rfl) fun _ _ => ⟨rfl, rfl⟩
def mansC : Cod (List Int) := rep node 3
theorem mans_good : Good mansC := rep_good node_good 3
def txC : Cod Txn := (eight.two ((whole 4 2147483647).two (mansC.two (list 8 itmC)))).map (fun x => ⟨x.1, x.2.1, x.2.2.1, x.2.2.2⟩) (fun t => (t.id, t.client, t.mans, t.items)) fun _ => true
theorem tx_good : Good txC := (eight_good.two ((whole_good (by decide)).two (mans_good.two (list_good (by decide) itm_good)))).map (fun _ _ _ => rfl) fun _ _ => ⟨rfl, rfl⟩
def lckC : Cod Lck := (eight.two (mansC.two itmC)).map (fun x => ⟨x.1, x.2.1, x.2.2⟩) (fun t => (t.tx, t.mans, t.item)) fun _ => true
theorem lck_good : Good lckC := (eight_good.two (mans_good.two itm_good)).map (fun _ _ _ => rfl) fun _ _ => ⟨rfl, rfl⟩
def vtdC : Cod Vtd := (eight.two voteC).map (fun x => ⟨x.1, x.2⟩) (fun t => (t.tx, t.vote)) fun _ => true
theorem vtd_good : Good vtdC := (eight_good.two vote_good).map (fun _ _ _ => rfl) fun _ _ => ⟨rfl, rfl⟩
def cpyC : Cod Cpy := (voteC.two (four_.two (four_.two (entsC.two ((list 64 lckC).two ((rep four_ 4).two (list 64 vtdC))))))).map (fun x => ⟨x.1, x.2.1, x.2.2.1, x.2.2.2.1, x.2.2.2.2.1, x.2.2.2.2.2.1, x.2.2.2.2.2.2⟩) (fun t => (t.state, t.inc, t.ver, t.data, t.locks, t.fences, t.votes)) fun _ => true
theorem cpy_good : Good cpyC := (vote_good.two (four_good.two (four_good.two (ents_good.two ((list_good (by decide) lck_good).two ((rep_good four_good 4).two (list_good (by decide) vtd_good))))))).map (fun _ _ _ => rfl) fun _ _ => ⟨rfl, rfl⟩
def balC : Cod Bal := (four_.two (num' 1 255)).map (fun x => ⟨x.1, x.2⟩) (fun t => (t.round, t.node)) fun _ => true
theorem bal_good : Good balC := (four_good.two (num_good 1 255 (by decide))).map (fun _ _ _ => rfl) fun _ _ => ⟨rfl, rfl⟩
def insC : Cod Ins := (eight.two (bucketC.two (replC.two four_))).map (fun x => ⟨x.1, x.2.1, x.2.2.1, x.2.2.2⟩) (fun t => (t.tx, t.bucket, t.replica, t.index)) fun _ => true
theorem ins_good : Good insC := (eight_good.two (bucket_good.two (repl_good.two four_good))).map (fun _ _ _ => rfl) fun _ _ => ⟨rfl, rfl⟩
/-- what was accepted, if it is; else zero -/
def heldC (b : Bool) : Cod (Bal × ByteArray) := if b then balC.two (text 64) else skip (⟨0, 0⟩, ByteArray.empty) fun x => decide (x = (⟨0, 0⟩, ByteArray.empty))
theorem held_good (b : Bool) : Good (heldC b) := by
  cases b
  · exact skip_good fun a => by simp
  · exact bal_good.two (text_good (by decide))
def accC : Cod Acc := (flag.dep heldC).map (fun x => ⟨x.1, x.2.1, x.2.2⟩) (fun t => (t.is, t.b, t.value)) fun _ => true
theorem acc_good : Good accC := (flag_good.dep held_good).map (fun _ _ _ => rfl) fun _ _ => ⟨rfl, rfl⟩
def ansC : Cod Ans := (four_.two (four_.two (four_.two entsC))).map (fun x => ⟨x.1, x.2.1, x.2.2.1, x.2.2.2⟩) (fun t => (t.round, t.inc, t.ver, t.data)) fun _ => true
theorem ans_good : Good ansC := (four_good.two (four_good.two (four_good.two ents_good))).map (fun _ _ _ => rfl) fun _ _ => ⟨rfl, rfl⟩
def posC : Cod Ps := (eight.two eight).map (fun x => ⟨x.1, x.2⟩) (fun t => (t.hi, t.lo)) fun _ => true
theorem pos_good : Good posC := (eight_good.two eight_good).map (fun _ _ _ => rfl) fun _ _ => ⟨rfl, rfl⟩
def perC : Cod Per := (node.two posC).map (fun x => ⟨x.1, x.2⟩) (fun t => (t.node, t.pos)) fun _ => true
theorem per_good : Good perC := (node_good.two pos_good).map (fun _ _ _ => rfl) fun _ _ => ⟨rfl, rfl⟩
def arcC : Cod Rc := (bucketC.two (whole 1 64)).map (fun x => ⟨x.1, x.2⟩) (fun t => (t.size0, t.size)) fun _ => true
theorem arc_good : Good arcC := (bucket_good.two (whole_good (by decide))).map (fun _ _ _ => rfl) fun _ _ => ⟨rfl, rfl⟩
def dcrC : Cod Dcr := ((whole 1 5).two (node.two (node.two (arcC.two (four_.two four_))))).map (fun x => ⟨x.1, x.2.1, x.2.2.1, x.2.2.2.1, x.2.2.2.2.1, x.2.2.2.2.2⟩) (fun t => (t.kind, t.node, t.by_, t.arc, t.count, t.seen)) fun _ => true
theorem dcr_good : Good dcrC := ((whole_good (by decide)).two (node_good.two (node_good.two (arc_good.two (four_good.two four_good))))).map (fun _ _ _ => rfl) fun _ _ => ⟨rfl, rfl⟩

end Go.Proofs.YtngcbpgafjnfaaaGreatDoor
