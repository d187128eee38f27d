/- Layer 4, plain: messages, their fields, bodies and frames. No program in sight. A message in memory; the functions of its fields (gen_msg.py). -/
import Derived.Test.YtngcbpgafjnfaaaGreatDoorLoB3
import Derived.Test.YtngcbpgafjnfaaaGreatDoorLoB15
import Derived.Test.YtngcbpgafjnfaaaGreatDoorLoB10
import Derived.Test.YtngcbpgafjnfaaaGreatDoorLoB12
set_option linter.unusedSimpArgs false
set_option linter.unusedVariables false

namespace Go.Proofs.YtngcbpgafjnfaaaGreatDoor
set_option linter.unusedVariables false

/-- a message -/
structure Ms where
  kind : Int
  fr : Int
  to : Int
  inst : Ins
  ballot : Bal
  accepted : Acc
  value : ByteArray
  tx : Txn
  id : Nat
  index : Nat
  round : Nat
  bucket : Int
  replica : Int
  of : Int
  inc : Nat
  vote : Int
  answer : Ans
  copy : Cpy
  arc : Rc
  copies : List Cpy
  pos : Ps
  hops : Int
  peers : List Per

def Cpy.zero : Cpy := ⟨0, 0, 0, [], [], [0, 0, 0, 0], []⟩
def Ms.zero (k : Int) : Ms := ⟨k, 0, 0, ⟨0, 0, 0, 0⟩, ⟨0, 0⟩, ⟨false, ⟨0, 0⟩, ByteArray.empty⟩, ByteArray.empty, ⟨0, 0, [0, 0, 0], []⟩, 0, 0, 0, 0, 0, 0, 0, 0, ⟨0, 0, 0, []⟩, Cpy.zero, ⟨0, 0⟩, [], ⟨0, 0⟩, 0, []⟩

/-- a field: how it is written, where it stands -/
structure Fd where
  α : Type
  cod : Cod α
  good : Good cod
  get : Ms → α
  set : Ms → α → Ms

def fd : Nat → Fd
  | 0 => ⟨Int, node, node_good, fun m => m.fr, fun m a => { m with fr := a }⟩
  | 1 => ⟨Int, node, node_good, fun m => m.to, fun m a => { m with to := a }⟩
  | 2 => ⟨Ins, insC, ins_good, fun m => m.inst, fun m a => { m with inst := a }⟩
  | 3 => ⟨Bal, balC, bal_good, fun m => m.ballot, fun m a => { m with ballot := a }⟩
  | 4 => ⟨Acc, accC, acc_good, fun m => m.accepted, fun m a => { m with accepted := a }⟩
  | 5 => ⟨ByteArray, text 64, (text_good (by decide)), fun m => m.value, fun m a => { m with value := a }⟩
  | 6 => ⟨Txn, txC, tx_good, fun m => m.tx, fun m a => { m with tx := a }⟩
  | 7 => ⟨Nat, eight, eight_good, fun m => m.id, fun m a => { m with id := a }⟩
  | 8 => ⟨Nat, four_, four_good, fun m => m.index, fun m a => { m with index := a }⟩
  | 9 => ⟨Nat, four_, four_good, fun m => m.round, fun m a => { m with round := a }⟩
  | 10 => ⟨Int, bucketC, bucket_good, fun m => m.bucket, fun m a => { m with bucket := a }⟩
  | 11 => ⟨Int, replC, repl_good, fun m => m.replica, fun m a => { m with replica := a }⟩
  | 12 => ⟨Int, replC, repl_good, fun m => m.of, fun m a => { m with of := a }⟩
  | 13 => ⟨Nat, four_, four_good, fun m => m.inc, fun m a => { m with inc := a }⟩
  | 14 => ⟨Int, voteC, vote_good, fun m => m.vote, fun m a => { m with vote := a }⟩
  | 15 => ⟨Ans, ansC, ans_good, fun m => m.answer, fun m a => { m with answer := a }⟩
  | 16 => ⟨Cpy, cpyC, cpy_good, fun m => m.copy, fun m a => { m with copy := a }⟩
  | 17 => ⟨Rc, arcC, arc_good, fun m => m.arc, fun m a => { m with arc := a }⟩
  | 18 => ⟨List Cpy, list 64 cpyC, (list_good (by decide) cpy_good), fun m => m.copies, fun m a => { m with copies := a }⟩
  | 19 => ⟨Ps, posC, pos_good, fun m => m.pos, fun m a => { m with pos := a }⟩
  | 20 => ⟨Int, node, node_good, fun m => m.hops, fun m a => { m with hops := a }⟩
  | _ => ⟨List Per, list 12 perC, (list_good (by decide) per_good), fun m => m.peers, fun m a => { m with peers := a }⟩

def names : List String := ["from", "to", "inst", "ballot", "accepted", "value", "tx", "id", "index", "round", "bucket", "replica", "of", "inc", "vote", "answer", "copy", "arc", "copies", "pos", "hops", "peers"]
/-- the fields of a kind behind from and to -/
def uses : Nat → List Nat
  | 0 => []
  | 1 => [2, 3]
  | 2 => [2, 3, 4]
  | 3 => [2, 3]
  | 4 => [2, 3, 5, 6]
  | 5 => [2, 3, 5, 6]
  | 6 => [8, 5]
  | 7 => [10, 11, 9]
  | 8 => [10, 11, 15]
  | 9 => [6, 10, 11]
  | 10 => [6, 14]
  | 11 => [7]
  | 12 => [10, 11, 12, 13]
  | 13 => [10, 11, 12, 13, 16]
  | 14 => [9, 17, 18]
  | 15 => [9, 17]
  | 16 => []
  | 17 => []
  | 18 => [21]
  | 19 => [21]
  | 20 => [21]
  | 21 => [19, 7, 20]
  | 22 => [19, 7, 20, 21]
  | 23 => [8]
  | _ => []

theorem fd_cases {i : Nat} (h : i < 22) : i = 0 ∨ i = 1 ∨ i = 2 ∨ i = 3 ∨ i = 4 ∨ i = 5 ∨ i = 6 ∨ i = 7 ∨ i = 8 ∨ i = 9 ∨ i = 10 ∨ i = 11 ∨ i = 12 ∨ i = 13 ∨ i = 14 ∨ i = 15 ∨ i = 16 ∨ i = 17 ∨ i = 18 ∨ i = 19 ∨ i = 20 ∨ i = 21 := by omega
theorem get_set (i : Nat) (h : i < 22) (m : Ms) (a : (fd i).α) : (fd i).get ((fd i).set m a) = a := by
  rcases fd_cases h with rfl | rfl | rfl | rfl | rfl | rfl | rfl | rfl | rfl | rfl | rfl | rfl | rfl | rfl | rfl | rfl | rfl | rfl | rfl | rfl | rfl | rfl <;> rfl
theorem kind_set (i : Nat) (h : i < 22) (m : Ms) (a : (fd i).α) : ((fd i).set m a).kind = m.kind := by
  rcases fd_cases h with rfl | rfl | rfl | rfl | rfl | rfl | rfl | rfl | rfl | rfl | rfl | rfl | rfl | rfl | rfl | rfl | rfl | rfl | rfl | rfl | rfl | rfl <;> rfl
theorem get_other (i j : Nat) (hi : i < 22) (hj : j < 22) (h : i ≠ j) (m : Ms) (a : (fd j).α) : (fd i).get ((fd j).set m a) = (fd i).get m := by
  rcases fd_cases hi with rfl | rfl | rfl | rfl | rfl | rfl | rfl | rfl | rfl | rfl | rfl | rfl | rfl | rfl | rfl | rfl | rfl | rfl | rfl | rfl | rfl | rfl <;> rcases fd_cases hj with rfl | rfl | rfl | rfl | rfl | rfl | rfl | rfl | rfl | rfl | rfl | rfl | rfl | rfl | rfl | rfl | rfl | rfl | rfl | rfl | rfl | rfl <;> first | exact absurd rfl h | rfl
theorem ms_ext {a b : Ms} (hk : a.kind = b.kind) (h : ∀ i, i < 22 → (fd i).get a = (fd i).get b) : a = b := by
  obtain ⟨a0, a1, a2, a3, a4, a5, a6, a7, a8, a9, a10, a11, a12, a13, a14, a15, a16, a17, a18, a19, a20, a21, a22⟩ := a
  obtain ⟨b0, b1, b2, b3, b4, b5, b6, b7, b8, b9, b10, b11, b12, b13, b14, b15, b16, b17, b18, b19, b20, b21, b22⟩ := b
  obtain rfl : a0 = b0 := hk
  obtain rfl : a1 = b1 := h 0 (by omega)
  obtain rfl : a2 = b2 := h 1 (by omega)
  obtain rfl : a3 = b3 := h 2 (by omega)
  obtain rfl : a4 = b4 := h 3 (by omega)
  obtain rfl : a5 = b5 := h 4 (by omega)
  obtain rfl : a6 = b6 := h 5 (by omega)
  obtain rfl : a7 = b7 := h 6 (by omega)
  obtain rfl : a8 = b8 := h 7 (by omega)
  obtain rfl : a9 = b9 := h 8 (by omega)
  obtain rfl : a10 = b10 := h 9 (by omega)
  obtain rfl : a11 = b11 := h 10 (by omega)
  obtain rfl : a12 = b12 := h 11 (by omega)
  obtain rfl : a13 = b13 := h 12 (by omega)
  obtain rfl : a14 = b14 := h 13 (by omega)
  obtain rfl : a15 = b15 := h 14 (by omega)
  obtain rfl : a16 = b16 := h 15 (by omega)
  obtain rfl : a17 = b17 := h 16 (by omega)
  obtain rfl : a18 = b18 := h 17 (by omega)
  obtain rfl : a19 = b19 := h 18 (by omega)
  obtain rfl : a20 = b20 := h 19 (by omega)
  obtain rfl : a21 = b21 := h 20 (by omega)
  obtain rfl : a22 = b22 := h 21 (by omega)
  rfl

theorem uses_lt (k : Nat) : ∀ i ∈ uses k, 2 ≤ i ∧ i < 22 := by
  by_cases h : k < 24
  · have : ∀ k, k < 24 → ∀ i ∈ uses k, 2 ≤ i ∧ i < 22 := by decide
    exact this k h
  · have e : uses k = [] := by
      unfold uses
      split <;> first | rfl | omega
    rw [e]; intro i hi; cases hi
theorem uses_nodup (k : Nat) : (0 :: 1 :: uses k).Nodup := by
  by_cases h : k < 24
  · have : ∀ k, k < 24 → (0 :: 1 :: uses k).Nodup := by decide
    exact this k h
  · have e : uses k = [] := by
      unfold uses
      split <;> first | rfl | omega
    rw [e]; decide
/-- all fields of a kind -/
def all_ (k : Nat) : List Nat := 0 :: 1 :: uses k
theorem all_lt {k i : Nat} (h : i ∈ all_ k) : i < 22 := by
  simp only [all_, List.mem_cons] at h
  rcases h with rfl | rfl | h
  · omega
  · omega
  · exact (uses_lt k i h).2

def fok (i : Nat) (m : Ms) : Bool := (fd i).cod.ok ((fd i).get m)
def fenc (i : Nat) (m : Ms) : List Nat := (fd i).cod.enc ((fd i).get m)
theorem fok_zero (i : Nat) (k : Int) : fok i (Ms.zero k) = true := by
  have h0 : ∀ i, i < 22 → fok i (Ms.zero k) = true := by
    intro i h
    rcases fd_cases h with rfl | rfl | rfl | rfl | rfl | rfl | rfl | rfl | rfl | rfl | rfl | rfl | rfl | rfl | rfl | rfl | rfl | rfl | rfl | rfl | rfl | rfl <;> (refine Eq.trans (b := fok _ (Ms.zero 0)) rfl ?_; decide)
  by_cases h : i < 22
  · exact h0 i h
  · have e : fd i = fd 21 := by
      unfold fd
      split <;> first | rfl | omega
    have h1 := h0 21 (by omega)
    unfold fok at h1 ⊢
    rw [e]
    exact h1

/-- the fields are read, one behind the other; or the first that is not -/
def readAll : List Nat → Ms → List Nat → Except Nat (Ms × List Nat)
  | [], m, l => .ok (m, l)
  | i :: is, m, l => match (fd i).cod.dec l with
    | none => .error i
    | some (a, r) => readAll is ((fd i).set m a) r

theorem readAll_to (m : Ms) (r : List Nat) : ∀ (is : List Nat) (m0 : Ms), (∀ i ∈ is, i < 22 ∧ fok i m = true) →
    ∃ m', readAll is m0 (is.flatMap (fenc · m) ++ r) = .ok (m', r) ∧ m'.kind = m0.kind ∧ ∀ i, i < 22 → (i ∈ is → (fd i).get m' = (fd i).get m) ∧ (i ∉ is → (fd i).get m' = (fd i).get m0)
  | [], m0, _ => ⟨m0, rfl, rfl, fun i _ => ⟨fun h => by (cases h), fun _ => rfl⟩⟩
  | j :: is, m0, h => by
    obtain ⟨hj, hok⟩ := h j (by simp)
    obtain ⟨m', e, hk, hg⟩ := readAll_to m r is ((fd j).set m0 ((fd j).get m)) (fun i hi => h i (by simp [hi]))
    refine ⟨m', ?_, hk.trans (kind_set j hj _ _), fun i hi => ⟨fun hm => ?_, fun hm => ?_⟩⟩
    · have := (fd j).good.to _ (is.flatMap (fenc · m) ++ r) hok
      simp only [List.flatMap_cons, List.append_assoc, readAll]
      rw [show fenc j m = (fd j).cod.enc ((fd j).get m) from rfl, this]
      exact e
    · by_cases hmi : i ∈ is
      · exact (hg i hi).1 hmi
      · have : i = j := by simpa [hmi] using hm
        subst this
        rw [(hg i hi).2 hmi, get_set i hi]
    · simp only [List.mem_cons, not_or] at hm
      rw [(hg i hi).2 hm.2, get_other i j hi hj hm.1]

theorem readAll_of (r : List Nat) (m' : Ms) : ∀ (is : List Nat) (m0 : Ms) (l : List Nat), is.Nodup → (∀ i ∈ is, i < 22) → Bytes l → readAll is m0 l = .ok (m', r) →
    (∀ i ∈ is, fok i m' = true) ∧ l = is.flatMap (fenc · m') ++ r ∧ m'.kind = m0.kind ∧ ∀ i, i < 22 → i ∉ is → (fd i).get m' = (fd i).get m0
  | [], m0, l, _, _, _, he => by
    simp only [readAll, Except.ok.injEq, Prod.mk.injEq] at he
    obtain ⟨e1, e2⟩ := he
    subst e1 e2
    exact ⟨fun i hi => by (cases hi), rfl, rfl, fun _ _ _ => rfl⟩
  | j :: is, m0, l, hn, hlt, hl, he => by
    simp only [readAll] at he
    split at he
    · cases he
    · rename_i a r1 e1
      obtain ⟨k1, k2⟩ := (fd j).good.of _ _ _ hl e1
      have hr : Bytes r1 := by rw [k2] at hl; exact hl.right
      have hj := hlt j (by simp)
      rw [List.nodup_cons] at hn
      obtain ⟨h1, h2, h3, h4⟩ := readAll_of r m' is _ r1 hn.2 (fun i hi => hlt i (by simp [hi])) hr he
      have hg : (fd j).get m' = a := by rw [h4 j hj hn.1, get_set j hj]
      refine ⟨fun i hi => ?_, ?_, h3.trans (kind_set j hj _ _), fun i hi hni => ?_⟩
      · rcases List.mem_cons.1 hi with rfl | hi
        · unfold fok; rw [hg]; exact k1
        · exact h1 i hi
      · rw [List.flatMap_cons, List.append_assoc, ← h2, fenc, hg]
        exact k2
      · simp only [List.mem_cons, not_or] at hni
        rw [h4 i hi hni.2, get_other i j hi hj hni.1]

/-- a field that may not be, or is not zero though it is not used -/
def badField (k : Nat) (m : Ms) (i : Nat) : Bool := !fok i m || !decide (i ∈ all_ k) && !decide (fenc i m = fenc i (Ms.zero 0))
def firstBad (k : Nat) (m : Ms) : Option Nat := (List.range 22).find? (badField k m)
def bodyOf (m : Ms) : List Nat := m.kind.toNat :: (all_ m.kind.toNat).flatMap (fenc · m)
def nameOf (i : Nat) : String := names.getD i ""
/-- the frame of a message; or the error and of what -/
def encode (m : Ms) : Except (Nat × String) (List Nat) :=
  if m.kind < 1 ∨ 23 < m.kind then .error (41, "kind") else
  match firstBad m.kind.toNat m with
  | some i => .error (42, nameOf i)
  | none => if 65536 < (bodyOf m).length then .error (43, "body") else .ok (frameOf (bodyOf m))
def decBody (b : List Nat) : Except (Nat × String) Ms :=
  match b with
  | [] => .error (44, "body")
  | k :: l => if k < 1 ∨ 23 < k then .error (41, "kind") else
    match readAll (all_ k) (Ms.zero k) l with
    | .error i => .error (44, nameOf i)
    | .ok (m, r) => if r = [] then .ok m else .error (44, "body")
def decode (f : List Nat) : Except (Nat × String) Ms := if (unw f).2 = 0 then decBody (unw f).1 else .error ((unw f).2, "frame")

theorem zero_get (i : Nat) (h : i < 22) (k k' : Int) : (fd i).get (Ms.zero k) = (fd i).get (Ms.zero k') := by
  rcases fd_cases h with rfl | rfl | rfl | rfl | rfl | rfl | rfl | rfl | rfl | rfl | rfl | rfl | rfl | rfl | rfl | rfl | rfl | rfl | rfl | rfl | rfl | rfl <;> rfl
theorem fine_of {k : Nat} {m : Ms} (h : firstBad k m = none) : ∀ i, i < 22 → fok i m = true ∧ (i ∉ all_ k → (fd i).get m = (fd i).get (Ms.zero k)) := by
  intro i hi
  have h1 := List.find?_eq_none.1 h i (List.mem_range.2 hi)
  simp only [badField, Bool.or_eq_true, Bool.and_eq_true, Bool.not_eq_true', decide_eq_false_iff_not, not_or, not_and, Decidable.not_not, Bool.not_eq_false] at h1
  refine ⟨h1.1, fun hn => ?_⟩
  rw [zero_get i hi k 0]
  exact (fd i).good.inj h1.1 (fok_zero i 0) (h1.2 hn)
theorem of_fine {k : Nat} {m : Ms} (h : ∀ i, i < 22 → fok i m = true ∧ (i ∉ all_ k → (fd i).get m = (fd i).get (Ms.zero k))) : firstBad k m = none := by
  refine List.find?_eq_none.2 fun i hi => ?_
  obtain ⟨h1, h2⟩ := h i (List.mem_range.1 hi)
  simp only [badField, Bool.or_eq_true, Bool.and_eq_true, Bool.not_eq_true', decide_eq_false_iff_not, not_or, not_and, Decidable.not_not, Bool.not_eq_false]
  refine ⟨h1, fun hn => ?_⟩
  unfold fenc
  rw [h2 hn, zero_get i (List.mem_range.1 hi) k 0]

theorem body_bytes {m : Ms} (hk : 0 ≤ m.kind ∧ m.kind ≤ 23) (h : ∀ i, i < 22 → fok i m = true) : Bytes (bodyOf m) := by
  intro c hc
  simp only [bodyOf, List.mem_cons, List.mem_flatMap] at hc
  rcases hc with rfl | ⟨i, hi, hc⟩
  · omega
  · exact (fd i).good.byte _ (h i (all_lt hi)) c hc

/-- what is encoded is decoded as the same message -/
theorem decBody_encode {m : Ms} (hk : 1 ≤ m.kind ∧ m.kind ≤ 23) (h : firstBad m.kind.toNat m = none) : decBody (bodyOf m) = .ok m := by
  have hf := fine_of h
  obtain ⟨m', e, h1, h2⟩ := readAll_to m [] (all_ m.kind.toNat) (Ms.zero (m.kind.toNat : Nat)) (fun i hi => ⟨all_lt hi, (hf i (all_lt hi)).1⟩)
  have hm : m' = m := ms_ext (by rw [h1]; show ((m.kind.toNat : Nat) : Int) = m.kind; omega) fun i hi => by
    by_cases hu : i ∈ all_ m.kind.toNat
    · exact (h2 i hi).1 hu
    · rw [(h2 i hi).2 hu, (hf i hi).2 hu]
  subst hm
  rw [List.append_nil] at e
  have hn : ¬ (m'.kind.toNat < 1 ∨ 23 < m'.kind.toNat) := by omega
  simp only [decBody, bodyOf, if_neg hn, e, if_true]
/-- what is decoded is encoded as the same bytes -/
theorem encode_decBody {b : List Nat} {m : Ms} (hb : Bytes b) (h : decBody b = .ok m) : 1 ≤ m.kind ∧ m.kind ≤ 23 ∧ firstBad m.kind.toNat m = none ∧ bodyOf m = b := by
  cases b with
  | nil => simp [decBody] at h
  | cons k l =>
    simp only [decBody] at h
    split at h
    · cases h
    · rename_i hk
      split at h
      · cases h
      · rename_i m1 r e
        split at h
        · rename_i hr
          subst hr
          injection h with h
          subst h
          obtain ⟨h1, h2, h3, h4⟩ := readAll_of [] m1 (all_ k) _ l (uses_nodup k) (fun i hi => all_lt hi) (fun c hc => hb c (by simp [hc])) e
          have hkk : m1.kind = (k : Int) := h3
          have hkn : m1.kind.toNat = k := by omega
          refine ⟨by omega, by omega, ?_, ?_⟩
          · rw [hkn]
            refine of_fine fun i hi => ⟨?_, fun hn => h4 i hi hn⟩
            by_cases hu : i ∈ all_ k
            · exact h1 i hu
            · unfold fok
              rw [h4 i hi hu]
              exact fok_zero i k
          · unfold bodyOf
            rw [hkn, h2, List.append_nil]
        · cases h

theorem encode_ok {m : Ms} {f : List Nat} (h : encode m = .ok f) : (1 ≤ m.kind ∧ m.kind ≤ 23) ∧ firstBad m.kind.toNat m = none ∧ (bodyOf m).length ≤ 65536 ∧ f = frameOf (bodyOf m) ∧ Bytes (bodyOf m) := by
  simp only [encode] at h
  split at h
  · cases h
  · rename_i hk
    split at h
    · cases h
    · rename_i hb
      split at h
      · cases h
      · rename_i hl
        injection h with h
        exact ⟨by omega, hb, by omega, h.symm, body_bytes (by omega) fun i hi => (fine_of hb i hi).1⟩
theorem decode_frame {b : List Nat} (h : b.length ≤ 65536) : decode (frameOf b) = decBody b := by
  unfold decode
  rw [unw_frame b h]
  rfl
theorem decode_encode {m : Ms} {f : List Nat} (h : encode m = .ok f) : decode f = .ok m := by
  obtain ⟨hk, hb, hl, rfl, _⟩ := encode_ok h
  rw [decode_frame hl, decBody_encode hk hb]
theorem encode_decode {b : List Nat} {m : Ms} (hl : b.length ≤ 65536) (hb : Bytes b) (h : decode (frameOf b) = .ok m) : encode m = .ok (frameOf b) := by
  rw [decode_frame hl] at h
  obtain ⟨h1, h2, h3, h4⟩ := encode_decBody hb h
  simp only [encode, h3, h4]
  rw [if_neg (by omega), if_neg (by omega)]

/-- the value of a decree, there and back -/
def ofDcr (s : ByteArray) : Option Dcr := match dcrC.dec (bs s) with
  | some (d, []) => some d
  | _ => none
theorem ofDcr_to {d : Dcr} (h : dcrC.ok d = true) : ofDcr (ofBs (dcrC.enc d)) = some d := by
  unfold ofDcr
  have h1 := dcr_good.to d [] h
  rw [List.append_nil] at h1
  rw [bs_ofBs (dcr_good.byte d h), h1]
theorem ofDcr_of {d : Dcr} {s : ByteArray} (h : ofDcr s = some d) : dcrC.ok d = true ∧ ofBs (dcrC.enc d) = s := by
  unfold ofDcr at h
  split at h
  · rename_i d' e
    injection h with h
    subst h
    obtain ⟨h1, h2⟩ := dcr_good.of _ _ _ (bs_bytes s) e
    rw [List.append_nil] at h2
    exact ⟨h1, by rw [← h2, ofBs_bs]⟩
  · cases h
end Go.Proofs.YtngcbpgafjnfaaaGreatDoor


namespace Go.Proofs.YtngcbpgafjnfaaaGreatDoor
open Go.RowKit Go.Sort
set_option linter.unusedVariables false

def kindK : Kd Int := intK 8 0
theorem kindK_fine : kindK.Fine := intK_fine 8 0
/-- the parts of a message, where they stand -/
def slotsOf (m : Ms) : List Slot := [kindK.slot 0 m.kind, (intK 1 255).slot 1 m.fr, (intK 1 255).slot 2 m.to, insK.slot 3 m.inst, balK.slot 7 m.ballot, accK.slot 9 m.accepted, (textK 64).slot 13 m.value, txK.slot 14 m.tx, (natK .u64 8 18446744073709551615).slot 20 m.id, (natK .u32 4 4294967295).slot 21 m.index, (natK .u32 4 4294967295).slot 22 m.round, (intK 1 63).slot 23 m.bucket, (intK 1 3).slot 24 m.replica, (intK 1 3).slot 25 m.of, (natK .u32 4 4294967295).slot 26 m.inc, (intK 1 2).slot 27 m.vote, ansK.slot 28 m.answer, cpyK.slot 32 m.copy, arcK.slot 42 m.arc, (listK cpyK 64).slot 44 m.copies, posK.slot 45 m.pos, (intK 1 255).slot 47 m.hops, (listK perK 12).slot 48 m.peers]
theorem slotsOf_fine (m : Ms) : AllFine (slotsOf m) := ⟨kindK_fine.slot _ _, (intK_okay (size := 1) (most := 255) (by decide) (by decide)).fine.slot _ _, (intK_okay (size := 1) (most := 255) (by decide) (by decide)).fine.slot _ _, insK_okay.fine.slot _ _, balK_okay.fine.slot _ _, accK_okay.fine.slot _ _, (textK_okay (max := 64) (by decide)).fine.slot _ _, txK_okay.fine.slot _ _, (natK_okay (kd := .u64) (size := 8) (most := 18446744073709551615) (by decide) (by decide)).fine.slot _ _, (natK_okay (kd := .u32) (size := 4) (most := 4294967295) (by decide) (by decide)).fine.slot _ _, (natK_okay (kd := .u32) (size := 4) (most := 4294967295) (by decide) (by decide)).fine.slot _ _, (intK_okay (size := 1) (most := 63) (by decide) (by decide)).fine.slot _ _, (intK_okay (size := 1) (most := 3) (by decide) (by decide)).fine.slot _ _, (intK_okay (size := 1) (most := 3) (by decide) (by decide)).fine.slot _ _, (natK_okay (kd := .u32) (size := 4) (most := 4294967295) (by decide) (by decide)).fine.slot _ _, (intK_okay (size := 1) (most := 2) (by decide) (by decide)).fine.slot _ _, ansK_okay.fine.slot _ _, cpyK_okay.fine.slot _ _, arcK_okay.fine.slot _ _, (listK_okay cpyK_okay (max := 64) (by decide)).fine.slot _ _, posK_okay.fine.slot _ _, (intK_okay (size := 1) (most := 255) (by decide) (by decide)).fine.slot _ _, (listK_okay perK_okay (max := 12) (by decide)).fine.slot _ _, trivial⟩
theorem Slots.app {w : World} {N : Nat → Prop} {g o : Nat} : ∀ {A B : List Slot}, Slots w N g o (A ++ B) ↔ Slots w N g o A ∧ Slots w N g o B
  | [], B => ⟨fun h => ⟨trivial, h⟩, fun h => h.2⟩
  | s :: A, B => ⟨fun h => ⟨⟨h.1, (Slots.app.1 h.2).1⟩, (Slots.app.1 h.2).2⟩, fun h => ⟨h.1.1, Slots.app.2 ⟨h.1.2, h.2⟩⟩⟩
theorem AllFine.app : ∀ {A B : List Slot}, AllFine (A ++ B) → AllFine A ∧ AllFine B
  | [], B, h => ⟨trivial, h⟩
  | s :: A, B, h => ⟨⟨h.1, (AllFine.app h.2).1⟩, (AllFine.app h.2).2⟩
theorem apart_of {off sz : Nat} : ∀ {L : List Slot}, (L.all fun s => Nat.ble (s.off + s.sz) off || Nat.ble (off + sz) s.off) = true → Apart off sz L
  | [], _ => trivial
  | s :: L, h => by
    simp only [List.all_cons, Bool.and_eq_true, Bool.or_eq_true] at h
    exact ⟨h.1.imp Nat.le_of_ble_eq_true Nat.le_of_ble_eq_true, apart_of h.2⟩
/-- midway through a message -/
def MidM (md : Bool) (P N : Nat → Prop) (gc : Nat) (sb : Src) (f : ByteArray) (l : List Nat) (g : Nat) (m : Ms) (w0 w : World) : Prop := Mid md P N gc sb f l g 0 49 [] (slotsOf m) w0 w
/-- what a field's function comes to -/
def FieldEnd {α : Type} (md : Bool) (P N : Nat → Prop) (gc : Nat) (sb : Src) (f : ByteArray) (g : Nat) (set : α → Ms) (w0 : World) (r : Option (List Nat × α)) (e : Ending) (w' : World) : Prop :=
  match r with
  | none => SafeK P g w0 w' ∧ Gave md f e w0 w'
  | some p => e = .returned (.tuple #[]) ∧ MidM md P N gc sb f p.1 g (set p.2) w0 w'
theorem FieldEnd.ended {α : Type} {md : Bool} {P N : Nat → Prop} {gc : Nat} {sb : Src} {f : ByteArray} {g : Nat} {set : α → Ms} {w0 w' : World} {r : Option (List Nat × α)} {e : Ending} (h : FieldEnd md P N gc sb f g set w0 r e w') :
    (∃ ch, e = .panicked ch ∧ FieldEnd md P N gc sb f g set w0 r e w') ∨ (e = .returned (.tuple #[]) ∧ FieldEnd md P N gc sb f g set w0 r e w') := by
  cases r with
  | none =>
    obtain ⟨hs, a, h1, h2, rfl, h3⟩ := h
    exact .inl ⟨_, rfl, hs, a, h1, h2, rfl, h3⟩
  | some p =>
    obtain ⟨rfl, h2⟩ := h
    exact .inr ⟨rfl, rfl, h2⟩
/-- one part of a message -/
theorem MidM.call {α : Type} {k : Kd α} (hk : k.Fine) {F mx : Nat} {xs : List Value} (hF : Codes F xs k mx) {md : Bool} {P N : Nat → Prop} {gc : Nat} {sb : Src} {f : ByteArray} {l : List Nat} {g : Nat} {m : Ms} {w0 w : World} {off : Nat} {a : α} {set : α → Ms} {A B : List Slot}
    (hs : slotsOf m = A ++ k.slot off a :: B) (hset : ∀ b, slotsOf (set b) = A ++ k.slot off b :: B) (M : MidM md P N gc sb f l g m w0 w) (hz : md = true → a = k.zero) (hN : ∀ b, N b → P b) (hw : md = false → P g) (hr : md = true → ¬ P g ∧ ∀ j, w0.frozen? ⟨g, j, none⟩ = false) (hg : g < w0.heap.size) (hne : g ≠ gc)
    (hl : l.length + mx ≤ 140737488355328) (hsz : off + k.sz ≤ 49) (ha : (A.all fun s => Nat.ble (s.off + s.sz) off || Nat.ble (off + k.sz) s.off) = true) (hb : (B.all fun s => Nat.ble (s.off + s.sz) off || Nat.ble (off + k.sz) s.off) = true) :
    Calls Tryz.prog F ([Value.pointer (some ⟨gc, 0, none⟩), .pointer (some ⟨g, off, none⟩)] ++ xs).toArray w (FieldEnd md P N gc sb f g set w0 (step k.cod md l a)) := by
  have hf := slotsOf_fine m
  unfold MidM at M
  rw [hs] at M hf
  obtain ⟨fa, fb⟩ := AllFine.app hf
  have ht := Slots.app.1 M.to
  have M2 : Mid md P N gc sb f l g 0 49 A (k.slot off a :: B) w0 w := ⟨M.cd, M.safe, ht.1, ht.2, M.out, M.fz⟩
  have h := M2.call hk hF hz hN hw hr hg hne hl hsz fa fb.2 (apart_of ha) (apart_of hb)
  rw [Nat.zero_add] at h
  refine h.mono ?_
  intro e w' he
  unfold MidEnd at he
  unfold FieldEnd
  cases hst : step k.cod md l a with
  | none => rw [hst] at he; exact he
  | some p =>
    rw [hst] at he
    obtain ⟨h1, h2⟩ := he
    refine ⟨h1, ?_⟩
    unfold MidM
    rw [hset]
    exact ⟨h2.cd, h2.safe, trivial, Slots.app.2 ⟨h2.dn.2, h2.dn.1, h2.to⟩, h2.out, h2.fz⟩

set_option maxHeartbeats 1000000 in
theorem field0 {md : Bool} {P N : Nat → Prop} {gc : Nat} {sb : Src} {f : ByteArray} {l : List Nat} {g : Nat} {m : Ms} {w0 w : World} (M : MidM md P N gc sb f l g m w0 w) (hz : md = true → m.fr = (Ms.zero 0).fr) (hN : ∀ b, N b → P b) (hw : md = false → P g) (hr : md = true → ¬ P g ∧ ∀ j, w0.frozen? ⟨g, j, none⟩ = false) (hg : g < w0.heap.size) (hne : g ≠ gc)
    (hl : l.length + 30000000 ≤ 140737488355328) : Calls Tryz.prog 96 #[.pointer (some ⟨gc, 0, none⟩), .pointer (some ⟨g, 0, none⟩)] w (FieldEnd md P N gc sb f g (fun a => { m with fr := a }) w0 (step (intK 1 255).cod md l m.fr)) := by
  have CALL := Lib.hid (MidM.call (set := fun a => { m with fr := a }) (A := [kindK.slot 0 m.kind]) (B := [(intK 1 255).slot 2 m.to, insK.slot 3 m.inst, balK.slot 7 m.ballot, accK.slot 9 m.accepted, (textK 64).slot 13 m.value, txK.slot 14 m.tx, (natK .u64 8 18446744073709551615).slot 20 m.id, (natK .u32 4 4294967295).slot 21 m.index, (natK .u32 4 4294967295).slot 22 m.round, (intK 1 63).slot 23 m.bucket, (intK 1 3).slot 24 m.replica, (intK 1 3).slot 25 m.of, (natK .u32 4 4294967295).slot 26 m.inc, (intK 1 2).slot 27 m.vote, ansK.slot 28 m.answer, cpyK.slot 32 m.copy, arcK.slot 42 m.arc, (listK cpyK 64).slot 44 m.copies, posK.slot 45 m.pos, (intK 1 255).slot 47 m.hops, (listK perK 12).slot 48 m.peers]) (off := 1) (intK_okay (size := 1) (most := 255) (by decide) (by decide)).fine octet_codes rfl (fun _ => rfl) M (fun h => hz h) hN hw hr hg hne (by omega) (Nat.le_of_ble_eq_true rfl) rfl rfl)
  clear M hz hN hw hr hg hne hl
  generalize step (intK 1 255).cod md l m.fr = r at *
  go_enter Tryz.func96, Tryz.ntmps96
  go_wp2_with fail
  refine CALL.out.mono ?_
  rintro e w' h
  rcases h.ended with ⟨ch, rfl, h⟩ | ⟨rfl, h⟩
  · exact ⟨rfl, h⟩
  · have HE := Lib.hid h
    clear h
    go_wp2_with fail
    go_end0
    exact HE.out

set_option maxHeartbeats 1000000 in
theorem field1 {md : Bool} {P N : Nat → Prop} {gc : Nat} {sb : Src} {f : ByteArray} {l : List Nat} {g : Nat} {m : Ms} {w0 w : World} (M : MidM md P N gc sb f l g m w0 w) (hz : md = true → m.to = (Ms.zero 0).to) (hN : ∀ b, N b → P b) (hw : md = false → P g) (hr : md = true → ¬ P g ∧ ∀ j, w0.frozen? ⟨g, j, none⟩ = false) (hg : g < w0.heap.size) (hne : g ≠ gc)
    (hl : l.length + 30000000 ≤ 140737488355328) : Calls Tryz.prog 97 #[.pointer (some ⟨gc, 0, none⟩), .pointer (some ⟨g, 0, none⟩)] w (FieldEnd md P N gc sb f g (fun a => { m with to := a }) w0 (step (intK 1 255).cod md l m.to)) := by
  have CALL := Lib.hid (MidM.call (set := fun a => { m with to := a }) (A := [kindK.slot 0 m.kind, (intK 1 255).slot 1 m.fr]) (B := [insK.slot 3 m.inst, balK.slot 7 m.ballot, accK.slot 9 m.accepted, (textK 64).slot 13 m.value, txK.slot 14 m.tx, (natK .u64 8 18446744073709551615).slot 20 m.id, (natK .u32 4 4294967295).slot 21 m.index, (natK .u32 4 4294967295).slot 22 m.round, (intK 1 63).slot 23 m.bucket, (intK 1 3).slot 24 m.replica, (intK 1 3).slot 25 m.of, (natK .u32 4 4294967295).slot 26 m.inc, (intK 1 2).slot 27 m.vote, ansK.slot 28 m.answer, cpyK.slot 32 m.copy, arcK.slot 42 m.arc, (listK cpyK 64).slot 44 m.copies, posK.slot 45 m.pos, (intK 1 255).slot 47 m.hops, (listK perK 12).slot 48 m.peers]) (off := 2) (intK_okay (size := 1) (most := 255) (by decide) (by decide)).fine octet_codes rfl (fun _ => rfl) M (fun h => hz h) hN hw hr hg hne (by omega) (Nat.le_of_ble_eq_true rfl) rfl rfl)
  clear M hz hN hw hr hg hne hl
  generalize step (intK 1 255).cod md l m.to = r at *
  go_enter Tryz.func97, Tryz.ntmps97
  go_wp2_with fail
  refine CALL.out.mono ?_
  rintro e w' h
  rcases h.ended with ⟨ch, rfl, h⟩ | ⟨rfl, h⟩
  · exact ⟨rfl, h⟩
  · have HE := Lib.hid h
    clear h
    go_wp2_with fail
    go_end0
    exact HE.out

set_option maxHeartbeats 1000000 in
theorem field2 {md : Bool} {P N : Nat → Prop} {gc : Nat} {sb : Src} {f : ByteArray} {l : List Nat} {g : Nat} {m : Ms} {w0 w : World} (M : MidM md P N gc sb f l g m w0 w) (hz : md = true → m.inst = (Ms.zero 0).inst) (hN : ∀ b, N b → P b) (hw : md = false → P g) (hr : md = true → ¬ P g ∧ ∀ j, w0.frozen? ⟨g, j, none⟩ = false) (hg : g < w0.heap.size) (hne : g ≠ gc)
    (hl : l.length + 30000000 ≤ 140737488355328) : Calls Tryz.prog 98 #[.pointer (some ⟨gc, 0, none⟩), .pointer (some ⟨g, 0, none⟩)] w (FieldEnd md P N gc sb f g (fun a => { m with inst := a }) w0 (step insK.cod md l m.inst)) := by
  have CALL := Lib.hid (MidM.call (set := fun a => { m with inst := a }) (A := [kindK.slot 0 m.kind, (intK 1 255).slot 1 m.fr, (intK 1 255).slot 2 m.to]) (B := [balK.slot 7 m.ballot, accK.slot 9 m.accepted, (textK 64).slot 13 m.value, txK.slot 14 m.tx, (natK .u64 8 18446744073709551615).slot 20 m.id, (natK .u32 4 4294967295).slot 21 m.index, (natK .u32 4 4294967295).slot 22 m.round, (intK 1 63).slot 23 m.bucket, (intK 1 3).slot 24 m.replica, (intK 1 3).slot 25 m.of, (natK .u32 4 4294967295).slot 26 m.inc, (intK 1 2).slot 27 m.vote, ansK.slot 28 m.answer, cpyK.slot 32 m.copy, arcK.slot 42 m.arc, (listK cpyK 64).slot 44 m.copies, posK.slot 45 m.pos, (intK 1 255).slot 47 m.hops, (listK perK 12).slot 48 m.peers]) (off := 3) insK_okay.fine ins_codes rfl (fun _ => rfl) M (fun h => hz h) hN hw hr hg hne (by omega) (Nat.le_of_ble_eq_true rfl) rfl rfl)
  clear M hz hN hw hr hg hne hl
  generalize step insK.cod md l m.inst = r at *
  go_enter Tryz.func98, Tryz.ntmps98
  go_wp2_with fail
  refine CALL.out.mono ?_
  rintro e w' h
  rcases h.ended with ⟨ch, rfl, h⟩ | ⟨rfl, h⟩
  · exact ⟨rfl, h⟩
  · have HE := Lib.hid h
    clear h
    go_wp2_with fail
    go_end0
    exact HE.out

set_option maxHeartbeats 1000000 in
theorem field3 {md : Bool} {P N : Nat → Prop} {gc : Nat} {sb : Src} {f : ByteArray} {l : List Nat} {g : Nat} {m : Ms} {w0 w : World} (M : MidM md P N gc sb f l g m w0 w) (hz : md = true → m.ballot = (Ms.zero 0).ballot) (hN : ∀ b, N b → P b) (hw : md = false → P g) (hr : md = true → ¬ P g ∧ ∀ j, w0.frozen? ⟨g, j, none⟩ = false) (hg : g < w0.heap.size) (hne : g ≠ gc)
    (hl : l.length + 30000000 ≤ 140737488355328) : Calls Tryz.prog 100 #[.pointer (some ⟨gc, 0, none⟩), .pointer (some ⟨g, 0, none⟩)] w (FieldEnd md P N gc sb f g (fun a => { m with ballot := a }) w0 (step balK.cod md l m.ballot)) := by
  have CALL := Lib.hid (MidM.call (set := fun a => { m with ballot := a }) (A := [kindK.slot 0 m.kind, (intK 1 255).slot 1 m.fr, (intK 1 255).slot 2 m.to, insK.slot 3 m.inst]) (B := [accK.slot 9 m.accepted, (textK 64).slot 13 m.value, txK.slot 14 m.tx, (natK .u64 8 18446744073709551615).slot 20 m.id, (natK .u32 4 4294967295).slot 21 m.index, (natK .u32 4 4294967295).slot 22 m.round, (intK 1 63).slot 23 m.bucket, (intK 1 3).slot 24 m.replica, (intK 1 3).slot 25 m.of, (natK .u32 4 4294967295).slot 26 m.inc, (intK 1 2).slot 27 m.vote, ansK.slot 28 m.answer, cpyK.slot 32 m.copy, arcK.slot 42 m.arc, (listK cpyK 64).slot 44 m.copies, posK.slot 45 m.pos, (intK 1 255).slot 47 m.hops, (listK perK 12).slot 48 m.peers]) (off := 7) balK_okay.fine bal_codes rfl (fun _ => rfl) M (fun h => hz h) hN hw hr hg hne (by omega) (Nat.le_of_ble_eq_true rfl) rfl rfl)
  clear M hz hN hw hr hg hne hl
  generalize step balK.cod md l m.ballot = r at *
  go_enter Tryz.func100, Tryz.ntmps100
  go_wp2_with fail
  refine CALL.out.mono ?_
  rintro e w' h
  rcases h.ended with ⟨ch, rfl, h⟩ | ⟨rfl, h⟩
  · exact ⟨rfl, h⟩
  · have HE := Lib.hid h
    clear h
    go_wp2_with fail
    go_end0
    exact HE.out

set_option maxHeartbeats 1000000 in
theorem field4 {md : Bool} {P N : Nat → Prop} {gc : Nat} {sb : Src} {f : ByteArray} {l : List Nat} {g : Nat} {m : Ms} {w0 w : World} (M : MidM md P N gc sb f l g m w0 w) (hz : md = true → m.accepted = (Ms.zero 0).accepted) (hN : ∀ b, N b → P b) (hw : md = false → P g) (hr : md = true → ¬ P g ∧ ∀ j, w0.frozen? ⟨g, j, none⟩ = false) (hg : g < w0.heap.size) (hne : g ≠ gc)
    (hl : l.length + 30000000 ≤ 140737488355328) : Calls Tryz.prog 102 #[.pointer (some ⟨gc, 0, none⟩), .pointer (some ⟨g, 0, none⟩)] w (FieldEnd md P N gc sb f g (fun a => { m with accepted := a }) w0 (step accK.cod md l m.accepted)) := by
  have CALL := Lib.hid (MidM.call (set := fun a => { m with accepted := a }) (A := [kindK.slot 0 m.kind, (intK 1 255).slot 1 m.fr, (intK 1 255).slot 2 m.to, insK.slot 3 m.inst, balK.slot 7 m.ballot]) (B := [(textK 64).slot 13 m.value, txK.slot 14 m.tx, (natK .u64 8 18446744073709551615).slot 20 m.id, (natK .u32 4 4294967295).slot 21 m.index, (natK .u32 4 4294967295).slot 22 m.round, (intK 1 63).slot 23 m.bucket, (intK 1 3).slot 24 m.replica, (intK 1 3).slot 25 m.of, (natK .u32 4 4294967295).slot 26 m.inc, (intK 1 2).slot 27 m.vote, ansK.slot 28 m.answer, cpyK.slot 32 m.copy, arcK.slot 42 m.arc, (listK cpyK 64).slot 44 m.copies, posK.slot 45 m.pos, (intK 1 255).slot 47 m.hops, (listK perK 12).slot 48 m.peers]) (off := 9) accK_okay.fine acc_codes rfl (fun _ => rfl) M (fun h => hz h) hN hw hr hg hne (by omega) (Nat.le_of_ble_eq_true rfl) rfl rfl)
  clear M hz hN hw hr hg hne hl
  generalize step accK.cod md l m.accepted = r at *
  go_enter Tryz.func102, Tryz.ntmps102
  go_wp2_with fail
  refine CALL.out.mono ?_
  rintro e w' h
  rcases h.ended with ⟨ch, rfl, h⟩ | ⟨rfl, h⟩
  · exact ⟨rfl, h⟩
  · have HE := Lib.hid h
    clear h
    go_wp2_with fail
    go_end0
    exact HE.out

set_option maxHeartbeats 1000000 in
theorem field5 {md : Bool} {P N : Nat → Prop} {gc : Nat} {sb : Src} {f : ByteArray} {l : List Nat} {g : Nat} {m : Ms} {w0 w : World} (M : MidM md P N gc sb f l g m w0 w) (hz : md = true → m.value = (Ms.zero 0).value) (hN : ∀ b, N b → P b) (hw : md = false → P g) (hr : md = true → ¬ P g ∧ ∀ j, w0.frozen? ⟨g, j, none⟩ = false) (hg : g < w0.heap.size) (hne : g ≠ gc)
    (hl : l.length + 30000000 ≤ 140737488355328) : Calls Tryz.prog 104 #[.pointer (some ⟨gc, 0, none⟩), .pointer (some ⟨g, 0, none⟩)] w (FieldEnd md P N gc sb f g (fun a => { m with value := a }) w0 (step (textK 64).cod md l m.value)) := by
  have CALL := Lib.hid (MidM.call (set := fun a => { m with value := a }) (A := [kindK.slot 0 m.kind, (intK 1 255).slot 1 m.fr, (intK 1 255).slot 2 m.to, insK.slot 3 m.inst, balK.slot 7 m.ballot, accK.slot 9 m.accepted]) (B := [txK.slot 14 m.tx, (natK .u64 8 18446744073709551615).slot 20 m.id, (natK .u32 4 4294967295).slot 21 m.index, (natK .u32 4 4294967295).slot 22 m.round, (intK 1 63).slot 23 m.bucket, (intK 1 3).slot 24 m.replica, (intK 1 3).slot 25 m.of, (natK .u32 4 4294967295).slot 26 m.inc, (intK 1 2).slot 27 m.vote, ansK.slot 28 m.answer, cpyK.slot 32 m.copy, arcK.slot 42 m.arc, (listK cpyK 64).slot 44 m.copies, posK.slot 45 m.pos, (intK 1 255).slot 47 m.hops, (listK perK 12).slot 48 m.peers]) (off := 13) (textK_okay (max := 64) (by decide)).fine (show Codes _ [.int .u64 64] _ _ from text_codes 64 (by decide)) rfl (fun _ => rfl) M (fun h => hz h) hN hw hr hg hne (by omega) (Nat.le_of_ble_eq_true rfl) rfl rfl)
  clear M hz hN hw hr hg hne hl
  generalize step (textK 64).cod md l m.value = r at *
  go_enter Tryz.func104, Tryz.ntmps104
  go_wp2_with fail
  refine CALL.out.mono ?_
  rintro e w' h
  rcases h.ended with ⟨ch, rfl, h⟩ | ⟨rfl, h⟩
  · exact ⟨rfl, h⟩
  · have HE := Lib.hid h
    clear h
    go_wp2_with fail
    go_end0
    exact HE.out

set_option maxHeartbeats 1000000 in
theorem field6 {md : Bool} {P N : Nat → Prop} {gc : Nat} {sb : Src} {f : ByteArray} {l : List Nat} {g : Nat} {m : Ms} {w0 w : World} (M : MidM md P N gc sb f l g m w0 w) (hz : md = true → m.tx = (Ms.zero 0).tx) (hN : ∀ b, N b → P b) (hw : md = false → P g) (hr : md = true → ¬ P g ∧ ∀ j, w0.frozen? ⟨g, j, none⟩ = false) (hg : g < w0.heap.size) (hne : g ≠ gc)
    (hl : l.length + 30000000 ≤ 140737488355328) : Calls Tryz.prog 106 #[.pointer (some ⟨gc, 0, none⟩), .pointer (some ⟨g, 0, none⟩)] w (FieldEnd md P N gc sb f g (fun a => { m with tx := a }) w0 (step txK.cod md l m.tx)) := by
  have CALL := Lib.hid (MidM.call (set := fun a => { m with tx := a }) (A := [kindK.slot 0 m.kind, (intK 1 255).slot 1 m.fr, (intK 1 255).slot 2 m.to, insK.slot 3 m.inst, balK.slot 7 m.ballot, accK.slot 9 m.accepted, (textK 64).slot 13 m.value]) (B := [(natK .u64 8 18446744073709551615).slot 20 m.id, (natK .u32 4 4294967295).slot 21 m.index, (natK .u32 4 4294967295).slot 22 m.round, (intK 1 63).slot 23 m.bucket, (intK 1 3).slot 24 m.replica, (intK 1 3).slot 25 m.of, (natK .u32 4 4294967295).slot 26 m.inc, (intK 1 2).slot 27 m.vote, ansK.slot 28 m.answer, cpyK.slot 32 m.copy, arcK.slot 42 m.arc, (listK cpyK 64).slot 44 m.copies, posK.slot 45 m.pos, (intK 1 255).slot 47 m.hops, (listK perK 12).slot 48 m.peers]) (off := 14) txK_okay.fine tx_codes rfl (fun _ => rfl) M (fun h => hz h) hN hw hr hg hne (by omega) (Nat.le_of_ble_eq_true rfl) rfl rfl)
  clear M hz hN hw hr hg hne hl
  generalize step txK.cod md l m.tx = r at *
  go_enter Tryz.func106, Tryz.ntmps106
  go_wp2_with fail
  refine CALL.out.mono ?_
  rintro e w' h
  rcases h.ended with ⟨ch, rfl, h⟩ | ⟨rfl, h⟩
  · exact ⟨rfl, h⟩
  · have HE := Lib.hid h
    clear h
    go_wp2_with fail
    go_end0
    exact HE.out

set_option maxHeartbeats 1000000 in
theorem field7 {md : Bool} {P N : Nat → Prop} {gc : Nat} {sb : Src} {f : ByteArray} {l : List Nat} {g : Nat} {m : Ms} {w0 w : World} (M : MidM md P N gc sb f l g m w0 w) (hz : md = true → m.id = (Ms.zero 0).id) (hN : ∀ b, N b → P b) (hw : md = false → P g) (hr : md = true → ¬ P g ∧ ∀ j, w0.frozen? ⟨g, j, none⟩ = false) (hg : g < w0.heap.size) (hne : g ≠ gc)
    (hl : l.length + 30000000 ≤ 140737488355328) : Calls Tryz.prog 108 #[.pointer (some ⟨gc, 0, none⟩), .pointer (some ⟨g, 0, none⟩)] w (FieldEnd md P N gc sb f g (fun a => { m with id := a }) w0 (step (natK .u64 8 18446744073709551615).cod md l m.id)) := by
  have CALL := Lib.hid (MidM.call (set := fun a => { m with id := a }) (A := [kindK.slot 0 m.kind, (intK 1 255).slot 1 m.fr, (intK 1 255).slot 2 m.to, insK.slot 3 m.inst, balK.slot 7 m.ballot, accK.slot 9 m.accepted, (textK 64).slot 13 m.value, txK.slot 14 m.tx]) (B := [(natK .u32 4 4294967295).slot 21 m.index, (natK .u32 4 4294967295).slot 22 m.round, (intK 1 63).slot 23 m.bucket, (intK 1 3).slot 24 m.replica, (intK 1 3).slot 25 m.of, (natK .u32 4 4294967295).slot 26 m.inc, (intK 1 2).slot 27 m.vote, ansK.slot 28 m.answer, cpyK.slot 32 m.copy, arcK.slot 42 m.arc, (listK cpyK 64).slot 44 m.copies, posK.slot 45 m.pos, (intK 1 255).slot 47 m.hops, (listK perK 12).slot 48 m.peers]) (off := 20) (natK_okay (kd := .u64) (size := 8) (most := 18446744073709551615) (by decide) (by decide)).fine long_codes rfl (fun _ => rfl) M (fun h => hz h) hN hw hr hg hne (by omega) (Nat.le_of_ble_eq_true rfl) rfl rfl)
  clear M hz hN hw hr hg hne hl
  generalize step (natK .u64 8 18446744073709551615).cod md l m.id = r at *
  go_enter Tryz.func108, Tryz.ntmps108
  go_wp2_with fail
  refine CALL.out.mono ?_
  rintro e w' h
  rcases h.ended with ⟨ch, rfl, h⟩ | ⟨rfl, h⟩
  · exact ⟨rfl, h⟩
  · have HE := Lib.hid h
    clear h
    go_wp2_with fail
    go_end0
    exact HE.out

set_option maxHeartbeats 1000000 in
theorem field8 {md : Bool} {P N : Nat → Prop} {gc : Nat} {sb : Src} {f : ByteArray} {l : List Nat} {g : Nat} {m : Ms} {w0 w : World} (M : MidM md P N gc sb f l g m w0 w) (hz : md = true → m.index = (Ms.zero 0).index) (hN : ∀ b, N b → P b) (hw : md = false → P g) (hr : md = true → ¬ P g ∧ ∀ j, w0.frozen? ⟨g, j, none⟩ = false) (hg : g < w0.heap.size) (hne : g ≠ gc)
    (hl : l.length + 30000000 ≤ 140737488355328) : Calls Tryz.prog 110 #[.pointer (some ⟨gc, 0, none⟩), .pointer (some ⟨g, 0, none⟩)] w (FieldEnd md P N gc sb f g (fun a => { m with index := a }) w0 (step (natK .u32 4 4294967295).cod md l m.index)) := by
  have CALL := Lib.hid (MidM.call (set := fun a => { m with index := a }) (A := [kindK.slot 0 m.kind, (intK 1 255).slot 1 m.fr, (intK 1 255).slot 2 m.to, insK.slot 3 m.inst, balK.slot 7 m.ballot, accK.slot 9 m.accepted, (textK 64).slot 13 m.value, txK.slot 14 m.tx, (natK .u64 8 18446744073709551615).slot 20 m.id]) (B := [(natK .u32 4 4294967295).slot 22 m.round, (intK 1 63).slot 23 m.bucket, (intK 1 3).slot 24 m.replica, (intK 1 3).slot 25 m.of, (natK .u32 4 4294967295).slot 26 m.inc, (intK 1 2).slot 27 m.vote, ansK.slot 28 m.answer, cpyK.slot 32 m.copy, arcK.slot 42 m.arc, (listK cpyK 64).slot 44 m.copies, posK.slot 45 m.pos, (intK 1 255).slot 47 m.hops, (listK perK 12).slot 48 m.peers]) (off := 21) (natK_okay (kd := .u32) (size := 4) (most := 4294967295) (by decide) (by decide)).fine word_codes rfl (fun _ => rfl) M (fun h => hz h) hN hw hr hg hne (by omega) (Nat.le_of_ble_eq_true rfl) rfl rfl)
  clear M hz hN hw hr hg hne hl
  generalize step (natK .u32 4 4294967295).cod md l m.index = r at *
  go_enter Tryz.func110, Tryz.ntmps110
  go_wp2_with fail
  refine CALL.out.mono ?_
  rintro e w' h
  rcases h.ended with ⟨ch, rfl, h⟩ | ⟨rfl, h⟩
  · exact ⟨rfl, h⟩
  · have HE := Lib.hid h
    clear h
    go_wp2_with fail
    go_end0
    exact HE.out

set_option maxHeartbeats 1000000 in
theorem field9 {md : Bool} {P N : Nat → Prop} {gc : Nat} {sb : Src} {f : ByteArray} {l : List Nat} {g : Nat} {m : Ms} {w0 w : World} (M : MidM md P N gc sb f l g m w0 w) (hz : md = true → m.round = (Ms.zero 0).round) (hN : ∀ b, N b → P b) (hw : md = false → P g) (hr : md = true → ¬ P g ∧ ∀ j, w0.frozen? ⟨g, j, none⟩ = false) (hg : g < w0.heap.size) (hne : g ≠ gc)
    (hl : l.length + 30000000 ≤ 140737488355328) : Calls Tryz.prog 111 #[.pointer (some ⟨gc, 0, none⟩), .pointer (some ⟨g, 0, none⟩)] w (FieldEnd md P N gc sb f g (fun a => { m with round := a }) w0 (step (natK .u32 4 4294967295).cod md l m.round)) := by
  have CALL := Lib.hid (MidM.call (set := fun a => { m with round := a }) (A := [kindK.slot 0 m.kind, (intK 1 255).slot 1 m.fr, (intK 1 255).slot 2 m.to, insK.slot 3 m.inst, balK.slot 7 m.ballot, accK.slot 9 m.accepted, (textK 64).slot 13 m.value, txK.slot 14 m.tx, (natK .u64 8 18446744073709551615).slot 20 m.id, (natK .u32 4 4294967295).slot 21 m.index]) (B := [(intK 1 63).slot 23 m.bucket, (intK 1 3).slot 24 m.replica, (intK 1 3).slot 25 m.of, (natK .u32 4 4294967295).slot 26 m.inc, (intK 1 2).slot 27 m.vote, ansK.slot 28 m.answer, cpyK.slot 32 m.copy, arcK.slot 42 m.arc, (listK cpyK 64).slot 44 m.copies, posK.slot 45 m.pos, (intK 1 255).slot 47 m.hops, (listK perK 12).slot 48 m.peers]) (off := 22) (natK_okay (kd := .u32) (size := 4) (most := 4294967295) (by decide) (by decide)).fine word_codes rfl (fun _ => rfl) M (fun h => hz h) hN hw hr hg hne (by omega) (Nat.le_of_ble_eq_true rfl) rfl rfl)
  clear M hz hN hw hr hg hne hl
  generalize step (natK .u32 4 4294967295).cod md l m.round = r at *
  go_enter Tryz.func111, Tryz.ntmps111
  go_wp2_with fail
  refine CALL.out.mono ?_
  rintro e w' h
  rcases h.ended with ⟨ch, rfl, h⟩ | ⟨rfl, h⟩
  · exact ⟨rfl, h⟩
  · have HE := Lib.hid h
    clear h
    go_wp2_with fail
    go_end0
    exact HE.out

set_option maxHeartbeats 1000000 in
theorem field10 {md : Bool} {P N : Nat → Prop} {gc : Nat} {sb : Src} {f : ByteArray} {l : List Nat} {g : Nat} {m : Ms} {w0 w : World} (M : MidM md P N gc sb f l g m w0 w) (hz : md = true → m.bucket = (Ms.zero 0).bucket) (hN : ∀ b, N b → P b) (hw : md = false → P g) (hr : md = true → ¬ P g ∧ ∀ j, w0.frozen? ⟨g, j, none⟩ = false) (hg : g < w0.heap.size) (hne : g ≠ gc)
    (hl : l.length + 30000000 ≤ 140737488355328) : Calls Tryz.prog 112 #[.pointer (some ⟨gc, 0, none⟩), .pointer (some ⟨g, 0, none⟩)] w (FieldEnd md P N gc sb f g (fun a => { m with bucket := a }) w0 (step (intK 1 63).cod md l m.bucket)) := by
  have CALL := Lib.hid (MidM.call (set := fun a => { m with bucket := a }) (A := [kindK.slot 0 m.kind, (intK 1 255).slot 1 m.fr, (intK 1 255).slot 2 m.to, insK.slot 3 m.inst, balK.slot 7 m.ballot, accK.slot 9 m.accepted, (textK 64).slot 13 m.value, txK.slot 14 m.tx, (natK .u64 8 18446744073709551615).slot 20 m.id, (natK .u32 4 4294967295).slot 21 m.index, (natK .u32 4 4294967295).slot 22 m.round]) (B := [(intK 1 3).slot 24 m.replica, (intK 1 3).slot 25 m.of, (natK .u32 4 4294967295).slot 26 m.inc, (intK 1 2).slot 27 m.vote, ansK.slot 28 m.answer, cpyK.slot 32 m.copy, arcK.slot 42 m.arc, (listK cpyK 64).slot 44 m.copies, posK.slot 45 m.pos, (intK 1 255).slot 47 m.hops, (listK perK 12).slot 48 m.peers]) (off := 23) (intK_okay (size := 1) (most := 63) (by decide) (by decide)).fine bucket_codes rfl (fun _ => rfl) M (fun h => hz h) hN hw hr hg hne (by omega) (Nat.le_of_ble_eq_true rfl) rfl rfl)
  clear M hz hN hw hr hg hne hl
  generalize step (intK 1 63).cod md l m.bucket = r at *
  go_enter Tryz.func112, Tryz.ntmps112
  go_wp2_with fail
  refine CALL.out.mono ?_
  rintro e w' h
  rcases h.ended with ⟨ch, rfl, h⟩ | ⟨rfl, h⟩
  · exact ⟨rfl, h⟩
  · have HE := Lib.hid h
    clear h
    go_wp2_with fail
    go_end0
    exact HE.out

set_option maxHeartbeats 1000000 in
theorem field11 {md : Bool} {P N : Nat → Prop} {gc : Nat} {sb : Src} {f : ByteArray} {l : List Nat} {g : Nat} {m : Ms} {w0 w : World} (M : MidM md P N gc sb f l g m w0 w) (hz : md = true → m.replica = (Ms.zero 0).replica) (hN : ∀ b, N b → P b) (hw : md = false → P g) (hr : md = true → ¬ P g ∧ ∀ j, w0.frozen? ⟨g, j, none⟩ = false) (hg : g < w0.heap.size) (hne : g ≠ gc)
    (hl : l.length + 30000000 ≤ 140737488355328) : Calls Tryz.prog 114 #[.pointer (some ⟨gc, 0, none⟩), .pointer (some ⟨g, 0, none⟩)] w (FieldEnd md P N gc sb f g (fun a => { m with replica := a }) w0 (step (intK 1 3).cod md l m.replica)) := by
  have CALL := Lib.hid (MidM.call (set := fun a => { m with replica := a }) (A := [kindK.slot 0 m.kind, (intK 1 255).slot 1 m.fr, (intK 1 255).slot 2 m.to, insK.slot 3 m.inst, balK.slot 7 m.ballot, accK.slot 9 m.accepted, (textK 64).slot 13 m.value, txK.slot 14 m.tx, (natK .u64 8 18446744073709551615).slot 20 m.id, (natK .u32 4 4294967295).slot 21 m.index, (natK .u32 4 4294967295).slot 22 m.round, (intK 1 63).slot 23 m.bucket]) (B := [(intK 1 3).slot 25 m.of, (natK .u32 4 4294967295).slot 26 m.inc, (intK 1 2).slot 27 m.vote, ansK.slot 28 m.answer, cpyK.slot 32 m.copy, arcK.slot 42 m.arc, (listK cpyK 64).slot 44 m.copies, posK.slot 45 m.pos, (intK 1 255).slot 47 m.hops, (listK perK 12).slot 48 m.peers]) (off := 24) (intK_okay (size := 1) (most := 3) (by decide) (by decide)).fine replica_codes rfl (fun _ => rfl) M (fun h => hz h) hN hw hr hg hne (by omega) (Nat.le_of_ble_eq_true rfl) rfl rfl)
  clear M hz hN hw hr hg hne hl
  generalize step (intK 1 3).cod md l m.replica = r at *
  go_enter Tryz.func114, Tryz.ntmps114
  go_wp2_with fail
  refine CALL.out.mono ?_
  rintro e w' h
  rcases h.ended with ⟨ch, rfl, h⟩ | ⟨rfl, h⟩
  · exact ⟨rfl, h⟩
  · have HE := Lib.hid h
    clear h
    go_wp2_with fail
    go_end0
    exact HE.out

set_option maxHeartbeats 1000000 in
theorem field12 {md : Bool} {P N : Nat → Prop} {gc : Nat} {sb : Src} {f : ByteArray} {l : List Nat} {g : Nat} {m : Ms} {w0 w : World} (M : MidM md P N gc sb f l g m w0 w) (hz : md = true → m.of = (Ms.zero 0).of) (hN : ∀ b, N b → P b) (hw : md = false → P g) (hr : md = true → ¬ P g ∧ ∀ j, w0.frozen? ⟨g, j, none⟩ = false) (hg : g < w0.heap.size) (hne : g ≠ gc)
    (hl : l.length + 30000000 ≤ 140737488355328) : Calls Tryz.prog 116 #[.pointer (some ⟨gc, 0, none⟩), .pointer (some ⟨g, 0, none⟩)] w (FieldEnd md P N gc sb f g (fun a => { m with of := a }) w0 (step (intK 1 3).cod md l m.of)) := by
  have CALL := Lib.hid (MidM.call (set := fun a => { m with of := a }) (A := [kindK.slot 0 m.kind, (intK 1 255).slot 1 m.fr, (intK 1 255).slot 2 m.to, insK.slot 3 m.inst, balK.slot 7 m.ballot, accK.slot 9 m.accepted, (textK 64).slot 13 m.value, txK.slot 14 m.tx, (natK .u64 8 18446744073709551615).slot 20 m.id, (natK .u32 4 4294967295).slot 21 m.index, (natK .u32 4 4294967295).slot 22 m.round, (intK 1 63).slot 23 m.bucket, (intK 1 3).slot 24 m.replica]) (B := [(natK .u32 4 4294967295).slot 26 m.inc, (intK 1 2).slot 27 m.vote, ansK.slot 28 m.answer, cpyK.slot 32 m.copy, arcK.slot 42 m.arc, (listK cpyK 64).slot 44 m.copies, posK.slot 45 m.pos, (intK 1 255).slot 47 m.hops, (listK perK 12).slot 48 m.peers]) (off := 25) (intK_okay (size := 1) (most := 3) (by decide) (by decide)).fine replica_codes rfl (fun _ => rfl) M (fun h => hz h) hN hw hr hg hne (by omega) (Nat.le_of_ble_eq_true rfl) rfl rfl)
  clear M hz hN hw hr hg hne hl
  generalize step (intK 1 3).cod md l m.of = r at *
  go_enter Tryz.func116, Tryz.ntmps116
  go_wp2_with fail
  refine CALL.out.mono ?_
  rintro e w' h
  rcases h.ended with ⟨ch, rfl, h⟩ | ⟨rfl, h⟩
  · exact ⟨rfl, h⟩
  · have HE := Lib.hid h
    clear h
    go_wp2_with fail
    go_end0
    exact HE.out

set_option maxHeartbeats 1000000 in
theorem field13 {md : Bool} {P N : Nat → Prop} {gc : Nat} {sb : Src} {f : ByteArray} {l : List Nat} {g : Nat} {m : Ms} {w0 w : World} (M : MidM md P N gc sb f l g m w0 w) (hz : md = true → m.inc = (Ms.zero 0).inc) (hN : ∀ b, N b → P b) (hw : md = false → P g) (hr : md = true → ¬ P g ∧ ∀ j, w0.frozen? ⟨g, j, none⟩ = false) (hg : g < w0.heap.size) (hne : g ≠ gc)
    (hl : l.length + 30000000 ≤ 140737488355328) : Calls Tryz.prog 117 #[.pointer (some ⟨gc, 0, none⟩), .pointer (some ⟨g, 0, none⟩)] w (FieldEnd md P N gc sb f g (fun a => { m with inc := a }) w0 (step (natK .u32 4 4294967295).cod md l m.inc)) := by
  have CALL := Lib.hid (MidM.call (set := fun a => { m with inc := a }) (A := [kindK.slot 0 m.kind, (intK 1 255).slot 1 m.fr, (intK 1 255).slot 2 m.to, insK.slot 3 m.inst, balK.slot 7 m.ballot, accK.slot 9 m.accepted, (textK 64).slot 13 m.value, txK.slot 14 m.tx, (natK .u64 8 18446744073709551615).slot 20 m.id, (natK .u32 4 4294967295).slot 21 m.index, (natK .u32 4 4294967295).slot 22 m.round, (intK 1 63).slot 23 m.bucket, (intK 1 3).slot 24 m.replica, (intK 1 3).slot 25 m.of]) (B := [(intK 1 2).slot 27 m.vote, ansK.slot 28 m.answer, cpyK.slot 32 m.copy, arcK.slot 42 m.arc, (listK cpyK 64).slot 44 m.copies, posK.slot 45 m.pos, (intK 1 255).slot 47 m.hops, (listK perK 12).slot 48 m.peers]) (off := 26) (natK_okay (kd := .u32) (size := 4) (most := 4294967295) (by decide) (by decide)).fine word_codes rfl (fun _ => rfl) M (fun h => hz h) hN hw hr hg hne (by omega) (Nat.le_of_ble_eq_true rfl) rfl rfl)
  clear M hz hN hw hr hg hne hl
  generalize step (natK .u32 4 4294967295).cod md l m.inc = r at *
  go_enter Tryz.func117, Tryz.ntmps117
  go_wp2_with fail
  refine CALL.out.mono ?_
  rintro e w' h
  rcases h.ended with ⟨ch, rfl, h⟩ | ⟨rfl, h⟩
  · exact ⟨rfl, h⟩
  · have HE := Lib.hid h
    clear h
    go_wp2_with fail
    go_end0
    exact HE.out

set_option maxHeartbeats 1000000 in
theorem field14 {md : Bool} {P N : Nat → Prop} {gc : Nat} {sb : Src} {f : ByteArray} {l : List Nat} {g : Nat} {m : Ms} {w0 w : World} (M : MidM md P N gc sb f l g m w0 w) (hz : md = true → m.vote = (Ms.zero 0).vote) (hN : ∀ b, N b → P b) (hw : md = false → P g) (hr : md = true → ¬ P g ∧ ∀ j, w0.frozen? ⟨g, j, none⟩ = false) (hg : g < w0.heap.size) (hne : g ≠ gc)
    (hl : l.length + 30000000 ≤ 140737488355328) : Calls Tryz.prog 118 #[.pointer (some ⟨gc, 0, none⟩), .pointer (some ⟨g, 0, none⟩)] w (FieldEnd md P N gc sb f g (fun a => { m with vote := a }) w0 (step (intK 1 2).cod md l m.vote)) := by
  have CALL := Lib.hid (MidM.call (set := fun a => { m with vote := a }) (A := [kindK.slot 0 m.kind, (intK 1 255).slot 1 m.fr, (intK 1 255).slot 2 m.to, insK.slot 3 m.inst, balK.slot 7 m.ballot, accK.slot 9 m.accepted, (textK 64).slot 13 m.value, txK.slot 14 m.tx, (natK .u64 8 18446744073709551615).slot 20 m.id, (natK .u32 4 4294967295).slot 21 m.index, (natK .u32 4 4294967295).slot 22 m.round, (intK 1 63).slot 23 m.bucket, (intK 1 3).slot 24 m.replica, (intK 1 3).slot 25 m.of, (natK .u32 4 4294967295).slot 26 m.inc]) (B := [ansK.slot 28 m.answer, cpyK.slot 32 m.copy, arcK.slot 42 m.arc, (listK cpyK 64).slot 44 m.copies, posK.slot 45 m.pos, (intK 1 255).slot 47 m.hops, (listK perK 12).slot 48 m.peers]) (off := 27) (intK_okay (size := 1) (most := 2) (by decide) (by decide)).fine vote_codes rfl (fun _ => rfl) M (fun h => hz h) hN hw hr hg hne (by omega) (Nat.le_of_ble_eq_true rfl) rfl rfl)
  clear M hz hN hw hr hg hne hl
  generalize step (intK 1 2).cod md l m.vote = r at *
  go_enter Tryz.func118, Tryz.ntmps118
  go_wp2_with fail
  refine CALL.out.mono ?_
  rintro e w' h
  rcases h.ended with ⟨ch, rfl, h⟩ | ⟨rfl, h⟩
  · exact ⟨rfl, h⟩
  · have HE := Lib.hid h
    clear h
    go_wp2_with fail
    go_end0
    exact HE.out

set_option maxHeartbeats 1000000 in
theorem field15 {md : Bool} {P N : Nat → Prop} {gc : Nat} {sb : Src} {f : ByteArray} {l : List Nat} {g : Nat} {m : Ms} {w0 w : World} (M : MidM md P N gc sb f l g m w0 w) (hz : md = true → m.answer = (Ms.zero 0).answer) (hN : ∀ b, N b → P b) (hw : md = false → P g) (hr : md = true → ¬ P g ∧ ∀ j, w0.frozen? ⟨g, j, none⟩ = false) (hg : g < w0.heap.size) (hne : g ≠ gc)
    (hl : l.length + 30000000 ≤ 140737488355328) : Calls Tryz.prog 120 #[.pointer (some ⟨gc, 0, none⟩), .pointer (some ⟨g, 0, none⟩)] w (FieldEnd md P N gc sb f g (fun a => { m with answer := a }) w0 (step ansK.cod md l m.answer)) := by
  have CALL := Lib.hid (MidM.call (set := fun a => { m with answer := a }) (A := [kindK.slot 0 m.kind, (intK 1 255).slot 1 m.fr, (intK 1 255).slot 2 m.to, insK.slot 3 m.inst, balK.slot 7 m.ballot, accK.slot 9 m.accepted, (textK 64).slot 13 m.value, txK.slot 14 m.tx, (natK .u64 8 18446744073709551615).slot 20 m.id, (natK .u32 4 4294967295).slot 21 m.index, (natK .u32 4 4294967295).slot 22 m.round, (intK 1 63).slot 23 m.bucket, (intK 1 3).slot 24 m.replica, (intK 1 3).slot 25 m.of, (natK .u32 4 4294967295).slot 26 m.inc, (intK 1 2).slot 27 m.vote]) (B := [cpyK.slot 32 m.copy, arcK.slot 42 m.arc, (listK cpyK 64).slot 44 m.copies, posK.slot 45 m.pos, (intK 1 255).slot 47 m.hops, (listK perK 12).slot 48 m.peers]) (off := 28) ansK_okay.fine ans_codes rfl (fun _ => rfl) M (fun h => hz h) hN hw hr hg hne (by omega) (Nat.le_of_ble_eq_true rfl) rfl rfl)
  clear M hz hN hw hr hg hne hl
  generalize step ansK.cod md l m.answer = r at *
  go_enter Tryz.func120, Tryz.ntmps120
  go_wp2_with fail
  refine CALL.out.mono ?_
  rintro e w' h
  rcases h.ended with ⟨ch, rfl, h⟩ | ⟨rfl, h⟩
  · exact ⟨rfl, h⟩
  · have HE := Lib.hid h
    clear h
    go_wp2_with fail
    go_end0
    exact HE.out

set_option maxHeartbeats 1000000 in
theorem field16 {md : Bool} {P N : Nat → Prop} {gc : Nat} {sb : Src} {f : ByteArray} {l : List Nat} {g : Nat} {m : Ms} {w0 w : World} (M : MidM md P N gc sb f l g m w0 w) (hz : md = true → m.copy = (Ms.zero 0).copy) (hN : ∀ b, N b → P b) (hw : md = false → P g) (hr : md = true → ¬ P g ∧ ∀ j, w0.frozen? ⟨g, j, none⟩ = false) (hg : g < w0.heap.size) (hne : g ≠ gc)
    (hl : l.length + 30000000 ≤ 140737488355328) : Calls Tryz.prog 122 #[.pointer (some ⟨gc, 0, none⟩), .pointer (some ⟨g, 0, none⟩)] w (FieldEnd md P N gc sb f g (fun a => { m with copy := a }) w0 (step cpyK.cod md l m.copy)) := by
  have CALL := Lib.hid (MidM.call (set := fun a => { m with copy := a }) (A := [kindK.slot 0 m.kind, (intK 1 255).slot 1 m.fr, (intK 1 255).slot 2 m.to, insK.slot 3 m.inst, balK.slot 7 m.ballot, accK.slot 9 m.accepted, (textK 64).slot 13 m.value, txK.slot 14 m.tx, (natK .u64 8 18446744073709551615).slot 20 m.id, (natK .u32 4 4294967295).slot 21 m.index, (natK .u32 4 4294967295).slot 22 m.round, (intK 1 63).slot 23 m.bucket, (intK 1 3).slot 24 m.replica, (intK 1 3).slot 25 m.of, (natK .u32 4 4294967295).slot 26 m.inc, (intK 1 2).slot 27 m.vote, ansK.slot 28 m.answer]) (B := [arcK.slot 42 m.arc, (listK cpyK 64).slot 44 m.copies, posK.slot 45 m.pos, (intK 1 255).slot 47 m.hops, (listK perK 12).slot 48 m.peers]) (off := 32) cpyK_okay.fine cpy_codes rfl (fun _ => rfl) M (fun h => hz h) hN hw hr hg hne (by omega) (Nat.le_of_ble_eq_true rfl) rfl rfl)
  clear M hz hN hw hr hg hne hl
  generalize step cpyK.cod md l m.copy = r at *
  go_enter Tryz.func122, Tryz.ntmps122
  go_wp2_with fail
  refine CALL.out.mono ?_
  rintro e w' h
  rcases h.ended with ⟨ch, rfl, h⟩ | ⟨rfl, h⟩
  · exact ⟨rfl, h⟩
  · have HE := Lib.hid h
    clear h
    go_wp2_with fail
    go_end0
    exact HE.out

set_option maxHeartbeats 1000000 in
theorem field17 {md : Bool} {P N : Nat → Prop} {gc : Nat} {sb : Src} {f : ByteArray} {l : List Nat} {g : Nat} {m : Ms} {w0 w : World} (M : MidM md P N gc sb f l g m w0 w) (hz : md = true → m.arc = (Ms.zero 0).arc) (hN : ∀ b, N b → P b) (hw : md = false → P g) (hr : md = true → ¬ P g ∧ ∀ j, w0.frozen? ⟨g, j, none⟩ = false) (hg : g < w0.heap.size) (hne : g ≠ gc)
    (hl : l.length + 30000000 ≤ 140737488355328) : Calls Tryz.prog 124 #[.pointer (some ⟨gc, 0, none⟩), .pointer (some ⟨g, 0, none⟩)] w (FieldEnd md P N gc sb f g (fun a => { m with arc := a }) w0 (step arcK.cod md l m.arc)) := by
  have CALL := Lib.hid (MidM.call (set := fun a => { m with arc := a }) (A := [kindK.slot 0 m.kind, (intK 1 255).slot 1 m.fr, (intK 1 255).slot 2 m.to, insK.slot 3 m.inst, balK.slot 7 m.ballot, accK.slot 9 m.accepted, (textK 64).slot 13 m.value, txK.slot 14 m.tx, (natK .u64 8 18446744073709551615).slot 20 m.id, (natK .u32 4 4294967295).slot 21 m.index, (natK .u32 4 4294967295).slot 22 m.round, (intK 1 63).slot 23 m.bucket, (intK 1 3).slot 24 m.replica, (intK 1 3).slot 25 m.of, (natK .u32 4 4294967295).slot 26 m.inc, (intK 1 2).slot 27 m.vote, ansK.slot 28 m.answer, cpyK.slot 32 m.copy]) (B := [(listK cpyK 64).slot 44 m.copies, posK.slot 45 m.pos, (intK 1 255).slot 47 m.hops, (listK perK 12).slot 48 m.peers]) (off := 42) arcK_okay.fine arc_codes rfl (fun _ => rfl) M (fun h => hz h) hN hw hr hg hne (by omega) (Nat.le_of_ble_eq_true rfl) rfl rfl)
  clear M hz hN hw hr hg hne hl
  generalize step arcK.cod md l m.arc = r at *
  go_enter Tryz.func124, Tryz.ntmps124
  go_wp2_with fail
  refine CALL.out.mono ?_
  rintro e w' h
  rcases h.ended with ⟨ch, rfl, h⟩ | ⟨rfl, h⟩
  · exact ⟨rfl, h⟩
  · have HE := Lib.hid h
    clear h
    go_wp2_with fail
    go_end0
    exact HE.out

set_option maxHeartbeats 1000000 in
theorem field18 {md : Bool} {P N : Nat → Prop} {gc : Nat} {sb : Src} {f : ByteArray} {l : List Nat} {g : Nat} {m : Ms} {w0 w : World} (M : MidM md P N gc sb f l g m w0 w) (hz : md = true → m.copies = (Ms.zero 0).copies) (hN : ∀ b, N b → P b) (hw : md = false → P g) (hr : md = true → ¬ P g ∧ ∀ j, w0.frozen? ⟨g, j, none⟩ = false) (hg : g < w0.heap.size) (hne : g ≠ gc)
    (hl : l.length + 30000000 ≤ 140737488355328) : Calls Tryz.prog 125 #[.pointer (some ⟨gc, 0, none⟩), .pointer (some ⟨g, 0, none⟩)] w (FieldEnd md P N gc sb f g (fun a => { m with copies := a }) w0 (step (listK cpyK 64).cod md l m.copies)) := by
  have CALL := Lib.hid (MidM.call (set := fun a => { m with copies := a }) (A := [kindK.slot 0 m.kind, (intK 1 255).slot 1 m.fr, (intK 1 255).slot 2 m.to, insK.slot 3 m.inst, balK.slot 7 m.ballot, accK.slot 9 m.accepted, (textK 64).slot 13 m.value, txK.slot 14 m.tx, (natK .u64 8 18446744073709551615).slot 20 m.id, (natK .u32 4 4294967295).slot 21 m.index, (natK .u32 4 4294967295).slot 22 m.round, (intK 1 63).slot 23 m.bucket, (intK 1 3).slot 24 m.replica, (intK 1 3).slot 25 m.of, (natK .u32 4 4294967295).slot 26 m.inc, (intK 1 2).slot 27 m.vote, ansK.slot 28 m.answer, cpyK.slot 32 m.copy, arcK.slot 42 m.arc]) (B := [posK.slot 45 m.pos, (intK 1 255).slot 47 m.hops, (listK perK 12).slot 48 m.peers]) (off := 44) (listK_okay cpyK_okay (max := 64) (by decide)).fine (show Codes _ [.int .u64 64, .func (.func 123) #[] #[]] _ _ from listcpy_codes 319248 cpyK_okay.len cpyK_okay.good cpy_codes 64 (by decide)) rfl (fun _ => rfl) M (fun h => hz h) hN hw hr hg hne (by omega) (Nat.le_of_ble_eq_true rfl) rfl rfl)
  clear M hz hN hw hr hg hne hl
  generalize step (listK cpyK 64).cod md l m.copies = r at *
  go_enter Tryz.func125, Tryz.ntmps125
  go_wp2_with fail
  refine CALL.out.mono ?_
  rintro e w' h
  rcases h.ended with ⟨ch, rfl, h⟩ | ⟨rfl, h⟩
  · exact ⟨rfl, h⟩
  · have HE := Lib.hid h
    clear h
    go_wp2_with fail
    go_end0
    exact HE.out

set_option maxHeartbeats 1000000 in
theorem field19 {md : Bool} {P N : Nat → Prop} {gc : Nat} {sb : Src} {f : ByteArray} {l : List Nat} {g : Nat} {m : Ms} {w0 w : World} (M : MidM md P N gc sb f l g m w0 w) (hz : md = true → m.pos = (Ms.zero 0).pos) (hN : ∀ b, N b → P b) (hw : md = false → P g) (hr : md = true → ¬ P g ∧ ∀ j, w0.frozen? ⟨g, j, none⟩ = false) (hg : g < w0.heap.size) (hne : g ≠ gc)
    (hl : l.length + 30000000 ≤ 140737488355328) : Calls Tryz.prog 127 #[.pointer (some ⟨gc, 0, none⟩), .pointer (some ⟨g, 0, none⟩)] w (FieldEnd md P N gc sb f g (fun a => { m with pos := a }) w0 (step posK.cod md l m.pos)) := by
  have CALL := Lib.hid (MidM.call (set := fun a => { m with pos := a }) (A := [kindK.slot 0 m.kind, (intK 1 255).slot 1 m.fr, (intK 1 255).slot 2 m.to, insK.slot 3 m.inst, balK.slot 7 m.ballot, accK.slot 9 m.accepted, (textK 64).slot 13 m.value, txK.slot 14 m.tx, (natK .u64 8 18446744073709551615).slot 20 m.id, (natK .u32 4 4294967295).slot 21 m.index, (natK .u32 4 4294967295).slot 22 m.round, (intK 1 63).slot 23 m.bucket, (intK 1 3).slot 24 m.replica, (intK 1 3).slot 25 m.of, (natK .u32 4 4294967295).slot 26 m.inc, (intK 1 2).slot 27 m.vote, ansK.slot 28 m.answer, cpyK.slot 32 m.copy, arcK.slot 42 m.arc, (listK cpyK 64).slot 44 m.copies]) (B := [(intK 1 255).slot 47 m.hops, (listK perK 12).slot 48 m.peers]) (off := 45) posK_okay.fine pos_codes rfl (fun _ => rfl) M (fun h => hz h) hN hw hr hg hne (by omega) (Nat.le_of_ble_eq_true rfl) rfl rfl)
  clear M hz hN hw hr hg hne hl
  generalize step posK.cod md l m.pos = r at *
  go_enter Tryz.func127, Tryz.ntmps127
  go_wp2_with fail
  refine CALL.out.mono ?_
  rintro e w' h
  rcases h.ended with ⟨ch, rfl, h⟩ | ⟨rfl, h⟩
  · exact ⟨rfl, h⟩
  · have HE := Lib.hid h
    clear h
    go_wp2_with fail
    go_end0
    exact HE.out

set_option maxHeartbeats 1000000 in
theorem field20 {md : Bool} {P N : Nat → Prop} {gc : Nat} {sb : Src} {f : ByteArray} {l : List Nat} {g : Nat} {m : Ms} {w0 w : World} (M : MidM md P N gc sb f l g m w0 w) (hz : md = true → m.hops = (Ms.zero 0).hops) (hN : ∀ b, N b → P b) (hw : md = false → P g) (hr : md = true → ¬ P g ∧ ∀ j, w0.frozen? ⟨g, j, none⟩ = false) (hg : g < w0.heap.size) (hne : g ≠ gc)
    (hl : l.length + 30000000 ≤ 140737488355328) : Calls Tryz.prog 129 #[.pointer (some ⟨gc, 0, none⟩), .pointer (some ⟨g, 0, none⟩)] w (FieldEnd md P N gc sb f g (fun a => { m with hops := a }) w0 (step (intK 1 255).cod md l m.hops)) := by
  have CALL := Lib.hid (MidM.call (set := fun a => { m with hops := a }) (A := [kindK.slot 0 m.kind, (intK 1 255).slot 1 m.fr, (intK 1 255).slot 2 m.to, insK.slot 3 m.inst, balK.slot 7 m.ballot, accK.slot 9 m.accepted, (textK 64).slot 13 m.value, txK.slot 14 m.tx, (natK .u64 8 18446744073709551615).slot 20 m.id, (natK .u32 4 4294967295).slot 21 m.index, (natK .u32 4 4294967295).slot 22 m.round, (intK 1 63).slot 23 m.bucket, (intK 1 3).slot 24 m.replica, (intK 1 3).slot 25 m.of, (natK .u32 4 4294967295).slot 26 m.inc, (intK 1 2).slot 27 m.vote, ansK.slot 28 m.answer, cpyK.slot 32 m.copy, arcK.slot 42 m.arc, (listK cpyK 64).slot 44 m.copies, posK.slot 45 m.pos]) (B := [(listK perK 12).slot 48 m.peers]) (off := 47) (intK_okay (size := 1) (most := 255) (by decide) (by decide)).fine octet_codes rfl (fun _ => rfl) M (fun h => hz h) hN hw hr hg hne (by omega) (Nat.le_of_ble_eq_true rfl) rfl rfl)
  clear M hz hN hw hr hg hne hl
  generalize step (intK 1 255).cod md l m.hops = r at *
  go_enter Tryz.func129, Tryz.ntmps129
  go_wp2_with fail
  refine CALL.out.mono ?_
  rintro e w' h
  rcases h.ended with ⟨ch, rfl, h⟩ | ⟨rfl, h⟩
  · exact ⟨rfl, h⟩
  · have HE := Lib.hid h
    clear h
    go_wp2_with fail
    go_end0
    exact HE.out

set_option maxHeartbeats 1000000 in
theorem field21 {md : Bool} {P N : Nat → Prop} {gc : Nat} {sb : Src} {f : ByteArray} {l : List Nat} {g : Nat} {m : Ms} {w0 w : World} (M : MidM md P N gc sb f l g m w0 w) (hz : md = true → m.peers = (Ms.zero 0).peers) (hN : ∀ b, N b → P b) (hw : md = false → P g) (hr : md = true → ¬ P g ∧ ∀ j, w0.frozen? ⟨g, j, none⟩ = false) (hg : g < w0.heap.size) (hne : g ≠ gc)
    (hl : l.length + 30000000 ≤ 140737488355328) : Calls Tryz.prog 130 #[.pointer (some ⟨gc, 0, none⟩), .pointer (some ⟨g, 0, none⟩)] w (FieldEnd md P N gc sb f g (fun a => { m with peers := a }) w0 (step (listK perK 12).cod md l m.peers)) := by
  have CALL := Lib.hid (MidM.call (set := fun a => { m with peers := a }) (A := [kindK.slot 0 m.kind, (intK 1 255).slot 1 m.fr, (intK 1 255).slot 2 m.to, insK.slot 3 m.inst, balK.slot 7 m.ballot, accK.slot 9 m.accepted, (textK 64).slot 13 m.value, txK.slot 14 m.tx, (natK .u64 8 18446744073709551615).slot 20 m.id, (natK .u32 4 4294967295).slot 21 m.index, (natK .u32 4 4294967295).slot 22 m.round, (intK 1 63).slot 23 m.bucket, (intK 1 3).slot 24 m.replica, (intK 1 3).slot 25 m.of, (natK .u32 4 4294967295).slot 26 m.inc, (intK 1 2).slot 27 m.vote, ansK.slot 28 m.answer, cpyK.slot 32 m.copy, arcK.slot 42 m.arc, (listK cpyK 64).slot 44 m.copies, posK.slot 45 m.pos, (intK 1 255).slot 47 m.hops]) (B := []) (off := 48) (listK_okay perK_okay (max := 12) (by decide)).fine (show Codes _ [.int .u64 12, .func (.func 132) #[] #[]] _ _ from listper_codes 24 perK_okay.len perK_okay.good per_codes 12 (by decide)) rfl (fun _ => rfl) M (fun h => hz h) hN hw hr hg hne (by omega) (Nat.le_of_ble_eq_true rfl) rfl rfl)
  clear M hz hN hw hr hg hne hl
  generalize step (listK perK 12).cod md l m.peers = r at *
  go_enter Tryz.func130, Tryz.ntmps130
  go_wp2_with fail
  refine CALL.out.mono ?_
  rintro e w' h
  rcases h.ended with ⟨ch, rfl, h⟩ | ⟨rfl, h⟩
  · exact ⟨rfl, h⟩
  · have HE := Lib.hid h
    clear h
    go_wp2_with fail
    go_end0
    exact HE.out

end Go.Proofs.YtngcbpgafjnfaaaGreatDoor
