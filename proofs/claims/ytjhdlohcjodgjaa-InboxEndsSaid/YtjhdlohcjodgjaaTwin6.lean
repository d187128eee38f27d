/- Due on either side, in one shape. -/
import Derived.Test.YtjhdlohcjodgjaaTwin3
namespace Go.Proofs.Ytjhdlohcjodgjaa
open Go.RowKit
set_option linter.unusedVariables false

/-- what Due comes to: the calls behind it, what is made again, what is given up -/
def DueOf (C : Cfg) (T : List Cal) (q : Int) (T' L1 L2 : List Cal) : Prop :=
  (timeB q = false ∧ T' = T ∧ L1 = [] ∧ L2 = []) ∨
  ∃ (now : Nat) (l : List Cal), q = (now : Int) ∧ now ≤ 1099511627776 ∧ l.Perm ((live T).filter fun x => decide (x.due ≤ now)) ∧ SortedBy cfDue l ∧ T' = (rRun C now T l).T ∧ L1 = (rRun C now T l).again ∧ L2 = (rRun C now T l).over
section
variable {w : World} {B hn gm rb cap : Nat} {ao : Option Addr} {T T' L1 L2 : List Cal} {C : Cfg} {q : Int}
theorem rRun_tries (C : Cfg) (now : Nat) (T l : List Cal) (hT : ∀ x ∈ T, x.tries ≤ C.tries) : ∀ x ∈ (rRun C now T l).T, x.tries ≤ C.tries := by
  have key : ∀ (l : List Cal) (r : RefR), (∀ x ∈ r.T, x.tries ≤ C.tries) → ∀ x ∈ (l.foldl (rStep C now) r).T, x.tries ≤ C.tries := by
    intro l
    induction l with
    | nil => intro r h; exact h
    | cons y t ih =>
      intro r h
      rw [List.foldl_cons]
      refine ih _ (fun x hx => ?_)
      unfold rStep at hx
      split at hx
      · rcases List.mem_or_eq_of_mem_set hx with h1 | h1
        · exact h x h1
        · subst h1; simp [Cal.ended]
      · rename_i hlt
        rcases List.mem_or_eq_of_mem_set hx with h1 | h1
        · exact h x h1
        · subst h1; simp only [triedC]; omega
  exact key l ⟨T, [], []⟩ hT
theorem DueOf.len (h : DueOf C T q T' L1 L2) : T'.length = T.length := by
  rcases h with ⟨_, rfl, _, _⟩ | ⟨now, l, _, _, _, _, rfl, _, _⟩
  · rfl
  · exact rRun_len C now T l
theorem DueOf.tries (h : DueOf C T q T' L1 L2) (hT : ∀ x ∈ T, x.tries ≤ C.tries) : ∀ x ∈ T', x.tries ≤ C.tries := by
  rcases h with ⟨_, rfl, _, _⟩ | ⟨now, l, _, _, _, _, rfl, _, _⟩
  · exact hT
  · exact rRun_tries C now T l hT
theorem DueOf.few (h : DueOf C T q T' L1 L2) : L1.length ≤ T.length ∧ L2.length ≤ T.length := by
  rcases h with ⟨_, _, rfl, rfl⟩ | ⟨now, l, _, _, hp, _, _, rfl, rfl⟩
  · simp
  · obtain ⟨e1, e2⟩ := rRun_lists C now T T l
    rw [e1, e2]
    have h1 := dueRun_lens C now T l
    have h2 : l.length ≤ T.length := by
      rw [hp.length_eq]
      exact Nat.le_trans (List.length_filter_le _ _) (List.length_filter_le _ _)
    omega
theorem owns_nought (w : World) (B : Nat) : w.ownsRow B 70 5 (.slice none 0 0) ([] : List Cal).length (lc []) := ⟨rfl, .inl ⟨rfl, rfl⟩⟩
theorem dueNodup {now : Nat} {l : List Cal} (hIds : IdsO 0 T) (hp : l.Perm ((live T).filter fun x => decide (x.due ≤ now))) : (l.map (·.id)).Nodup := by
  have e1 : (((live T).filter fun x => decide (x.due ≤ now)).map (·.id)).Nodup := by
    have hinc : T.Pairwise fun a b => a.id < b.id := by
      rw [List.pairwise_iff_getElem]
      intro i j hi hj hij
      have := hIds i _ (List.getElem?_eq_getElem hi); have := hIds j _ (List.getElem?_eq_getElem hj); omega
    rw [List.nodup_iff_pairwise_ne, List.pairwise_map]
    exact (hinc.sublist (List.filter_sublist.trans List.filter_sublist)).imp fun h => by omega
  exact (hp.map (·.id)).nodup_iff.2 e1
theorem dueMem {now : Nat} {l : List Cal} (hIds : IdsO 0 T) (hp : l.Perm ((live T).filter fun x => decide (x.due ≤ now))) : ∀ x ∈ l, T[x.id - 1]? = some x ∧ 0 < x.tries ∧ 1 ≤ x.id := fun x hx => by
  have h1 := hp.mem_iff.1 hx
  rw [List.mem_filter, live_mem] at h1
  obtain ⟨i, hi, e⟩ := List.getElem_of_mem h1.1.1
  have h2 := List.getElem?_eq_getElem hi
  rw [e] at h2
  have h3 := hIds i x h2
  exact ⟨by rw [show x.id - 1 = i by omega]; exact h2, h1.1.2, by omega⟩
theorem adue_u (q : Int) (w : World) (h : CalsW w B hn gm (live T) C T.length) (hI : IdsO 0 T) : Calls Try.prog 26 #[.pointer (some ⟨hn, 0, none⟩), .int .i64 q] w fun e w' =>
    ∃ T' L1 L2 va vo, DueOf C T q T' L1 L2 ∧ e = .returned (.tuple #[va, vo]) ∧ CalsW w' B hn gm (live T') C T'.length ∧ Keep [gm] w w' ∧
      w'.ownsRow w.heap.size 70 5 va L1.length (lc L1) ∧ w'.ownsRow w.heap.size 70 5 vo L2.length (lc L2) ∧ Apart va vo := by
  cases ht : timeB q with
  | false =>
    refine (due_bad q ht _ w).mono fun e w' ⟨h1, h2⟩ => ⟨T, [], [], _, _, .inl ⟨ht, rfl, rfl, rfl⟩, h1, h.below h2, Keep.of_below h2 _, owns_nought _ _, owns_nought _ _, ?_⟩
    intro g hg
    cases hg
  | true =>
    obtain ⟨now, rfl, hn⟩ : ∃ now : Nat, q = (now : Int) ∧ now ≤ 1099511627776 := by
      unfold timeB at ht
      simp at ht
      exact ⟨q.toNat, by omega, by omega⟩
    refine (due_any now hn w h).mono ?_
    rintro e w' ⟨l, va, vo, hp, hs, he, hc, hk, o1, o2, ha⟩
    obtain ⟨e1, e2⟩ := rRun_lists C now T (live T) l
    have e3 : live (rRun C now T l).T = (dueRun C now (live T) l).S := rRun_live C now l ⟨T, [], []⟩ ⟨live T, [], []⟩ hI (dueMem hI hp) (dueNodup hI hp) rfl
    refine ⟨_, _, _, va, vo, .inr ⟨now, l, rfl, hn, hp, hs, rfl, rfl, rfl⟩, he, ?_, hk, ?_, ?_, ha⟩
    · rw [e3, rRun_len]; exact hc
    · rw [e1]; exact o1
    · rw [e2]; exact o2
theorem rdue_u (d : DueOf C T q T' L1 L2) (w : World) (h : RefW w B rb ao cap T C) (hT : T.length ≤ 1000) (htr : ∀ x ∈ T, x.tries ≤ C.tries) : Calls Try.prog 34 #[.pointer (some ⟨rb, 0, none⟩), .int .i64 q] w fun e w' =>
    ∃ va vo, e = .returned (.tuple #[va, vo]) ∧ RefW w' B rb ao cap T' C ∧ Keep (blk ao) w w' ∧
      w'.ownsRow w.heap.size 70 5 va L1.length (lc L1) ∧ w'.ownsRow w.heap.size 70 5 vo L2.length (lc L2) := by
  rcases d with ⟨ht, rfl, rfl, rfl⟩ | ⟨now, l, rfl, hn, hp, hs, rfl, rfl, rfl⟩
  · exact (rdue_bad q ht _ w).mono fun e w' ⟨h1, h2⟩ => ⟨_, _, h1, h2 ▸ h, h2 ▸ Keep.refl _ _, owns_nought _ _, owns_nought _ _⟩
  · exact rdue_any now hn w h hT htr l hp hs
theorem adue_s (q : Int) (w : World) (h : CalsW w B hn gm (live T) C T.length) (hI : IdsO 0 T) : Calls Try.prog 26 #[.pointer (some ⟨hn, 0, none⟩), .int .i64 q] w fun e w' =>
    ∃ T' L1 L2 a1 n1 c1 a2 n2 c2, e = .returned (.tuple #[.slice a1 n1 c1, .slice a2 n2 c2]) ∧ DueOf C T q T' L1 L2 ∧ L1.length = n1 ∧ L2.length = n2 ∧ CalsW w' B hn gm (live T') C T'.length ∧ Keep [gm] w w' ∧
      w'.ownsRow w.heap.size 70 5 (.slice a1 n1 c1) n1 (lc L1) ∧ w'.ownsRow w.heap.size 70 5 (.slice a2 n2 c2) n2 (lc L2) ∧ (∀ g ∈ blk a1, g ∉ blk a2) := by
  refine (adue_u q w h hI).mono ?_
  rintro e w' ⟨T', L1, L2, va, vo, hd, rfl, hc, hk, o1, o2, ha⟩
  obtain ⟨a1, c1, rfl, _, _⟩ := owns_shape o1
  obtain ⟨a2, c2, rfl, _, _⟩ := owns_shape o2
  refine ⟨T', L1, L2, a1, _, c1, a2, _, c2, rfl, hd, rfl, rfl, hc, hk, o1, o2, fun g hg hm => ?_⟩
  cases a1 with
  | none => simp [blk] at hg
  | some x =>
    cases a2 with
    | none => simp [blk] at hm
    | some y =>
      simp only [blk, List.mem_singleton] at hg hm
      exact ha g (by simp [Value.ownBlock, hg]) (by simp [Value.ownBlock, hm])
theorem rdue_s {n1 n2 : Nat} (d : DueOf C T q T' L1 L2) (h1 : L1.length = n1) (h2 : L2.length = n2) (w : World) (h : RefW w B rb ao cap T C) (hT : T.length ≤ 1000) (htr : ∀ x ∈ T, x.tries ≤ C.tries) : Calls Try.prog 34 #[.pointer (some ⟨rb, 0, none⟩), .int .i64 q] w fun e w' =>
    ∃ a1 c1 a2 c2, e = .returned (.tuple #[.slice a1 n1 c1, .slice a2 n2 c2]) ∧ RefW w' B rb ao cap T' C ∧ Keep (blk ao) w w' ∧
      w'.ownsRow w.heap.size 70 5 (.slice a1 n1 c1) n1 (lc L1) ∧ w'.ownsRow w.heap.size 70 5 (.slice a2 n2 c2) n2 (lc L2) := by
  refine (rdue_u d w h hT htr).mono ?_
  rintro e w' ⟨va, vo, rfl, hc, hk, o1, o2⟩
  obtain ⟨a1, c1, rfl, _, _⟩ := owns_shape o1
  obtain ⟨a2, c2, rfl, _, _⟩ := owns_shape o2
  subst h1 h2
  exact ⟨a1, c1, a2, c2, rfl, hc, hk, o1, o2⟩
theorem rsame_n {B1 B2 n : Nat} {va vb : Value} {l : List Cal} (hl : l.length = n) (w : World) (h1 : w.ownsRow B1 70 5 va n (lc l)) (h2 : w.ownsRow B2 70 5 vb n (lc l)) (hT : n ≤ 1000) :
    Calls Try.prog 19 #[va, vb] w fun e w' => e = .returned (.bool true) ∧ Below w.heap.size w w' := by
  subst hl
  exact rsame_any w h1 h2 hT
end
end Go.Proofs.Ytjhdlohcjodgjaa
