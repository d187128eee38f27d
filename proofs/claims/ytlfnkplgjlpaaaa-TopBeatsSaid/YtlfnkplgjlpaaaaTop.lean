/- TopBeats: the state between two beats; its arithmetic. -/
import Derived.Test.YtlfnkplgjlpaaaaClk
namespace Go.Proofs.Ytlfnkplgjlpaaaa
open Go.RowKit Go.Sort
set_option linter.unusedVariables false

/-- bools lie from ao on -/
def BoolsRd (W : World) (ao : Option Addr) (l : List Bool) : Prop := ∀ (j : Nat) (z : Bool), l[j]? = some z → ∃ g o, ao = some ⟨g, o, none⟩ ∧ g < W.heap.size ∧ W.cell? ⟨g, o + j, none⟩ = some (.bool z)
theorem BoolsRd.below {W W' : World} {ao : Option Addr} {l : List Bool} (h : BoolsRd W ao l) (b : Below W.heap.size W W') : BoolsRd W' ao l := fun j z hj => by
  obtain ⟨g, o, e, h0, h1⟩ := h j z hj
  exact ⟨g, o, e, Nat.lt_of_lt_of_le h0 b.size, (b.cell h0).trans h1⟩
/-- two clocks and a detector, apart -/
structure Tb (w : World) (B hn hm ht : Nat) (Bs : List Nat) (nd : Nd) (r1 r2 heard world : Nat) : Prop where
  det : Det w B hn Bs [nd] 1
  cm : Ck w hm r1 (heard * r1)
  ct : Ck w ht r2 (world * r2)
  am : hm ∉ Bs
  at_ : ht ∉ Bs
  ne : hm ≠ ht
section
variable {w w' : World} {B hn hm ht : Nat} {Bs : List Nat} {nd : Nd} {r1 r2 heard world : Nat}
theorem Tb.below (h : Tb w B hn hm ht Bs nd r1 r2 heard world) (b : Below w.heap.size w w') : Tb w' B hn hm ht Bs nd r1 r2 heard world :=
  ⟨h.det.below b, h.cm.below b, h.ct.below b, h.am, h.at_, h.ne⟩
theorem Tb.turned {n2 : Nd} (h : Tb w B hn hm ht Bs nd r1 r2 heard world) (hd : Det w' B hn Bs [n2] 1) (t : Turned Bs Bs w w') : Tb w' B hn hm ht Bs n2 r1 r2 heard world :=
  ⟨hd, h.cm.keep t.keep h.am, h.ct.keep t.keep h.at_, h.am, h.at_, h.ne⟩
theorem Tb.passM (h : Tb w B hn hm ht Bs nd r1 r2 heard world) {h2 : Nat} (hc : Ck w' hm r1 (h2 * r1)) (k : Keep [hm] w w') : Tb w' B hn hm ht Bs nd r1 r2 h2 world :=
  ⟨h.det.keep k (fun q hq hm => h.am (by simp at hm; exact hm ▸ hq)), hc, h.ct.keep k (by simpa using h.ne.symm), h.am, h.at_, h.ne⟩
theorem Tb.passT (h : Tb w B hn hm ht Bs nd r1 r2 heard world) {h2 : Nat} (hc : Ck w' ht r2 (h2 * r2)) (k : Keep [ht] w w') : Tb w' B hn hm ht Bs nd r1 r2 heard h2 :=
  ⟨h.det.keep k (fun q hq hm => h.at_ (by simp at hm; exact hm ▸ hq)), h.cm.keep k (by simpa using h.ne), hc, h.am, h.at_, h.ne⟩
end
theorem mul_bd {a r k : Nat} (ha : a ≤ k) (hr : r ≤ 1100) : a * r ≤ k * 1100 := Nat.mul_le_mul ha hr
/-- how much time goes by on a clock -/
theorem tick_gap {h1 h2 r d : Nat} (h : h1 ≤ h2) (hd : h2 ≤ h1 + d) (hr : r ≤ 1100) : h1 * r / 1000 ≤ h2 * r / 1000 ∧ h2 * r / 1000 ≤ h1 * r / 1000 + (d * 1100 / 1000 + 1) := by
  obtain ⟨e, rfl⟩ : ∃ e, h2 = h1 + e := ⟨h2 - h1, by omega⟩
  rw [Nat.add_mul]
  have h3 : e * r ≤ d * 1100 := Nat.mul_le_mul (by omega) hr
  generalize e * r = y at *
  generalize h1 * r = x at *
  omega
/-- a clock that has not shown 1000 more -/
theorem due_gap {w0 d r : Nat} (hr : 900 ≤ r) (h : (w0 + d) * r / 1000 < w0 * r / 1000 + 1000) : d ≤ 1111 ∧ (w0 + d) * r < (w0 * r / 1000 + 1000) * 1000 := by
  have h1 : (w0 + d) * r = w0 * r + d * r := Nat.add_mul _ _ _
  rw [h1] at h ⊢
  have h2 : d * 900 ≤ d * r := Nat.mul_le_mul_left d hr
  generalize d * r = y at *
  generalize w0 * r = x at *
  omega
theorem step_lt {w0 d s r due : Nat} (hr : 900 ≤ r) (hs : 1 ≤ s) (h : (w0 + d) * r < due * 1000) : due * 1000 - (w0 + (d + s)) * r < due * 1000 - (w0 + d) * r := by
  have h1 : (w0 + (d + s)) * r = (w0 + d) * r + s * r := by rw [← Nat.add_assoc, Nat.add_mul]
  have h2 : 1 * 900 ≤ s * r := Nat.mul_le_mul hs hr
  rw [h1]
  generalize s * r = y at *
  generalize (w0 + d) * r = x at *
  omega
/-- silent for good -/
theorem end_gap {h r : Nat} (hr : 900 ≤ r) : h * r / 1000 + 4097 ≤ (h + 5000) * r / 1000 := by
  rw [Nat.add_mul]
  have h2 : 5000 * 900 ≤ 5000 * r := Nat.mul_le_mul_left _ hr
  generalize 5000 * r = y at *
  generalize h * r = x at *
  omega
theorem susp_far {nd : Nd} {t : Nat} (h : nd.last + 4097 ≤ t) : nd.susp t = true := by
  have := nd.wait_hi
  unfold Nd.susp Nd.sil
  simp; omega
end Go.Proofs.Ytlfnkplgjlpaaaa
