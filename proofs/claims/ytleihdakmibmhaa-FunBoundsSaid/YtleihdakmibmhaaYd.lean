/- Lets, one in the other: how many may be. -/
import Derived.Test.YtleihdakmibmhaaFu
namespace Go.Proofs.Ytleihdakmibmhaa
open Go.RowKit

def preNs : Nat → List Nd
  | 0 => []
  | k + 1 => preNs k ++ [⟨4, 0, [2 * (k : Int) + 1, 2 * (k : Int) + 2]⟩, ⟨2, 0, []⟩]
def letsF (k : Nat) (p : Int) : Fd := ⟨p, preNs k ++ [⟨2, 0, []⟩]⟩
theorem preNs_len : ∀ k, (preNs k).length = 2 * k
  | 0 => rfl
  | k + 1 => by simp [preNs, preNs_len k]; omega
theorem preNs_at : ∀ {k i : Nat}, i < k → (preNs k)[2 * i]? = some ⟨4, 0, [2 * (i : Int) + 1, 2 * (i : Int) + 2]⟩ ∧ (preNs k)[2 * i + 1]? = some ⟨2, 0, []⟩
  | 0, _, h => by omega
  | k + 1, i, h => by
    rw [preNs]
    by_cases hik : i < k
    · rw [List.getElem?_append_left (by rw [preNs_len]; omega), List.getElem?_append_left (by rw [preNs_len]; omega)]
      exact preNs_at hik
    · obtain rfl : i = k := by omega
      rw [List.getElem?_append_right (by rw [preNs_len]; omega), List.getElem?_append_right (by rw [preNs_len]; omega), preNs_len]
      refine ⟨by rw [Nat.sub_self]; rfl, by rw [show 2 * i + 1 - 2 * i = 1 by omega]; rfl⟩
theorem letsF_len (k : Nat) (p : Int) : (letsF k p).ns.length = 2 * k + 1 := by simp [letsF, preNs_len]
theorem letsF_at {k i : Nat} (p : Int) (h : i < k) : (letsF k p).ns[2 * i]? = some ⟨4, 0, [2 * (i : Int) + 1, 2 * (i : Int) + 2]⟩ ∧ (letsF k p).ns[2 * i + 1]? = some ⟨2, 0, []⟩ := by
  have := preNs_at h
  simp only [letsF]
  rw [List.getElem?_append_left (by rw [preNs_len]; omega), List.getElem?_append_left (by rw [preNs_len]; omega)]
  exact this
theorem letsF_last (k : Nat) (p : Int) : (letsF k p).ns[2 * k]? = some ⟨2, 0, []⟩ := by
  simp only [letsF]
  rw [List.getElem?_append_right (by rw [preNs_len]; omega), preNs_len, Nat.sub_self]
  rfl
theorem adoptL_one {i : Nat} {op : Int} {n k : Nat} {c : Int} {r : List Int} {s : ST} (h1 : (i : Int) < c) (h2 : c < (n : Int)) (h3 : pa s c.toNat < 0) :
    adoptL i op n k (c :: r) s = adoptL i op n (k + 1) r (s.1.set c.toNat i, s.2.set c.toNat (va s i + if op = 4 ∧ k = 1 then 1 else 0)) := by
  rw [adoptL, if_neg (by unfold pa at h3; omega)]
  rfl
theorem fits_iff {i : Nat} {x : Nd} {s : ST} (h1 : i = 0 ∨ 0 ≤ pa s i) (h2 : va s i ≤ 64) (h3 : lenOK x.op x.l.length = true) (h4 : numOK x.op x.n (va s i) = true) : fitsB i x s = true := by
  unfold fitsB
  unfold pa at h1
  unfold va at h2 h4
  rw [h3, h4]
  have e1 : (decide (0 < i) && decide (s.1.getD i 0 < 0)) = false := by
    rcases h1 with h | h
    · rw [decide_eq_false (show ¬ 0 < i by omega)]; rfl
    · rw [decide_eq_false (show ¬ s.1.getD i 0 < 0 by omega), Bool.and_false]
  have e2 : decide (64 < s.2.getD i 0) = false := decide_eq_false (by omega)
  rw [e1, e2]
  rfl
structure LetI (k : Nat) (p : Int) (i : Nat) (st : ST) : Prop where
  run : runF (letsF k p) (2 * i) = .ok st
  l1 : st.1.length = 2 * k + 1
  l2 : st.2.length = 2 * k + 1
  up : 2 * i = 0 ∨ 0 ≤ pa st (2 * i)
  vars : va st (2 * i) = p + i
  free : ∀ j, 2 * i < j → j < 2 * k + 1 → pa st j = -1
theorem lets_run {k : Nat} {p : Int} : ∀ {i : Nat}, i ≤ k → p + i ≤ 65 → ∃ st, LetI k p i st
  | 0, _, _ => by
    have hl := letsF_len k p
    refine ⟨startS (letsF k p), rfl, by simp [startS, hl], by simp [startS, hl], .inl rfl, ?_, fun j h1 h2 => ?_⟩
    · simp [va, startS, letsF, List.getD_eq_getElem?_getD]
    · simp only [pa, startS, hl, List.getD_eq_getElem?_getD, List.getElem?_replicate, if_pos h2, Option.getD_some]
  | i + 1, hi, hp => by
    obtain ⟨st, h⟩ := lets_run (k := k) (p := p) (i := i) (by omega) (by omega)
    obtain ⟨a0, a1⟩ := letsF_at p (show i < k by omega)
    have hv : va st (2 * i) ≤ 64 := by rw [h.vars]; omega
    have hf : fitsB (2 * i) ⟨4, 0, [2 * (i : Int) + 1, 2 * (i : Int) + 2]⟩ st = true := fits_iff h.up hv (show lenOK 4 2 = true by decide) (by unfold numOK; simp [namesOp])
    have hlen := letsF_len k p
    have e1 : (2 * (i : Int) + 1).toNat = 2 * i + 1 := by omega
    have e2 : (2 * (i : Int) + 2).toNat = 2 * i + 2 := by omega
    have hA1 := adoptL_one (i := 2 * i) (op := 4) (n := (letsF k p).ns.length) (k := 0) (c := 2 * (i : Int) + 1) (r := [2 * (i : Int) + 2]) (s := st) (by omega) (by omega) (by rw [e1, h.free _ (by omega) (by omega)]; omega)
    rw [e1, show (if (4 : Int) = 4 ∧ (0 : Nat) = 1 then (1 : Int) else 0) = 0 from rfl, Int.add_zero] at hA1
    have q1 := fun j => pa_set (st := st) (c := 2 * i + 1) (j := j) (i := ((2 * i : Nat) : Int)) (v := va st (2 * i)) (by rw [h.l1]; omega)
    have q2 := fun j => va_set (st := st) (c := 2 * i + 1) (j := j) (i := ((2 * i : Nat) : Int)) (v := va st (2 * i)) (by rw [h.l2]; omega)
    have hA2 := adoptL_one (i := 2 * i) (op := 4) (n := (letsF k p).ns.length) (k := 0 + 1) (c := 2 * (i : Int) + 2) (r := []) (s := (st.1.set (2 * i + 1) ((2 * i : Nat) : Int), st.2.set (2 * i + 1) (va st (2 * i)))) (by omega) (by omega)
      (by rw [e2, q1, if_neg (by omega), h.free _ (by omega) (by omega)]; omega)
    rw [e2, q2, if_neg (by omega), show (if (4 : Int) = 4 ∧ (0 + 1 : Nat) = 1 then (1 : Int) else 0) = 1 from rfl] at hA2
    obtain ⟨s2, hs2⟩ : ∃ s, ((st.1.set (2 * i + 1) ((2 * i : Nat) : Int)).set (2 * i + 2) ((2 * i : Nat) : Int), (st.2.set (2 * i + 1) (va st (2 * i))).set (2 * i + 2) (va st (2 * i) + 1)) = s := ⟨_, rfl⟩
    have r1 := fun j => pa_set (st := (st.1.set (2 * i + 1) ((2 * i : Nat) : Int), st.2.set (2 * i + 1) (va st (2 * i)))) (c := 2 * i + 2) (j := j) (i := ((2 * i : Nat) : Int)) (v := va st (2 * i) + 1) (by simp [h.l1]; omega)
    have r2 := fun j => va_set (st := (st.1.set (2 * i + 1) ((2 * i : Nat) : Int), st.2.set (2 * i + 1) (va st (2 * i)))) (c := 2 * i + 2) (j := j) (i := ((2 * i : Nat) : Int)) (v := va st (2 * i) + 1) (by simp [h.l2]; omega)
    simp only [hs2] at r1 r2
    have hrun1 : runF (letsF k p) (2 * i + 1) = .ok s2 := by
      rw [runF_succ h.run a0]
      unfold stepN
      rw [if_pos hf, hA1, hA2, hs2]
      rfl
    have hf2 : fitsB (2 * i + 1) ⟨2, 0, []⟩ s2 = true := by
      refine fits_iff (.inr ?_) ?_ (by decide) (by unfold numOK; simp [namesOp])
      · rw [r1, if_neg (by omega), q1, if_pos rfl]; omega
      · rw [r2, if_neg (by omega), q2, if_pos rfl]; exact hv
    have hrun2 : runF (letsF k p) (2 * i + 1 + 1) = .ok s2 := by
      rw [runF_succ hrun1 a1]
      unfold stepN
      rw [if_pos hf2]
      rfl
    refine ⟨s2, by rw [show 2 * (i + 1) = 2 * i + 1 + 1 by omega]; exact hrun2, by rw [← hs2]; simp [h.l1], by rw [← hs2]; simp [h.l2], .inr ?_, ?_, fun j h1 h2 => ?_⟩
    · rw [show 2 * (i + 1) = 2 * i + 2 by omega, r1, if_pos rfl]; omega
    · rw [show 2 * (i + 1) = 2 * i + 2 by omega, r2, if_pos rfl, h.vars]; omega
    · rw [r1, if_neg (by omega), q1, if_neg (by omega)]; exact h.free j (by omega) h2
theorem lets_bounds {k : Nat} {p : Int} (h0 : 0 ≤ p) (h9 : p ≤ 9) (hk : k ≤ 99) : boundsB (letsF k p) = true := by
  unfold boundsB
  rw [letsF_len, Bool.and_eq_true]
  exact ⟨decide_eq_true ⟨h0, h9⟩, decide_eq_true ⟨by omega, by omega⟩⟩
theorem lets_out {k : Nat} {p : Int} (h : p < 0 ∨ 9 < p ∨ 99 < k) : whereF (letsF k p) = (0, 60) := by
  have hb : boundsB (letsF k p) = false := by
    cases hq : boundsB (letsF k p) with
    | false => rfl
    | true =>
      exfalso
      unfold boundsB at hq
      rw [letsF_len, Bool.and_eq_true, decide_eq_true_eq, decide_eq_true_eq] at hq
      obtain ⟨⟨a, b⟩, c, d⟩ := hq
      have e : (letsF k p).p = p := rfl
      omega
  unfold whereF placesF
  rw [hb]
  rfl
theorem lets_much {k : Nat} {p : Int} (h0 : 0 ≤ p) (h9 : p ≤ 9) (hk : k ≤ 99) (h : 64 < (k : Int) + p) : whereF (letsF k p) = (2 * (65 - p), 60) := by
  obtain ⟨i, hi⟩ : ∃ i : Nat, (i : Int) = 65 - p := ⟨(65 - p).toNat, by omega⟩
  obtain ⟨st, hst⟩ := lets_run (k := k) (p := p) (i := i) (by omega) (by omega)
  obtain ⟨x, hx⟩ : ∃ x, (letsF k p).ns[2 * i]? = some x := ⟨_, List.getElem?_eq_getElem (by rw [letsF_len]; omega)⟩
  have hf : fitsB (2 * i) x st = false := by
    have hv := hst.vars
    unfold va at hv
    unfold fitsB
    have : decide (64 < st.2.getD (2 * i) 0) = true := decide_eq_true (by omega)
    rw [this]
    simp
  have hr : runF (letsF k p) (2 * i + 1) = .bad (2 * i) := by
    rw [runF_succ hst.run hx]
    unfold stepN
    rw [if_neg (by rw [hf]; decide)]
  have hp := places_bad (lets_bounds h0 h9 hk) (k := 2 * i + 1) (by rw [letsF_len]; omega) hr
  unfold whereF
  rw [hp]
  simp only [Prod.mk.injEq, and_true]
  omega
theorem lets_fine {k : Nat} {p : Int} (h0 : 0 ≤ p) (h9 : p ≤ 9) (hk : k ≤ 99) (h : (k : Int) + p ≤ 64) : whereF (letsF k p) = (0, 0) ∧ depthF (letsF k p) (2 * (k : Int)) = ((k : Int) + p, 0) := by
  obtain ⟨st, hst⟩ := lets_run (k := k) (p := p) (i := k) (Nat.le_refl _) (by omega)
  have hf : fitsB (2 * k) ⟨2, 0, []⟩ st = true := fits_iff hst.up (by rw [hst.vars]; omega) (by decide) (by unfold numOK; simp [namesOp])
  have hr : runF (letsF k p) (2 * k + 1) = .ok st := by
    rw [runF_succ hst.run (letsF_last k p)]
    unfold stepN
    rw [if_pos hf]
    rfl
  have hp : placesF (letsF k p) = .ok st := by
    unfold placesF
    rw [if_pos (lets_bounds h0 h9 hk), letsF_len]
    exact hr
  refine ⟨by unfold whereF; rw [hp], ?_⟩
  unfold depthF
  rw [hp]
  simp only
  have hh : hasB (2 * (k : Int)) (letsF k p).ns.length = true := decide_eq_true (by rw [letsF_len]; omega)
  rw [if_pos hh]
  have hv := hst.vars
  unfold va at hv
  rw [show (2 * (k : Int)).toNat = 2 * k by omega, hv]
  simp only [Prod.mk.injEq, and_true]
  omega
end Go.Proofs.Ytleihdakmibmhaa
