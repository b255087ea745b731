/- A function that may be, as a tree: the one above each node, the variables. -/
import Derived.Test.YtleihdakmibmhaaFo
namespace Go.Proofs.Ytleihdakmibmhaa
open Go.RowKit

def pa (st : ST) (j : Nat) : Int := st.1.getD j 0
def va (st : ST) (j : Nat) : Int := st.2.getD j 0
theorem pa_set {st : ST} {c j : Nat} {i v : Int} (hc : c < st.1.length) : pa (st.1.set c i, st.2.set c v) j = if j = c then i else pa st j := by
  unfold pa
  simp only [List.getD_eq_getElem?_getD]
  by_cases h : j = c
  · subst h; rw [if_pos rfl, List.getElem?_set_self hc]; rfl
  · rw [if_neg h, List.getElem?_set_ne (Ne.symm h)]
theorem va_set {st : ST} {c j : Nat} {i v : Int} (hc : c < st.2.length) : va (st.1.set c i, st.2.set c v) j = if j = c then v else va st j := by
  unfold va
  simp only [List.getD_eq_getElem?_getD]
  by_cases h : j = c
  · subst h; rw [if_pos rfl, List.getElem?_set_self hc]; rfl
  · rw [if_neg h, List.getElem?_set_ne (Ne.symm h)]
theorem adoptL_cons {i : Nat} {op : Int} {n k : Nat} {c : Int} {r : List Int} {s1 s2 : ST} (h : adoptL i op n k (c :: r) s1 = some s2) :
    (i : Int) < c ∧ c < (n : Int) ∧ pa s1 c.toNat < 0 ∧ adoptL i op n (k + 1) r (s1.1.set c.toNat i, s1.2.set c.toNat (va s1 i + if op = 4 ∧ k = 1 then 1 else 0)) = some s2 := by
  rw [adoptL] at h
  split at h
  · cases h
  · rename_i hn
    refine ⟨by omega, by omega, ?_, h⟩
    unfold pa
    omega
theorem adopt_keep {i : Nat} {op : Int} {n : Nat} : ∀ {l : List Int} {k : Nat} {s1 s2 : ST}, adoptL i op n k l s1 = some s2 → s1.1.length = n → s1.2.length = n →
    (s2.1.length = n ∧ s2.2.length = n) ∧ ∀ j : Nat, (0 ≤ pa s1 j ∨ (j : Int) ∉ l) → pa s2 j = pa s1 j ∧ va s2 j = va s1 j
  | [], _, s1, s2, h, h1, h2 => by
    simp only [adoptL, Option.some.injEq] at h
    subst h
    exact ⟨⟨h1, h2⟩, fun _ _ => ⟨rfl, rfl⟩⟩
  | c :: r, k, s1, s2, h, h1, h2 => by
    obtain ⟨g1, g2, g3, g4⟩ := adoptL_cons h
    obtain ⟨e1, e2⟩ := adopt_keep g4 (by simpa using h1) (by simpa using h2)
    refine ⟨e1, fun j hj => ?_⟩
    have hne : j ≠ c.toNat := by
      rintro rfl
      rcases hj with hj | hj
      · omega
      · exact hj (by simp; left; omega)
    have q1 := pa_set (st := s1) (c := c.toNat) (j := j) (i := (i : Int)) (v := va s1 i + if op = 4 ∧ k = 1 then 1 else 0) (by rw [h1]; omega)
    have q2 := va_set (st := s1) (c := c.toNat) (j := j) (i := (i : Int)) (v := va s1 i + if op = 4 ∧ k = 1 then 1 else 0) (by rw [h2]; omega)
    rw [if_neg hne] at q1 q2
    have := e2 j (by
      rcases hj with hj | hj
      · left; rw [q1]; exact hj
      · right; exact fun hm => hj (by simp [hm]))
    rw [q1, q2] at this
    exact this
theorem adopt_kid {i : Nat} {op : Int} {n : Nat} : ∀ {l : List Int} {k : Nat} {s1 s2 : ST}, adoptL i op n k l s1 = some s2 → s1.1.length = n → s1.2.length = n →
    ∀ (m : Nat) (c : Int), l[m]? = some c → pa s1 c.toNat < 0 ∧ pa s2 c.toNat = i ∧ va s2 c.toNat = va s1 i + (if op = 4 ∧ k + m = 1 then 1 else 0) ∧ ∀ m', l[m']? = some c → m' = m
  | [], _, _, _, _, _, _, m, c, hm => by simp at hm
  | d :: r, k, s1, s2, h, h1, h2, m, c, hm => by
    obtain ⟨g1, g2, g3, g4⟩ := adoptL_cons h
    have k1 := (adopt_keep g4 (by simpa using h1) (by simpa using h2)).2
    have q1 := fun j => pa_set (st := s1) (c := d.toNat) (j := j) (i := (i : Int)) (v := va s1 i + if op = 4 ∧ k = 1 then 1 else 0) (by rw [h1]; omega)
    have q2 := fun j => va_set (st := s1) (c := d.toNat) (j := j) (i := (i : Int)) (v := va s1 i + if op = 4 ∧ k = 1 then 1 else 0) (by rw [h2]; omega)
    have ih := adopt_kid g4 (by simpa using h1) (by simpa using h2)
    have hdr : ∀ m', r[m']? ≠ some d := fun m' hm' => by
      have := (ih m' d hm').1
      rw [q1, if_pos rfl] at this
      omega
    cases m with
    | zero =>
      simp only [List.getElem?_cons_zero, Option.some.injEq] at hm
      subst hm
      have := k1 d.toNat (.inl (by rw [q1, if_pos rfl]; omega))
      rw [q1, q2, if_pos rfl, if_pos rfl] at this
      refine ⟨g3, this.1, this.2, fun m' hm' => ?_⟩
      cases m' with
      | zero => rfl
      | succ m' => exact absurd (by simpa using hm') (hdr m')
    | succ m =>
      have hm' : r[m]? = some c := by simpa using hm
      obtain ⟨a1, a2, a3, a4⟩ := ih m c hm'
      have hcd : c.toNat ≠ d.toNat := by
        intro e
        have := (adoptL_kids g4 c (List.mem_of_getElem? hm'))
        rw [q1, if_pos e] at a1
        omega
      rw [q1, if_neg hcd] at a1
      rw [q2, if_neg (by omega)] at a3
      refine ⟨a1, a2, ?_, fun m'' h'' => ?_⟩
      · rw [a3]
        congr 1
        have : (k + 1 + m = 1) = (k + (m + 1) = 1) := by rw [eq_iff_iff]; omega
        simp only [this]
      · cases m'' with
        | zero =>
          simp only [List.getElem?_cons_zero, Option.some.injEq] at h''
          exact absurd (by rw [h'']) hcd
        | succ m'' => rw [a4 m'' (by simpa using h'')]

/-- What is known behind k nodes. -/
structure RunP (F : Fd) (k : Nat) (st : ST) : Prop where
  l1 : st.1.length = F.ns.length
  l2 : st.2.length = F.ns.length
  root : pa st 0 = -1 ∧ va st 0 = F.p
  kid : ∀ (i : Nat) (x : Nd) (m : Nat) (c : Int), i < k → F.ns[i]? = some x → x.l[m]? = some c → pa st c.toNat = i ∧ va st c.toNat = va st i + (if x.op = 4 ∧ m = 1 then 1 else 0)
  ge : ∀ i : Nat, 0 < i → i < k → 0 ≤ pa st i
  par : ∀ j : Nat, 0 ≤ pa st j → j < F.ns.length → ∃ (i : Nat) (x : Nd), i < k ∧ F.ns[i]? = some x ∧ (j : Int) ∈ x.l
theorem runP {F : Fd} (h0 : 1 ≤ F.ns.length) : ∀ {k : Nat} {st : ST}, k ≤ F.ns.length → runF F k = .ok st → RunP F k st
  | 0, st, _, h => by
    simp only [runF, Out.ok.injEq] at h
    subst h
    refine ⟨by simp [startS], by simp [startS], ⟨?_, ?_⟩, fun i x m c hi => by omega, fun i hi hi' => by omega, fun j hj hl => ?_⟩
    · simp [pa, startS, List.getD_eq_getElem?_getD, show 0 < F.ns.length by omega]
    · simp [va, startS, List.getD_eq_getElem?_getD, show 0 < F.ns.length by omega]
    · simp [pa, startS, List.getD_eq_getElem?_getD, hl] at hj
  | k + 1, s2, hk, h => by
    obtain ⟨x, hx⟩ : ∃ x, F.ns[k]? = some x := ⟨_, List.getElem?_eq_getElem (by omega)⟩
    obtain ⟨s1, s2', hr1, hr2, hs⟩ := runF_all h k x (by omega) hx
    rw [h] at hr2
    simp only [Out.ok.injEq] at hr2
    subst hr2
    have ih := runP h0 (by omega) hr1
    obtain ⟨hf, ha⟩ := stepN_some hs
    obtain ⟨⟨e1, e2⟩, hkeep⟩ := adopt_keep ha ih.l1 ih.l2
    have hkid := adopt_kid ha ih.l1 ih.l2
    have hgt := adoptL_kids ha
    have low : ∀ j : Nat, j ≤ k → pa s2 j = pa s1 j ∧ va s2 j = va s1 j := fun j hj => hkeep j (.inr fun hm => by have := hgt _ hm; omega)
    have hpk : 0 < k → 0 ≤ pa s1 k := fun hk0 => by
      unfold fitsB at hf
      simp only [Bool.and_eq_true, Bool.not_eq_true', Bool.and_eq_false_iff, decide_eq_false_iff_not] at hf
      have := hf.1.1.1
      unfold pa
      omega
    refine ⟨e1, e2, ⟨(low 0 (by omega)).1.trans ih.root.1, (low 0 (by omega)).2.trans ih.root.2⟩, fun i y m c hi hy hm => ?_, fun i h1 h2 => ?_, fun j hj hl => ?_⟩
    · by_cases hik : i < k
      · obtain ⟨g1, g2⟩ := ih.kid i y m c hik hy hm
        obtain ⟨q1, q2⟩ := hkeep c.toNat (.inl (by rw [g1]; omega))
        exact ⟨q1.trans g1, by rw [q2, g2, (low i (by omega)).2]⟩
      · obtain rfl : i = k := by omega
        rw [hx] at hy
        cases hy
        obtain ⟨_, g1, g2, _⟩ := hkid m c hm
        refine ⟨g1, ?_⟩
        rw [g2, (low i (Nat.le_refl _)).2]
        simp only [Nat.zero_add]
    · rw [(low i (by omega)).1]
      by_cases hik : i < k
      · exact ih.ge i h1 hik
      · obtain rfl : i = k := by omega
        exact hpk h1
    · by_cases hm : (j : Int) ∈ x.l
      · exact ⟨k, x, by omega, hx, hm⟩
      · rw [(hkeep j (.inr hm)).1] at hj
        obtain ⟨i, y, g1, g2, g3⟩ := ih.par j hj hl
        exact ⟨i, y, by omega, g2, g3⟩
theorem placesP {F : Fd} {st : ST} (h : placesF F = .ok st) : RunP F F.ns.length st := by
  obtain ⟨hb, hr⟩ := places_ok h
  exact runP (tree_of h).one (Nat.le_refl _) hr
end Go.Proofs.Ytleihdakmibmhaa
