/- Who goes in turn waits no longer than there are threads. -/
import Derived.Test.YtchmoalcjbolbaaFb
namespace Go.Proofs.Ytchmoalcjbolbaa

theorem find_first : ∀ (xs : List Int) (p : Int → Bool) (s : Int), xs.Pairwise (· < ·) → xs.find? p = some s → s ∈ xs ∧ p s = true ∧ ∀ x ∈ xs, p x = true → s ≤ x
  | [], p, s, _, h => by simp at h
  | y :: r, p, s, hp, h => by
    obtain ⟨h1, h2⟩ := List.pairwise_cons.1 hp
    rw [List.find?_cons] at h
    split at h
    · rename_i hy
      cases h
      refine ⟨List.mem_cons_self .., hy, fun x hx _ => ?_⟩
      rcases List.mem_cons.1 hx with rfl | hx
      · exact Int.le_refl _
      · have := h1 x hx; omega
    · rename_i hy
      obtain ⟨h3, h4, h5⟩ := find_first r p s h2 h
      refine ⟨List.mem_cons_of_mem _ h3, h4, fun x hx hpx => ?_⟩
      rcases List.mem_cons.1 hx with rfl | hx
      · rw [hpx] at hy; cases hy
      · exact h5 x hx hpx

/-- The next one after a. -/
theorem next_spec {a : Int} {runs : List Int} (hp : runs.Pairwise (· < ·)) (hne : runs ≠ []) :
    (nextOf a runs).2 = true ∧ (nextOf a runs).1 ∈ runs ∧ ((a < (nextOf a runs).1 ∧ ∀ x ∈ runs, a < x → (nextOf a runs).1 ≤ x) ∨ ((∀ x ∈ runs, x ≤ a) ∧ ∀ x ∈ runs, (nextOf a runs).1 ≤ x)) := by
  unfold nextOf
  cases hf : runs.find? (fun x => decide (a < x)) with
  | some s =>
    obtain ⟨h1, h2, h3⟩ := find_first _ _ _ hp hf
    refine ⟨rfl, h1, .inl ⟨by simpa using h2, fun x hx hax => h3 x hx (by simpa using hax)⟩⟩
  | none =>
    cases runs with
    | nil => exact absurd rfl hne
    | cons y r =>
      have hn : ∀ x ∈ y :: r, x ≤ a := fun x hx => by
        have := List.find?_eq_none.1 hf x hx
        simpa using this
      obtain ⟨h1, _⟩ := List.pairwise_cons.1 hp
      refine ⟨rfl, List.mem_cons_self .., .inr ⟨hn, fun x hx => ?_⟩⟩
      rcases List.mem_cons.1 hx with rfl | hx
      · exact Int.le_refl _
      · have := h1 x hx
        show y ≤ x
        omega

/-- How far it is from x to t, going up and around. -/
def farTo (n t x : Int) : Int := if x < t then t - x - 1 else t - x - 1 + n
theorem far_less {n t a s : Int} {runs : List Int} (hp : runs.Pairwise (· < ·)) (hr : ∀ x ∈ runs, 0 ≤ x ∧ x < n) (ha : 0 ≤ a ∧ a < n) (ht : t ∈ runs) (hs : s = (nextOf a runs).1) (hne : s ≠ t) : farTo n t s < farTo n t a := by
  obtain ⟨_, h1, h2⟩ := next_spec (a := a) hp (List.ne_nil_of_mem ht)
  rw [← hs] at h1 h2
  have b1 := hr t ht
  have b2 := hr s h1
  unfold farTo
  rcases h2 with ⟨h3, h4⟩ | ⟨h3, h4⟩
  · have h5 := h4 t ht
    split <;> split <;> omega
  · have h5 := h3 t ht
    have h6 := h4 t ht
    split <;> split <;> omega

structure RunOK (n : Nat) (lr : List Tn) (last : Int) : Prop where
  each : ∀ x ∈ lr, x.runs.Pairwise (· < ·) ∧ (∀ t ∈ x.runs, 0 ≤ t ∧ t < (n : Int)) ∧ x.took ∈ x.runs ∧ x.runs.length ≤ n
  next : ∀ (i : Nat) x y, lr[i]? = some x → lr[i + 1]? = some y → y.took = (nextOf x.took y.runs).1
  last : ∀ x, lr.getLast? = some x → last = x.took
theorem RunOK.nil (n : Nat) (last : Int) : RunOK n [] last := ⟨by simp, by simp, by simp⟩
theorem RunOK.step {n : Nat} {lr : List Tn} {last : Int} {runs : List Int} (h : RunOK n lr last) (hp : runs.Pairwise (· < ·)) (hr : ∀ t ∈ runs, 0 ≤ t ∧ t < (n : Int)) (hl : runs.length ≤ n) (hne : runs ≠ []) :
    RunOK n (lr ++ [⟨runs, (nextOf last runs).1⟩]) (nextOf last runs).1 := by
  refine ⟨?_, ?_, ?_⟩
  · intro x hx
    rcases List.mem_append.1 hx with hx | hx
    · exact h.each x hx
    · simp at hx
      subst hx
      exact ⟨hp, hr, (next_spec hp hne).2.1, hl⟩
  · intro i x y hx hy
    rcases Nat.lt_or_ge (i + 1) lr.length with hi | hi
    · rw [List.getElem?_append_left hi] at hy
      rw [List.getElem?_append_left (by omega)] at hx
      exact h.next i x y hx hy
    · have hlt := (List.getElem?_eq_some_iff.1 hy).1
      simp at hlt
      have e : i + 1 = lr.length := by omega
      rw [List.getElem?_append_right (by omega), e] at hy
      simp at hy
      subst hy
      rw [List.getElem?_append_left (by omega)] at hx
      have := h.last x (by rw [List.getLast?_eq_getElem?, ← e]; simpa using hx)
      rw [this]
  · intro x hx
    simp at hx
    subst hx
    rfl

theorem RunOK.valid {n : Nat} {lr : List Tn} {last : Int} (h : RunOK n lr last) : AllValid lr := fun x hx => by
  obtain ⟨h1, h2, h3, _⟩ := h.each x hx
  exact valid_of h1 (fun t ht => by have := h2 t ht; omega) h3

theorem RunOK.fair {n : Nat} {lr : List Tn} {last : Int} (h : RunOK n lr last) (hn : 1 ≤ n) : fairOf (n : Int) lr = true := by
  rw [fairOf_iff h.valid n hn]
  intro i t hs
  -- the distance falls from turn to turn
  have key : ∀ m, m < n → ∃ x, lr[i + m]? = some x ∧ 0 ≤ x.took ∧ x.took < (n : Int) ∧ x.took ≠ t ∧ farTo n t x.took + (m : Int) + 2 ≤ (n : Int) ∧ 0 ≤ t ∧ t < (n : Int) := by
    intro m
    induction m with
    | zero =>
      intro hm
      obtain ⟨x, hx, ht, hne⟩ := hs 0 hm
      obtain ⟨h1, h2, h3, _⟩ := h.each x (List.mem_of_getElem? hx)
      have b1 := h2 t ht
      have b2 := h2 _ h3
      refine ⟨x, hx, b2.1, b2.2, hne, ?_, b1.1, b1.2⟩
      unfold farTo
      split <;> omega
    | succ m ih =>
      intro hm
      obtain ⟨x, hx, c1, c2, c3, c4, c5, c6⟩ := ih (by omega)
      obtain ⟨y, hy, ht, hne⟩ := hs (m + 1) hm
      obtain ⟨h1, h2, h3, _⟩ := h.each y (List.mem_of_getElem? hy)
      have b2 := h2 _ h3
      have hy' : lr[i + m + 1]? = some y := hy
      have hlt := far_less (n := (n : Int)) (t := t) (a := x.took) h1 h2 ⟨c1, c2⟩ ht (h.next (i + m) x y hx hy') hne
      exact ⟨y, hy, b2.1, b2.2, hne, by omega, c5, c6⟩
  obtain ⟨x, _, c1, c2, c3, c4, c5, c6⟩ := key (n - 1) (by omega)
  unfold farTo at c4
  split at c4 <;> omega

/-- The run with l is fair just if no longest wait reaches w. -/
theorem fair_best {l : List Tn} (hv : AllValid l) (w : Int) (hw : 1 ≤ w) : fairOf w l = true ↔ ∀ t, (bestTo l t l.length : Int) < w := by
  have hu := unfair_iff hv w hw
  have hb := badAt_none hv
  have e1 : decide ((1 : Int) ≤ w) = true := by simpa using hw
  have best : ∀ (t : Int) (j : Nat), (∀ i, i ≤ j → waitTo l t i ≤ bestTo l t j) ∧ ∃ i, i ≤ j ∧ bestTo l t j = waitTo l t i := by
    intro t j
    induction j with
    | zero => exact ⟨fun i hi => by
        have e : i = 0 := by omega
        subst e
        exact Nat.le_refl _, 0, Nat.le_refl _, rfl⟩
    | succ j ih =>
      obtain ⟨h1, k, hk, h2⟩ := ih
      rw [bestTo_succ]
      refine ⟨fun i hi => ?_, ?_⟩
      · rcases Nat.lt_or_ge i (j + 1) with h3 | h3
        · have := h1 i (by omega); omega
        · obtain rfl : i = j + 1 := by omega
          omega
      · rcases Nat.lt_or_ge (bestTo l t j) (waitTo l t (j + 1)) with h3 | h3
        · exact ⟨j + 1, Nat.le_refl _, by omega⟩
        · exact ⟨k, by omega, by omega⟩
  unfold fairOf
  rw [hb, e1]
  simp only [Option.isNone_none, Bool.and_self, Bool.true_and, Bool.not_eq_true', decide_eq_false_iff_not]
  rw [hu]
  constructor
  · intro h t
    obtain ⟨k, hk, h2⟩ := (best t l.length).2
    refine Int.not_le.1 fun hle => h ⟨k, t, hk, by omega⟩
  · rintro h ⟨j, t, hj, hle⟩
    have h1 := (best t l.length).1 j hj
    have h2 := h t
    omega
end Go.Proofs.Ytchmoalcjbolbaa
