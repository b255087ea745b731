/- What is told, and what is fair. -/
import Derived.Test.YtchmoalcjbolbaaMb
import Derived.Test.YtchmoalcjbolbaaP
namespace Go.Proofs.Ytchmoalcjbolbaa

theorem cntOf_unmet (t : Int) : ∀ evs, metB evs t = false → cntOf evs t = cnt0 := by
  intro evs h
  unfold cntOf
  have hs : ∀ e ∈ evs, e.t ≠ t := by
    intro e he ht
    unfold metB at h
    have := List.any_eq_false.1 h e he
    simp [ht] at this
  have key : ∀ (es : List Ev), (∀ e ∈ es, e.t ≠ t) → es.foldl (cntStep t) cnt0 = cnt0 := by
    intro es
    induction es with
    | nil => intro _; rfl
    | cons e r ih =>
      intro he
      have h1 : cntStep t cnt0 e = cnt0 := by
        unfold cntStep
        rw [if_neg (he e (List.mem_cons_self ..))]
      rw [List.foldl_cons, h1]
      exact ih (fun x hx => he x (List.mem_cons_of_mem _ hx))
  exact key evs hs

def AllLess (w : Int) (ps : List (Int × Nat)) (b : Bool) : Prop := b = true ↔ ∀ x ∈ ps, (x.2 : Int) < w
theorem AllLess.next {w : Int} {ps : List (Int × Nat)} {b : Bool} {x : Int × Nat} (h : AllLess w ps b) : AllLess w (ps ++ [x]) (b && decide ((x.2 : Int) < w)) := by
  unfold AllLess at h ⊢
  rw [Bool.and_eq_true, h, decide_eq_true_iff]
  constructor
  · rintro ⟨h1, h2⟩ y hy
    rcases List.mem_append.1 hy with hy | hy
    · exact h1 y hy
    · simp at hy; subst hy; exact h2
  · intro h1
    exact ⟨fun y hy => h1 y (List.mem_append_left _ hy), h1 x (by simp)⟩
theorem told_fair {l : List Tn} {ps : List (Int × Nat)} {w : Int} {b : Bool} (hb : badAt l = none) (ht : toldOf 1 l ps) (hw : 1 ≤ w) (h : AllLess w ps b) : fairOf w l = b := by
  have hv := badAt_all hb
  rcases ht with ⟨h1, _⟩ | ⟨_, ts, h2, rfl⟩
  · rw [hb] at h1; simp at h1
  · have h3 := fair_best hv w hw
    have h4 : b = true ↔ fairOf w l = true := by
      unfold AllLess at h
      rw [h, h3]
      constructor
      · intro h5 t
        have hs := (cnt_spec hv t l.length (Nat.le_refl _)).2.2.1
        by_cases hm : t ∈ ts
        · have := h5 (t, cntAt 1 (cntOf (evK l l.length) t)) (List.mem_map.2 ⟨t, hm, rfl⟩)
          rw [← hs]
          exact this
        · have hmet : metB (evK l l.length) t = false := by
            cases hh : metB (evK l l.length) t with
            | false => rfl
            | true => exact absurd ((h2.mem t).2 hh) hm
          rw [cntOf_unmet t _ hmet] at hs
          rw [← hs]
          show ((0 : Nat) : Int) < w
          omega
      · intro h5 x hx
        obtain ⟨t, _, rfl⟩ := List.mem_map.1 hx
        have hs := (cnt_spec hv t l.length (Nat.le_refl _)).2.2.1
        have := h5 t
        rw [← hs] at this
        exact this
    cases b <;> cases hf : fairOf w l <;> simp [hf] at h4 ⊢
end Go.Proofs.Ytchmoalcjbolbaa
