/- The threads of a map, sorted. -/
import Derived.Test.YtchmoalcjbolbaaM
import Derived.Test.YtchmoalcjbolbaaSh
namespace Go.Proofs.Ytchmoalcjbolbaa
open Go.RowKit Go.Shelf Go.Sort Go.Maps

/-- The threads that were met, rising. -/
structure ThreadsOf (evs : List Ev) (ts : List Int) : Prop where
  rising : ts.Pairwise (· < ·)
  mem : ∀ t, t ∈ ts ↔ metB evs t = true
theorem rising_unique {a b : List Int} (ha : a.Pairwise (· < ·)) (hb : b.Pairwise (· < ·)) (h : ∀ t, t ∈ a ↔ t ∈ b) : a = b := by
  have hp : a.Perm b := (List.perm_ext_iff_of_nodup (ha.imp (fun h => by omega)) (hb.imp (fun h => by omega))).2 h
  exact List.Perm.eq_of_pairwise (le := fun x y => x ≤ y) (fun x y _ _ h1 h2 => by omega) (ha.imp (fun h => by omega)) (hb.imp (fun h => by omega)) hp
theorem ThreadsOf.unique {evs : List Ev} {a b : List Int} (ha : ThreadsOf evs a) (hb : ThreadsOf evs b) : a = b :=
  rising_unique ha.rising hb.rising fun t => (ha.mem t).trans (hb.mem t).symm

def metL : List Ev → List Int
  | [] => []
  | e :: r => if e.t ∈ metL r then metL r else e.t :: metL r
theorem metL_nodup : ∀ evs, (metL evs).Nodup
  | [] => List.nodup_nil
  | e :: r => by
    unfold metL
    split
    · exact metL_nodup r
    · rename_i h; exact List.nodup_cons.2 ⟨h, metL_nodup r⟩
theorem metL_cons (e : Ev) (r : List Ev) : metL (e :: r) = if e.t ∈ metL r then metL r else e.t :: metL r := by
  rw [metL]
theorem metL_mem (t : Int) : ∀ evs, t ∈ metL evs ↔ metB evs t = true
  | [] => by simp [metL, metB]
  | e :: r => by
    have ih := metL_mem t r
    rw [metL_cons]
    unfold metB at ih ⊢
    rw [List.any_cons, Bool.or_eq_true, ← ih, beq_iff_eq]
    split
    · rename_i h
      constructor
      · exact .inr
      · rintro (h1 | h1)
        · rw [← h1]; exact h
        · exact h1
    · rw [List.mem_cons]
      constructor
      · rintro (h1 | h1)
        · exact .inl h1.symm
        · exact .inr h1
      · rintro (h1 | h1)
        · exact .inl h1.symm
        · exact .inr h1

theorem keys_of {W : World} {b : Nat} {evs : List Ev} {n : Nat} {D : DataW Unit} (hown : W.ownsMap Try.prog 3 Rc b n D) (hh : ∀ t, W64 t → Maps.has D (.int .i64 t) = metB evs t) (hw : ∀ e ∈ evs, W64 e.t) {ss : List Int} (hp : ss.Perm (intKeys D)) :
    ThreadsOf evs (ss.mergeSort (fun x y => decide (x ≤ y))) := by
  have hwf := intKeys_wf hown Try.underlying3
  obtain ⟨es, hes, hpw⟩ := hown.tidy keyed3
  have hk : ∀ p ∈ es, ∃ x, p.1 = .int .i64 x := by
    obtain ⟨es', clock, hb, F, hs, hD⟩ := hown
    intro p hpm
    rw [hes] at hD
    simp only [DataW.map.injEq] at hD
    rw [hD] at hpm
    have := keys_perm (Go.WideShapes.sorted_perm _).symm (fit_keys F) p hpm
    obtain ⟨v, hv⟩ := this
    obtain ⟨x, _, hx, _⟩ := Maps.keyOf_i64 Try.underlying3 hv
    exact ⟨x, hx⟩
  subst hes
  have h1 : (metL evs).Perm (intKeys (.map es)) := perm_intKeys hpw hk (metL_nodup evs) (fun x => by
    rw [metL_mem]
    by_cases hx : W64 x
    · rw [hh x hx]
    · constructor
      · intro hm
        exfalso
        unfold metB at hm
        obtain ⟨e, he, het⟩ := List.any_eq_true.1 hm
        rw [beq_iff_eq] at het
        exact hx (het ▸ hw e he)
      · intro hm
        exfalso
        have : x ∈ intKeys (.map es) := by
          rw [has_eq, List.any_eq_true] at hm
          obtain ⟨p, hpm, hs⟩ := hm
          obtain ⟨a, ha⟩ := hk p hpm
          rw [ha] at hs
          show x ∈ es.map fun p => Go.intOf p.1
          refine List.mem_map.2 ⟨p, hpm, ?_⟩
          rw [ha]
          simpa [Lit.sameKey, Go.intOf] using hs
        have := hwf x this
        simp only [Lit.wf, Bool.and_eq_true, decide_eq_true_eq] at this
        exact hx this)
  have hpm : (ss.mergeSort (fun x y => decide (x ≤ y))).Perm (metL evs) := (List.mergeSort_perm ss _).trans (hp.trans h1.symm)
  have hnd : (ss.mergeSort (fun x y => decide (x ≤ y))).Nodup := hpm.nodup_iff.2 (metL_nodup evs)
  have hs : (ss.mergeSort (fun x y => decide (x ≤ y))).Pairwise (fun a b => decide (a ≤ b) = true) := List.pairwise_mergeSort (fun a b c h1 h2 => by simp only [decide_eq_true_eq] at *; omega) (fun a b => by simp only [Bool.or_eq_true, decide_eq_true_eq]; omega) ss
  refine ⟨?_, fun t => by rw [hpm.mem_iff, metL_mem]⟩
  exact (hs.and hnd).imp (fun ⟨h1, h2⟩ => by simp only [decide_eq_true_eq] at h1; omega)
end Go.Proofs.Ytchmoalcjbolbaa
