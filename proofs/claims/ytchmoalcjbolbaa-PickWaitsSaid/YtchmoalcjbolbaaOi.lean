/- Arguments that are slices, opened. -/
import Derived.Test.YtchmoalcjbolbaaC
import Derived.ProofKit
import Derived.OpenShut
import Derived.Deep.Slices
import Derived.Deep.Fields
import Derived.ChangeSame
namespace Go.Proofs.Ytchmoalcjbolbaa
open Go.ChangeShapes Go.WideShapes Go.ChangeAt Go.RowKit Go.Deep

theorem pick_list {α : Type} (n : Nat) (p : Nat → α → Prop) (h : ∀ i, i < n → ∃ x, p i x) : ∃ l : List α, l.length = n ∧ ∀ i x, l[i]? = some x → p i x := by
  induction n with
  | zero => exact ⟨[], rfl, fun i x hx => by simp at hx⟩
  | succ n ih =>
    obtain ⟨l, hl, hp⟩ := ih (fun i hi => h i (by omega))
    obtain ⟨y, hy⟩ := h n (by omega)
    refine ⟨l ++ [y], by simp [hl], fun i x hx => ?_⟩
    rcases Nat.lt_or_ge i l.length with hi | hi
    · rw [List.getElem?_append_left hi] at hx
      exact hp i x hx
    · rw [List.getElem?_append_right hi] at hx
      have h1 := (List.getElem?_eq_some_iff.1 hx).1
      simp at h1
      have e : i = n := by omega
      subst e
      rw [hl] at hx
      simp at hx
      subst hx
      exact hy

theorem spot_none {W : World} {a : Addr} {v : Value} (h : W.cell? a = some v) : a.spot = none ∧ a.block < W.heap.size := by
  unfold World.cell? at h
  split at h
  · rename_i hb
    refine ⟨?_, (Array.getElem?_eq_some_iff.1 hb).1⟩
    cases hs : a.spot with
    | none => rfl
    | some _ => rw [hs] at h; simp at h
  · cases h

theorem add_at {a : Addr} {n j : Nat} (h : ((a.add n).add j).spot = none) : (a.add n).add j = ⟨a.block, a.off + n + j, none⟩ := by
  obtain ⟨bb, oo, ss⟩ := a
  unfold Addr.add at *
  by_cases hn : n = 0
  · by_cases hj : j = 0
    · simp [hn, hj] at h ⊢; exact h
    · simp [hn, hj]
  · by_cases hj : j = 0
    · simp [hn, hj]
    · simp [hn, hj]

theorem w64_of {x : Int} (h : (Lit.int .i64 x).wf = true) : W64 x := by
  simp [Lit.wf, IntKind.min, IntKind.max, IntKind.bits, IntKind.signed] at h
  unfold W64
  omega
theorem byte_of {x : Int} (h : (Lit.int .u8 x).wf = true) : 0 ≤ x ∧ x < 256 := by
  simp [Lit.wf, IntKind.min, IntKind.max, IntKind.bits, IntKind.signed] at h
  omega

section
variable {H : Type} {enc : TypeId × Value → H} {W : World}
/-- A slice of integers of one cell, opened. -/
theorem open_row_of {t e : TypeId} {k : IntKind} (ht : Try.prog.underlying t = some (.slice e)) (he : Try.prog.underlying e = some (.int k)) (hc : Try.prog.cellsOf e = 1)
    {fuel : Nat} {v : Value} {x : DataW H × List MemPlace} (h : DataW.trod enc Try.prog W 0 (fun _ => true) true fuel t [v] = some x) :
    ∃ (A : Option Addr) (c : Nat) (zs : List Int), v = .slice A zs.length c ∧ zs.length ≤ c ∧ c ≤ maxLen ∧ (∀ x ∈ zs, (Lit.int k x).wf = true) ∧
    (zs ≠ [] → ∃ b o, A = some ⟨b, o, none⟩ ∧ b < W.heap.size ∧ ∀ i x, zs[i]? = some x → W.cell? ⟨b, o + i, none⟩ = some (.int k x)) := by
  rcases open_ints ht he hc h with ⟨h0, _⟩ | ⟨a, len, cap, zs, hcs, _, hl, hm, hz, _, hi, hw⟩
  · simp only [List.cons.injEq, and_true] at h0
    subst h0
    exact ⟨none, 0, [], rfl, Nat.le_refl _, by simp [maxLen], by simp, by simp⟩
  · simp only [List.cons.injEq, and_true] at hcs
    subst hcs
    simp only [if_true] at hz
    have hlen : (zs.take len).length = len := by rw [List.length_take]; omega
    refine ⟨some a, cap, zs.take len, by rw [hlen], by omega, hm, fun x hx => hw x (List.mem_of_mem_take hx), fun hne => ?_⟩
    have hpos : 0 < zs.length := by
      rcases Nat.eq_zero_or_pos zs.length with h0 | h0
      · rw [List.eq_nil_of_length_eq_zero h0] at hne; simp at hne
      · exact h0
    obtain ⟨b, off, rfl, hj⟩ := ints_at hi hpos
    refine ⟨b, off, rfl, (spot_none (hj 0 hpos)).2, fun i x hx => ?_⟩
    have hlt : i < (zs.take len).length := (List.getElem?_eq_some_iff.1 hx).1
    rw [List.getElem?_take_of_lt (by omega)] at hx
    rw [hj i (by omega)]
    simp [List.getD, hx]

theorem open_ints' {v : Value} {fuel : Nat} {x : DataW H × List MemPlace} (hf : DataW.trod enc Try.prog W 0 (fun _ => true) true fuel 24 [v] = some x) : ∃ xs, Ints W v xs := by
  obtain ⟨A, c, zs, rfl, h1, h2, h3, h4⟩ := open_row_of Try.underlying24 Try.underlying3 (by kernel_rfl) hf
  exact ⟨zs, A, c, rfl, h1, h2, fun x hx => w64_of (h3 x hx), h4⟩
theorem open_bytes' {v : Value} {fuel : Nat} {x : DataW H × List MemPlace} (hf : DataW.trod enc Try.prog W 0 (fun _ => true) true fuel 23 [v] = some x) : ∃ xs, Bys W v xs := by
  obtain ⟨A, c, zs, rfl, h1, h2, h3, h4⟩ := open_row_of Try.underlying23 Try.underlying5 (by kernel_rfl) hf
  exact ⟨zs, A, c, rfl, h1, h2, fun x hx => byte_of (h3 x hx), h4⟩

set_option maxRecDepth 100000 in
theorem open_turns {v : Value} {fuel : Nat} {x : DataW H × List MemPlace} (hf : DataW.trod enc Try.prog W 0 (fun _ => true) true fuel 33 [v] = some x) : ∃ l, Turns W v l := by
  rcases open_slice Try.underlying33 hf with ⟨h0, _⟩ | ⟨a, len, cap, m, n, D, Pl, hcs, _, hl, hm, hmm, _, hi⟩
  · simp only [List.cons.injEq, and_true] at h0
    subst h0
    exact ⟨[], Turns.nil W⟩
  · simp only [List.cons.injEq, and_true] at hcs
    subst hcs
    simp only [if_true] at hmm
    subst hmm
    have hC : Try.prog.cellsOf 57 = 2 := by kernel_rfl
    have each : ∀ i, i < len → ∃ x : Tn, (i = 0 → a.spot = none) ∧ a.block < W.heap.size ∧
        ∃ u, W.cell? ⟨a.block, a.off + i * 2, none⟩ = some u ∧ Ints W u x.runs ∧ W.cell? ⟨a.block, a.off + i * 2 + 1, none⟩ = some (.int .i64 x.took) ∧ W64 x.took := fun i hil => by
      obtain ⟨cs', hc, ht'⟩ := hi i (by omega)
      rw [hC] at hc
      obtain ⟨ys, n', hn', hy, hlen, hyl, hfl⟩ := DataW.trod_struct Try.underlying57 ht'
      obtain ⟨_, hcl, hat⟩ := World.cells?_some hc
      have k3 : Try.prog.cellsOf 3 = 1 := by kernel_rfl
      have k24 : Try.prog.cellsOf 24 = 1 := by kernel_rfl
      have hy4 : ys.length = 2 := hyl
      obtain ⟨c0, c1, rfl⟩ : ∃ c0 c1, cs' = [c0, c1] := by
        match cs', hcl with
        | [c0, c1], _ => exact ⟨c0, c1, rfl⟩
      have g0 : DataW.trod enc Try.prog W 0 (fun _ => true) true n' 24 (List.take (Try.prog.cellsOf 24) [c0, c1]) = ys[0]? := hfl 0 _ rfl
      have g1 : DataW.trod enc Try.prog W 0 (fun _ => true) true n' 3 (List.take (Try.prog.cellsOf 3) [c1]) = ys[1]? := hfl 1 _ rfl
      rw [k24] at g0
      rw [k3] at g1
      obtain ⟨xs, hxs⟩ := open_ints' (H := H) (enc := enc) (g0.trans (List.getElem?_eq_getElem (show 0 < ys.length by omega)))
      obtain ⟨z1, e1, _, hw1⟩ := DataW.trod_int Try.underlying3 (g1.trans (List.getElem?_eq_getElem (show 1 < ys.length by omega)))
      simp only [List.take_succ_cons, List.take_zero, List.cons.injEq, and_true] at e1
      subst e1
      have t0 := hat 0 (by omega)
      have t1 := hat 1 (by omega)
      have u0 := spot_none (t0.trans rfl)
      have u1 := spot_none (t1.trans rfl)
      have hs : i = 0 → a.spot = none := fun e => by
        have := u0.1
        subst e
        simpa [Addr.add] using this
      rw [add_at u0.1] at t0 u0
      rw [add_at u1.1] at t1
      exact ⟨⟨xs, z1⟩, hs, u0.2, c0, t0, hxs, t1, w64_of hw1⟩
    obtain ⟨l, hll, hlp⟩ := pick_list len _ each
    refine ⟨l, some a, _, by rw [hll], by omega, hm, fun hne => ?_⟩
    obtain ⟨x0, hx0⟩ : ∃ x, l[0]? = some x := by
      cases l with
      | nil => exact absurd rfl hne
      | cons x t => exact ⟨x, rfl⟩
    obtain ⟨hs, hb, _⟩ := hlp 0 x0 hx0
    refine ⟨a.block, a.off, ?_, hb, fun i x hx => (hlp i x hx).2.2⟩
    obtain ⟨bb, oo, ss⟩ := a
    have hs := hs rfl
    simp only at hs
    subst hs
    rfl
end
end Go.Proofs.Ytchmoalcjbolbaa
