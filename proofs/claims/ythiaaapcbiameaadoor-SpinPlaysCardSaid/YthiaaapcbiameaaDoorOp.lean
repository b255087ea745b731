/- Arguments that are slices, opened: bytes. -/
import Derived.Test.YthiaaapcbiameaaDoorG
import Derived.Test.YthiaaapcbiameaaDoorChecked
import Derived.ProofKit
import Derived.OpenShut
import Derived.Deep.Slices
import Derived.Deep.Fields
import Derived.ChangeSame
namespace Go.Proofs.YthiaaapcbiameaaDoor
open Go.ChangeShapes Go.WideShapes Go.ChangeAt Go.RowKit Go.Deep

/-- The slice u reads as the bytes xs. -/
def Bys (W : World) (u : Value) (xs : List Int) : Prop :=
  ∃ A c, u = .slice A xs.length c ∧ xs.length ≤ c ∧ c ≤ maxLen ∧ (∀ x ∈ xs, 0 ≤ x ∧ x < 256) ∧
    (xs ≠ [] → ∃ b o, A = some ⟨b, o, none⟩ ∧ b < W.heap.size ∧ ∀ i x, xs[i]? = some x → W.cell? ⟨b, o + i, none⟩ = some (.int .u8 x))
theorem Bys.below {B : Nat} {W W' : World} {u : Value} {xs : List Int} (h : Bys W u xs) (hB : Below B W W') (hs : W.heap.size ≤ B) : Bys W' u xs := by
  obtain ⟨A, c, rfl, h1, h2, hw, h3⟩ := h
  refine ⟨A, c, rfl, h1, h2, hw, fun hne => ?_⟩
  obtain ⟨b, o, rfl, hb, hc⟩ := h3 hne
  exact ⟨b, o, rfl, by have := hB.size; omega, fun i x hx => (hB.cell (p := ⟨b, o + i, none⟩) (by simp only; omega)).trans (hc i x hx)⟩
theorem Bys.form {W : World} {u : Value} {xs : List Int} (h : Bys W u xs) : ∃ A c, u = .slice A xs.length c ∧ xs.length ≤ c ∧ c ≤ maxLen := by
  obtain ⟨A, c, rfl, h1, h2, _⟩ := h; exact ⟨A, c, rfl, h1, h2⟩
theorem Bys.at_ {W : World} {u : Value} {xs : List Int} (h : Bys W u xs) {i : Nat} {x : Int} (hx : xs[i]? = some x) : ∃ b o c, u = .slice (some ⟨b, o, none⟩) xs.length c ∧ W.cell? ⟨b, o + i, none⟩ = some (.int .u8 x) ∧ 0 ≤ x ∧ x < 256 := by
  obtain ⟨A, c, rfl, h1, h2, hw, h3⟩ := h
  obtain ⟨b, o, rfl, _, hc⟩ := h3 (fun e => by rw [e] at hx; simp at hx)
  exact ⟨b, o, c, rfl, hc i x hx, hw x (List.mem_of_getElem? hx)⟩

theorem pick_list {α : Type} (n : Nat) (p : Nat → α → Prop) (h : ∀ i, i < n → ∃ x, p i x) : ∃ l : List α, l.length = n ∧ ∀ i x, l[i]? = some x → p i x := by
  induction n with
  | zero => exact ⟨[], rfl, fun i x hx => by simp at hx⟩
  | succ n ih =>
    obtain ⟨l, hl, hp⟩ := ih (fun i hi => h i (by omega))
    obtain ⟨y, hy⟩ := h n (by omega)
    refine ⟨l ++ [y], by simp [hl], fun i x hx => ?_⟩
    rcases Nat.lt_or_ge i l.length with hi | hi
    · rw [List.getElem?_append_left hi] at hx
      exact hp i x hx
    · rw [List.getElem?_append_right hi] at hx
      have h1 := (List.getElem?_eq_some_iff.1 hx).1
      simp at h1
      have e : i = n := by omega
      subst e
      rw [hl] at hx
      simp at hx
      subst hx
      exact hy

theorem spot_none {W : World} {a : Addr} {v : Value} (h : W.cell? a = some v) : a.spot = none ∧ a.block < W.heap.size := by
  unfold World.cell? at h
  split at h
  · rename_i hb
    refine ⟨?_, (Array.getElem?_eq_some_iff.1 hb).1⟩
    cases hs : a.spot with
    | none => rfl
    | some _ => rw [hs] at h; simp at h
  · cases h

theorem add_at {a : Addr} {n j : Nat} (h : ((a.add n).add j).spot = none) : (a.add n).add j = ⟨a.block, a.off + n + j, none⟩ := by
  obtain ⟨bb, oo, ss⟩ := a
  unfold Addr.add at *
  by_cases hn : n = 0
  · by_cases hj : j = 0
    · simp [hn, hj] at h ⊢; exact h
    · simp [hn, hj]
  · by_cases hj : j = 0
    · simp [hn, hj]
    · simp [hn, hj]

/-- A number that an int holds. -/
def W64 (x : Int) : Prop := -9223372036854775808 ≤ x ∧ x ≤ 9223372036854775807
theorem w64_of {x : Int} (h : (Lit.int .i64 x).wf = true) : W64 x := by
  simp [Lit.wf, IntKind.min, IntKind.max, IntKind.bits, IntKind.signed] at h
  unfold W64
  omega
theorem byte_of {x : Int} (h : (Lit.int .u8 x).wf = true) : 0 ≤ x ∧ x < 256 := by
  simp [Lit.wf, IntKind.min, IntKind.max, IntKind.bits, IntKind.signed] at h
  omega

section
variable {H : Type} {enc : TypeId × Value → H} {W : World}
/-- A slice of integers of one cell, opened. -/
theorem open_row_of {t e : TypeId} {k : IntKind} (ht : Tryd.prog.underlying t = some (.slice e)) (he : Tryd.prog.underlying e = some (.int k)) (hc : Tryd.prog.cellsOf e = 1)
    {fuel : Nat} {v : Value} {x : DataW H × List MemPlace} (h : DataW.trod enc Tryd.prog W 0 (fun _ => true) true fuel t [v] = some x) :
    ∃ (A : Option Addr) (c : Nat) (zs : List Int), v = .slice A zs.length c ∧ zs.length ≤ c ∧ c ≤ maxLen ∧ (∀ x ∈ zs, (Lit.int k x).wf = true) ∧
    (zs ≠ [] → ∃ b o, A = some ⟨b, o, none⟩ ∧ b < W.heap.size ∧ ∀ i x, zs[i]? = some x → W.cell? ⟨b, o + i, none⟩ = some (.int k x)) := by
  rcases open_ints ht he hc h with ⟨h0, _⟩ | ⟨a, len, cap, zs, hcs, _, hl, hm, hz, _, hi, hw⟩
  · simp only [List.cons.injEq, and_true] at h0
    subst h0
    exact ⟨none, 0, [], rfl, Nat.le_refl _, by simp [maxLen], by simp, by simp⟩
  · simp only [List.cons.injEq, and_true] at hcs
    subst hcs
    simp only [if_true] at hz
    have hlen : (zs.take len).length = len := by rw [List.length_take]; omega
    refine ⟨some a, cap, zs.take len, by rw [hlen], by omega, hm, fun x hx => hw x (List.mem_of_mem_take hx), fun hne => ?_⟩
    have hpos : 0 < zs.length := by
      rcases Nat.eq_zero_or_pos zs.length with h0 | h0
      · rw [List.eq_nil_of_length_eq_zero h0] at hne; simp at hne
      · exact h0
    obtain ⟨b, off, rfl, hj⟩ := ints_at hi hpos
    refine ⟨b, off, rfl, (spot_none (hj 0 hpos)).2, fun i x hx => ?_⟩
    have hlt : i < (zs.take len).length := (List.getElem?_eq_some_iff.1 hx).1
    rw [List.getElem?_take_of_lt (by omega)] at hx
    rw [hj i (by omega)]
    simp [List.getD, hx]
theorem open_bytes' {v : Value} {fuel : Nat} {x : DataW H × List MemPlace} (hf : DataW.trod enc Tryd.prog W 0 (fun _ => true) true fuel 60 [v] = some x) : ∃ xs, Bys W v xs := by
  obtain ⟨A, c, zs, rfl, h1, h2, h3, h4⟩ := open_row_of Tryd.underlying60 Tryd.underlying5 (by kernel_rfl) hf
  exact ⟨zs, A, c, rfl, h1, h2, fun x hx => byte_of (h3 x hx), h4⟩
end
end Go.Proofs.YthiaaapcbiameaaDoor
