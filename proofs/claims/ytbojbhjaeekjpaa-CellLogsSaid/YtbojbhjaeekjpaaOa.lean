/- An argument that is a list of acts, opened. -/
import Derived.Test.YtbojbhjaeekjpaaHb
import Derived.ProofKit
import Derived.OpenShut
import Derived.Deep.Slices
import Derived.Deep.Fields
import Derived.ChangeSame
namespace Go.Proofs.Ytbojbhjaeekjpaa
open Go.ChangeShapes Go.WideShapes Go.ChangeAt Go.RowKit Go.Deep

theorem acts_list (n : Nat) (p : Nat → ActD → Prop) (h : ∀ i, i < n → ∃ x, p i x) : ∃ l : List ActD, l.length = n ∧ ∀ i x, l[i]? = some x → p i x := by
  induction n with
  | zero => exact ⟨[], rfl, fun i x hx => by simp at hx⟩
  | succ n ih =>
    obtain ⟨l, hl, hp⟩ := ih (fun i hi => h i (by omega))
    obtain ⟨y, hy⟩ := h n (by omega)
    refine ⟨l ++ [y], by simp [hl], fun i x hx => ?_⟩
    rcases Nat.lt_or_ge i l.length with hi | hi
    · rw [List.getElem?_append_left hi] at hx
      exact hp i x hx
    · rw [List.getElem?_append_right hi] at hx
      have h1 := (List.getElem?_eq_some_iff.1 hx).1
      simp at h1
      have e : i = n := by omega
      subst e
      rw [hl] at hx
      simp at hx
      subst hx
      exact hy

theorem spot_none {W : World} {a : Addr} {v : Value} (h : W.cell? a = some v) : a.spot = none ∧ a.block < W.heap.size := by
  unfold World.cell? at h
  split at h
  · rename_i hb
    refine ⟨?_, (Array.getElem?_eq_some_iff.1 hb).1⟩
    cases hs : a.spot with
    | none => rfl
    | some _ => rw [hs] at h; simp at h
  · cases h

theorem add_at {a : Addr} {n j : Nat} (h : ((a.add n).add j).spot = none) : (a.add n).add j = ⟨a.block, a.off + n + j, none⟩ := by
  obtain ⟨bb, oo, ss⟩ := a
  unfold Addr.add at *
  by_cases hn : n = 0
  · by_cases hj : j = 0
    · simp [hn, hj] at h ⊢; exact h
    · simp [hn, hj]
  · by_cases hj : j = 0
    · simp [hn, hj]
    · simp [hn, hj]

section
variable {H : Type} {enc : TypeId × Value → H} {W : World}
set_option maxRecDepth 100000 in
/-- The list of acts, opened. -/
theorem open_acts {fuel : Nat} {A : Option Addr} {len cap : Nat} {x : DataW H × List MemPlace} (h : DataW.trod enc Try.prog W 0 (fun _ => true) true fuel 22 [.slice A len cap] = some x) :
    len ≤ maxLen ∧ ∃ l : List ActD, l.length = len ∧ ActsArg W (.slice A len cap) l := by
  rcases open_slice Try.underlying22 h with ⟨h0, _⟩ | ⟨a, len', cap', m, n, D, Pl, hcs, _, hl, hm, hmm, _, hi⟩
  · simp only [List.cons.injEq, Value.slice.injEq, and_true] at h0
    obtain ⟨rfl, rfl, rfl⟩ := h0
    exact ⟨Nat.zero_le _, [], rfl, _, _, rfl, fun h => absurd rfl h⟩
  · simp only [List.cons.injEq, Value.slice.injEq, and_true] at hcs
    obtain ⟨rfl, rfl, rfl⟩ := hcs
    simp only [if_true] at hmm
    subst hmm
    refine ⟨Nat.le_trans hl hm, ?_⟩
    have hC : Try.prog.cellsOf 40 = 4 := by kernel_rfl
    have each : ∀ i, i < len → ∃ x : ActD, (i = 0 → a.spot = none) ∧ a.block < W.heap.size ∧ W.cell? ⟨a.block, a.off + i * 4, none⟩ = some (.int .i64 x.what) ∧ W.cell? ⟨a.block, a.off + i * 4 + 1, none⟩ = some (.int .i64 x.at_) ∧
        W.cell? ⟨a.block, a.off + i * 4 + 2, none⟩ = some (.int .u64 x.x) ∧ W.cell? ⟨a.block, a.off + i * 4 + 3, none⟩ = some (.int .u64 x.y) := fun i hil => by
      obtain ⟨cs', hc, ht'⟩ := hi i (by omega)
      rw [hC] at hc
      obtain ⟨ys, n', hn', hy, hlen, hyl, hf⟩ := DataW.trod_struct Try.underlying40 ht'
      obtain ⟨_, hcl, hat⟩ := World.cells?_some hc
      have k3 : Try.prog.cellsOf 3 = 1 := by kernel_rfl
      have k38 : Try.prog.cellsOf 38 = 1 := by kernel_rfl
      have hy4 : ys.length = 4 := hyl
      obtain ⟨c0, c1, c2, c3, rfl⟩ : ∃ c0 c1 c2 c3, cs' = [c0, c1, c2, c3] := by
        match cs', hcl with
        | [c0, c1, c2, c3], _ => exact ⟨c0, c1, c2, c3, rfl⟩
      have g0 : DataW.trod enc Try.prog W 0 (fun _ => true) true n' 3 (List.take (Try.prog.cellsOf 3) [c0, c1, c2, c3]) = ys[0]? := hf 0 _ rfl
      have g1 : DataW.trod enc Try.prog W 0 (fun _ => true) true n' 3 (List.take (Try.prog.cellsOf 3) [c1, c2, c3]) = ys[1]? := hf 1 _ rfl
      have g2 : DataW.trod enc Try.prog W 0 (fun _ => true) true n' 38 (List.take (Try.prog.cellsOf 38) [c2, c3]) = ys[2]? := hf 2 _ rfl
      have g3 : DataW.trod enc Try.prog W 0 (fun _ => true) true n' 38 (List.take (Try.prog.cellsOf 38) [c3]) = ys[3]? := hf 3 _ rfl
      rw [k3] at g0 g1
      rw [k38] at g2 g3
      obtain ⟨z0, e0, _⟩ := DataW.trod_int Try.underlying3 (g0.trans (List.getElem?_eq_getElem (show 0 < ys.length by omega)))
      obtain ⟨z1, e1, _⟩ := DataW.trod_int Try.underlying3 (g1.trans (List.getElem?_eq_getElem (show 1 < ys.length by omega)))
      obtain ⟨z2, e2, _⟩ := DataW.trod_int Try.underlying38 (g2.trans (List.getElem?_eq_getElem (show 2 < ys.length by omega)))
      obtain ⟨z3, e3, _⟩ := DataW.trod_int Try.underlying38 (g3.trans (List.getElem?_eq_getElem (show 3 < ys.length by omega)))
      simp only [List.take_succ_cons, List.take_zero, List.cons.injEq, and_true] at e0 e1 e2 e3
      subst e0 e1 e2 e3
      have t0 := hat 0 (by omega)
      have t1 := hat 1 (by omega)
      have t2 := hat 2 (by omega)
      have t3 := hat 3 (by omega)
      have u0 := spot_none (t0.trans rfl)
      have u1 := spot_none (t1.trans rfl)
      have u2 := spot_none (t2.trans rfl)
      have u3 := spot_none (t3.trans rfl)
      have hs : i = 0 → a.spot = none := fun e => by
        have := u0.1
        subst e
        simpa [Addr.add] using this
      rw [add_at u0.1] at t0 u0
      rw [add_at u1.1] at t1
      rw [add_at u2.1] at t2
      rw [add_at u3.1] at t3
      exact ⟨⟨z0, z1, z2, z3⟩, hs, u0.2, t0, t1, t2, t3⟩
    obtain ⟨l, hll, hlp⟩ := acts_list len _ each
    refine ⟨l, hll, some a, _, by rw [hll], fun hne => ?_⟩
    obtain ⟨x0, hx0⟩ : ∃ x, l[0]? = some x := by
      cases l with
      | nil => exact absurd rfl hne
      | cons x t => exact ⟨x, rfl⟩
    obtain ⟨hs, hb, _⟩ := hlp 0 x0 hx0
    refine ⟨a.block, a.off, ?_, hb, fun i x hx => (hlp i x hx).2.2⟩
    obtain ⟨bb, oo, ss⟩ := a
    have hs := hs rfl
    simp only at hs
    subst hs
    rfl
end

end Go.Proofs.Ytbojbhjaeekjpaa
