/- An argument that is a list of acts, opened. -/
import Derived.Test.YthiaaapcbiameaaDoorPa
import Derived.Test.YthiaaapcbiameaaDoorOp
import Derived.ProofKit
import Derived.OpenShut
import Derived.Deep.Slices
import Derived.Deep.Fields
import Derived.ChangeSame
namespace Go.Proofs.YthiaaapcbiameaaDoor
open Go.ChangeShapes Go.WideShapes Go.ChangeAt Go.RowKit Go.Deep

theorem acts_list (n : Nat) (p : Nat → ActD → Prop) (h : ∀ i, i < n → ∃ x, p i x) : ∃ l : List ActD, l.length = n ∧ ∀ i x, l[i]? = some x → p i x := by
  induction n with
  | zero => exact ⟨[], rfl, fun i x hx => by simp at hx⟩
  | succ n ih =>
    obtain ⟨l, hl, hp⟩ := ih (fun i hi => h i (by omega))
    obtain ⟨y, hy⟩ := h n (by omega)
    refine ⟨l ++ [y], by simp [hl], fun i x hx => ?_⟩
    rcases Nat.lt_or_ge i l.length with hi | hi
    · rw [List.getElem?_append_left hi] at hx
      exact hp i x hx
    · rw [List.getElem?_append_right hi] at hx
      have h1 := (List.getElem?_eq_some_iff.1 hx).1
      simp at h1
      have e : i = n := by omega
      subst e
      rw [hl] at hx
      simp at hx
      subst hx
      exact hy

section
variable {H : Type} {enc : TypeId × Value → H} {W : World}
set_option maxRecDepth 100000 in
/-- The list of acts, opened. -/
theorem open_acts {fuel : Nat} {A : Option Addr} {len cap : Nat} {x : DataW H × List MemPlace} (h : DataW.trod enc Tryd.prog W 0 (fun _ => true) true fuel 22 [.slice A len cap] = some x) :
    len ≤ maxLen ∧ ∃ l : List ActD, l.length = len ∧ ActsArg W (.slice A len cap) l := by
  rcases open_slice Tryd.underlying22 h with ⟨h0, _⟩ | ⟨a, len', cap', m, n, D, Pl, hcs, _, hl, hm, hmm, _, hi⟩
  · simp only [List.cons.injEq, Value.slice.injEq, and_true] at h0
    obtain ⟨rfl, rfl, rfl⟩ := h0
    exact ⟨Nat.zero_le _, [], rfl, _, _, rfl, fun h => absurd rfl h⟩
  · simp only [List.cons.injEq, Value.slice.injEq, and_true] at hcs
    obtain ⟨rfl, rfl, rfl⟩ := hcs
    simp only [if_true] at hmm
    subst hmm
    refine ⟨Nat.le_trans hl hm, ?_⟩
    have hC : Tryd.prog.cellsOf 35 = 3 := by kernel_rfl
    have each : ∀ i, i < len → ∃ x : ActD, (i = 0 → a.spot = none) ∧ a.block < W.heap.size ∧ W.cell? ⟨a.block, a.off + i * 3, none⟩ = some (.int .i64 x.what) ∧ W.cell? ⟨a.block, a.off + i * 3 + 1, none⟩ = some (.int .i64 x.at_) ∧
        W.cell? ⟨a.block, a.off + i * 3 + 2, none⟩ = some (.int .i64 x.n) ∧ -9223372036854775808 ≤ x.at_ ∧ x.at_ ≤ 9223372036854775807 := fun i hil => by
      obtain ⟨cs', hc, ht'⟩ := hi i (by omega)
      rw [hC] at hc
      obtain ⟨ys, n', hn', hy, hlen, hyl, hf⟩ := DataW.trod_struct Tryd.underlying35 ht'
      obtain ⟨_, hcl, hat⟩ := World.cells?_some hc
      have k3 : Tryd.prog.cellsOf 3 = 1 := by kernel_rfl
      have hy3 : ys.length = 3 := hyl
      obtain ⟨c0, c1, c2, rfl⟩ : ∃ c0 c1 c2, cs' = [c0, c1, c2] := by
        match cs', hcl with
        | [c0, c1, c2], _ => exact ⟨c0, c1, c2, rfl⟩
      have g0 : DataW.trod enc Tryd.prog W 0 (fun _ => true) true n' 3 (List.take (Tryd.prog.cellsOf 3) [c0, c1, c2]) = ys[0]? := hf 0 _ rfl
      have g1 : DataW.trod enc Tryd.prog W 0 (fun _ => true) true n' 3 (List.take (Tryd.prog.cellsOf 3) [c1, c2]) = ys[1]? := hf 1 _ rfl
      have g2 : DataW.trod enc Tryd.prog W 0 (fun _ => true) true n' 3 (List.take (Tryd.prog.cellsOf 3) [c2]) = ys[2]? := hf 2 _ rfl
      rw [k3] at g0 g1 g2
      obtain ⟨z0, e0, r0⟩ := DataW.trod_int Tryd.underlying3 (g0.trans (List.getElem?_eq_getElem (show 0 < ys.length by omega)))
      obtain ⟨z1, e1, r1⟩ := DataW.trod_int Tryd.underlying3 (g1.trans (List.getElem?_eq_getElem (show 1 < ys.length by omega)))
      obtain ⟨z2, e2, r2⟩ := DataW.trod_int Tryd.underlying3 (g2.trans (List.getElem?_eq_getElem (show 2 < ys.length by omega)))
      simp only [List.take_succ_cons, List.take_zero, List.cons.injEq, and_true] at e0 e1 e2
      subst e0 e1 e2
      have t0 := hat 0 (by omega)
      have t1 := hat 1 (by omega)
      have t2 := hat 2 (by omega)
      have u0 := spot_none (t0.trans rfl)
      have u1 := spot_none (t1.trans rfl)
      have u2 := spot_none (t2.trans rfl)
      have hs : i = 0 → a.spot = none := fun e => by
        have := u0.1
        subst e
        simpa [Addr.add] using this
      rw [add_at u0.1] at t0 u0
      rw [add_at u1.1] at t1
      rw [add_at u2.1] at t2
      have hr := w64_of r1.2
      unfold W64 at hr
      exact ⟨⟨z0, z1, z2⟩, hs, u0.2, t0, t1, t2, hr.1, hr.2⟩
    obtain ⟨l, hll, hlp⟩ := acts_list len _ each
    refine ⟨l, hll, some a, _, by rw [hll], fun hne => ?_⟩
    obtain ⟨x0, hx0⟩ : ∃ x, l[0]? = some x := by
      cases l with
      | nil => exact absurd rfl hne
      | cons x t => exact ⟨x, rfl⟩
    obtain ⟨hs, hb, _⟩ := hlp 0 x0 hx0
    refine ⟨a.block, a.off, ?_, hb, fun i x hx => (hlp i x hx).2.2⟩
    obtain ⟨bb, oo, ss⟩ := a
    have hs := hs rfl
    simp only at hs
    subst hs
    rfl
/-- The list of calls that an argument holds. -/
def Acts3 (W : World) (v : Value) (l : List ActD) : Prop := l.length ≤ maxLen ∧ ActsArg W v l
theorem open_acts' {A : Option Addr} {len cap fuel : Nat} {x : DataW H × List MemPlace} (hf : DataW.trod enc Tryd.prog W 0 (fun _ => true) true fuel 22 [.slice A len cap] = some x) : ∃ xs, Acts3 W (.slice A len cap) xs := by
  obtain ⟨hm, l, hl, ha⟩ := open_acts hf
  exact ⟨l, by omega, ha⟩
end
theorem playsWalk (m : Int) (v : Value) (l : List ActD) (w : World) (hn : Num w) (h : Acts3 w v l) : Calls Tryd.prog 3 #[.int .i64 m, v] w fun e w' => e = .returned (.bool true) ∧ Below w.heap.size w w' := by
  obtain ⟨hl, ha⟩ := h
  have ha' := ha
  obtain ⟨A, c, rfl, _⟩ := ha'
  by_cases hc : m < 1 ∨ 10 < m ∨ 60 < l.length
  · exact plays_bad m A c l.length w hn hl hc
  · obtain ⟨k, rfl⟩ : ∃ k : Nat, m = (k : Int) := ⟨m.toNat, by omega⟩
    exact plays_good k A c l w hn ha (by omega) (by omega) (by omega)

end Go.Proofs.YthiaaapcbiameaaDoor
