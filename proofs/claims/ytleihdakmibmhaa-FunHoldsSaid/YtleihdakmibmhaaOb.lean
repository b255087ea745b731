/- Arguments that are functions, opened. -/
import Derived.Test.YtleihdakmibmhaaRows
import Derived.Test.YtleihdakmibmhaaFa
import Derived.ProofKit
import Derived.OpenShut
import Derived.Deep.Slices
import Derived.Deep.Fields
import Derived.ChangeSame
namespace Go.Proofs.Ytleihdakmibmhaa
open Go.ChangeShapes Go.WideShapes Go.ChangeAt Go.RowKit Go.Deep

theorem pick_list6 {α : Type} (n : Nat) (p : Nat → α → Prop) (h : ∀ i, i < n → ∃ x, p i x) : ∃ l : List α, l.length = n ∧ ∀ i x, l[i]? = some x → p i x := by
  induction n with
  | zero => exact ⟨[], rfl, fun i x hx => by simp at hx⟩
  | succ n ih =>
    obtain ⟨l, hl, hp⟩ := ih (fun i hi => h i (by omega))
    obtain ⟨y, hy⟩ := h n (by omega)
    refine ⟨l ++ [y], by simp [hl], fun i x hx => ?_⟩
    rcases Nat.lt_or_ge i l.length with hi | hi
    · rw [List.getElem?_append_left hi] at hx
      exact hp i x hx
    · rw [List.getElem?_append_right hi] at hx
      have h1 := (List.getElem?_eq_some_iff.1 hx).1
      simp at h1
      have e : i = n := by omega
      subst e
      rw [hl] at hx
      simp at hx
      subst hx
      exact hy
theorem spot_none6 {W : World} {a : Addr} {v : Value} (h : W.cell? a = some v) : a.spot = none ∧ a.block < W.heap.size := by
  unfold World.cell? at h
  split at h
  · rename_i hb
    refine ⟨?_, (Array.getElem?_eq_some_iff.1 hb).1⟩
    cases hs : a.spot with
    | none => rfl
    | some _ => rw [hs] at h; simp at h
  · cases h
theorem add_at6 {a : Addr} {n j : Nat} (h : ((a.add n).add j).spot = none) : (a.add n).add j = ⟨a.block, a.off + n + j, none⟩ := by
  obtain ⟨bb, oo, ss⟩ := a
  unfold Addr.add at *
  by_cases hn : n = 0
  · by_cases hj : j = 0
    · simp [hn, hj] at h ⊢; exact h
    · simp [hn, hj]
  · by_cases hj : j = 0
    · simp [hn, hj]
    · simp [hn, hj]
theorem w64_of6 {x : Int} (h : (Lit.int .i64 x).wf = true) : W64 x := by
  simp [Lit.wf, IntKind.min, IntKind.max, IntKind.bits, IntKind.signed] at h
  unfold W64
  omega

section
variable {H : Type} {enc : TypeId × Value → H} {W : World}
theorem open_ints6 {v : Value} {fuel : Nat} {x : DataW H × List MemPlace} (h : DataW.trod enc Try.prog W 0 (fun _ => true) true fuel 45 [v] = some x) : ∃ xs, IntsI W 0 W.heap.size v xs := by
  rcases open_ints Try.underlying45 Try.underlying3 (by kernel_rfl) h with ⟨h0, _⟩ | ⟨a, len, cap, zs, hcs, _, hl, hm, hz, _, hi, hw⟩
  · simp only [List.cons.injEq, and_true] at h0
    subst h0
    exact ⟨[], IntsI.nil _ _ _⟩
  · simp only [List.cons.injEq, and_true] at hcs
    subst hcs
    simp only [if_true] at hz
    have hlen : (zs.take len).length = len := by rw [List.length_take]; omega
    refine ⟨zs.take len, some a, cap, by rw [hlen], by omega, hm, fun x hx => w64_of6 (hw x (List.mem_of_mem_take hx)), fun hne => ?_⟩
    have hpos : 0 < zs.length := by
      rcases Nat.eq_zero_or_pos zs.length with h0 | h0
      · rw [List.eq_nil_of_length_eq_zero h0] at hne; simp at hne
      · exact h0
    obtain ⟨b, off, rfl, hj⟩ := ints_at hi hpos
    refine ⟨b, off, rfl, Nat.zero_le _, (spot_none6 (hj 0 hpos)).2, fun i x hx => ?_⟩
    have hlt : i < (zs.take len).length := (List.getElem?_eq_some_iff.1 hx).1
    rw [List.getElem?_take_of_lt (by omega)] at hx
    rw [hj i (by omega)]
    simp [List.getD, hx]

set_option maxRecDepth 100000 in
theorem open_nodes6 {v : Value} {fuel : Nat} {x : DataW H × List MemPlace} (hf : DataW.trod enc Try.prog W 0 (fun _ => true) true fuel 22 [v] = some x) : ∃ l, NodesI W 0 W.heap.size v l := by
  rcases open_slice Try.underlying22 hf with ⟨h0, _⟩ | ⟨a, len, cap, m, n, D, Pl, hcs, _, hl, hm, hmm, _, hi⟩
  · simp only [List.cons.injEq, and_true] at h0
    subst h0
    exact ⟨[], none, 0, rfl, Nat.le_refl _, by simp [maxLen], fun h => absurd rfl h⟩
  · simp only [List.cons.injEq, and_true] at hcs
    subst hcs
    simp only [if_true] at hmm
    subst hmm
    have hC : Try.prog.cellsOf 47 = 3 := by kernel_rfl
    have each : ∀ i, i < len → ∃ x : Nd, (i = 0 → a.spot = none) ∧ a.block < W.heap.size ∧ ∃ s,
        W.cell? ⟨a.block, a.off + i * 3, none⟩ = some (.int .i64 x.op) ∧ W.cell? ⟨a.block, a.off + i * 3 + 1, none⟩ = some (.int .i64 x.n) ∧ W.cell? ⟨a.block, a.off + i * 3 + 2, none⟩ = some s ∧ IntsI W 0 W.heap.size s x.l ∧ W64 x.op ∧ W64 x.n := fun i hil => by
      obtain ⟨cs', hc, ht'⟩ := hi i (by omega)
      rw [hC] at hc
      obtain ⟨ys, n', hn', hy, hlen, hyl, hfl⟩ := DataW.trod_struct Try.underlying47 ht'
      obtain ⟨_, hcl, hat⟩ := World.cells?_some hc
      have kO : Try.prog.cellsOf 44 = 1 := by kernel_rfl
      have k2 : Try.prog.cellsOf 2 = 1 := by kernel_rfl
      have kI : Try.prog.cellsOf 45 = 1 := by kernel_rfl
      have hy4 : ys.length = 3 := hyl
      obtain ⟨c0, c1, c2, rfl⟩ : ∃ c0 c1 c2, cs' = [c0, c1, c2] := by
        match cs', hcl with
        | [c0, c1, c2], _ => exact ⟨c0, c1, c2, rfl⟩
      have g0 : DataW.trod enc Try.prog W 0 (fun _ => true) true n' 44 (List.take (Try.prog.cellsOf 44) [c0, c1, c2]) = ys[0]? := hfl 0 _ rfl
      have g1 : DataW.trod enc Try.prog W 0 (fun _ => true) true n' 2 (List.take (Try.prog.cellsOf 2) [c1, c2]) = ys[1]? := hfl 1 _ rfl
      have g2 : DataW.trod enc Try.prog W 0 (fun _ => true) true n' 45 (List.take (Try.prog.cellsOf 45) [c2]) = ys[2]? := hfl 2 _ rfl
      rw [kO] at g0
      rw [k2] at g1
      rw [kI] at g2
      obtain ⟨z0, e0, _, hw0⟩ := DataW.trod_int Try.underlying44 (g0.trans (List.getElem?_eq_getElem (show 0 < ys.length by omega)))
      obtain ⟨z1, e1, _, hw1⟩ := DataW.trod_int Try.underlying2 (g1.trans (List.getElem?_eq_getElem (show 1 < ys.length by omega)))
      obtain ⟨xs, hxs⟩ := open_ints6 (H := H) (enc := enc) (g2.trans (List.getElem?_eq_getElem (show 2 < ys.length by omega)))
      simp only [List.take_succ_cons, List.take_zero, List.cons.injEq, and_true] at e0 e1
      subst e0 e1
      have t0 := hat 0 (by omega)
      have t1 := hat 1 (by omega)
      have t2 := hat 2 (by omega)
      have u0 := spot_none6 (t0.trans rfl)
      have u1 := spot_none6 (t1.trans rfl)
      have u2 := spot_none6 (t2.trans rfl)
      have hs : i = 0 → a.spot = none := fun e => by
        have := u0.1
        subst e
        simpa [Addr.add] using this
      rw [add_at6 u0.1] at t0 u0
      rw [add_at6 u1.1] at t1
      rw [add_at6 u2.1] at t2
      exact ⟨⟨z0, z1, xs⟩, hs, u0.2, c2, t0, t1, t2, hxs, w64_of6 hw0, w64_of6 hw1⟩
    obtain ⟨l, hll, hlp⟩ := pick_list6 len _ each
    refine ⟨l, some a, _, by rw [hll], by omega, hm, fun hne => ?_⟩
    obtain ⟨x0, hx0⟩ : ∃ x, l[0]? = some x := by
      cases l with
      | nil => exact absurd rfl hne
      | cons x t => exact ⟨x, rfl⟩
    obtain ⟨hs, hb, _⟩ := hlp 0 x0 hx0
    refine ⟨a.block, a.off, ?_, Nat.zero_le _, hb, fun i x hx => (hlp i x hx).2.2⟩
    obtain ⟨bb, oo, ss⟩ := a
    have hs := hs rfl
    simp only at hs
    subst hs
    rfl

set_option maxRecDepth 100000 in
/-- A function that came in. -/
theorem open_fun6 {t : TypeId} {v : Value} {d : DataW H} {ps : List MemPlace} (ht : t = 24) (hv : ∃ cs, v = .agg cs) (h : DataW.Trod enc Try.prog W 0 (fun _ => true) true t v d ps) : ∃ F, FunI W 0 W.heap.size v F := by
  subst ht
  obtain ⟨cs, rfl⟩ := hv
  obtain ⟨n, hn⟩ := h
  obtain ⟨ys, m, rfl, _, hlen, hyl, hfl⟩ := DataW.trod_struct Try.underlying24 hn
  have hC : Try.prog.cellsOf 24 = 2 := by kernel_rfl
  have k3 : Try.prog.cellsOf 3 = 1 := by kernel_rfl
  have kN : Try.prog.cellsOf 22 = 1 := by kernel_rfl
  have hy2 : ys.length = 2 := hyl
  rw [hC] at hlen
  obtain ⟨c0, c1, hcs⟩ : ∃ c0 c1, (Value.agg cs).cells.toList = [c0, c1] := by
    generalize (Value.agg cs).cells.toList = L at hlen
    match L, hlen with
    | [c0, c1], _ => exact ⟨c0, c1, rfl⟩
  rw [hcs] at hfl
  have g0 : DataW.trod enc Try.prog W 0 (fun _ => true) true m 3 (List.take (Try.prog.cellsOf 3) [c0, c1]) = ys[0]? := hfl 0 _ rfl
  have g1 : DataW.trod enc Try.prog W 0 (fun _ => true) true m 22 (List.take (Try.prog.cellsOf 22) [c1]) = ys[1]? := hfl 1 _ rfl
  rw [k3] at g0
  rw [kN] at g1
  obtain ⟨z0, e0, _, hw0⟩ := DataW.trod_int Try.underlying3 (g0.trans (List.getElem?_eq_getElem (show 0 < ys.length by omega)))
  obtain ⟨l, hl⟩ := open_nodes6 (H := H) (enc := enc) (g1.trans (List.getElem?_eq_getElem (show 1 < ys.length by omega)))
  simp only [List.take_succ_cons, List.take_zero, List.cons.injEq, and_true] at e0
  subst e0
  refine ⟨⟨z0, l⟩, c1, ?_, w64_of6 hw0, hl⟩
  have e : cs = #[.int .i64 z0, c1] := by
    cases cs
    simpa [Value.cells] using hcs
  rw [e]
end
end Go.Proofs.Ytleihdakmibmhaa
