/- Arguments that are values, or slices of values, opened. -/
import Derived.Test.YtmfcecfcfihgaaaRows
import Derived.Test.YtmfcecfcfihgaaaVa
import Derived.ProofKit
import Derived.OpenShut
import Derived.Deep.Slices
import Derived.Deep.Fields
import Derived.ChangeSame
namespace Go.Proofs.Ytmfcecfcfihgaaa
open Go.ChangeShapes Go.WideShapes Go.ChangeAt Go.RowKit Go.Deep

theorem pick_list {α : Type} (n : Nat) (p : Nat → α → Prop) (h : ∀ i, i < n → ∃ x, p i x) : ∃ l : List α, l.length = n ∧ ∀ i x, l[i]? = some x → p i x := by
  induction n with
  | zero => exact ⟨[], rfl, fun i x hx => by simp at hx⟩
  | succ n ih =>
    obtain ⟨l, hl, hp⟩ := ih (fun i hi => h i (by omega))
    obtain ⟨y, hy⟩ := h n (by omega)
    refine ⟨l ++ [y], by simp [hl], fun i x hx => ?_⟩
    rcases Nat.lt_or_ge i l.length with hi | hi
    · rw [List.getElem?_append_left hi] at hx
      exact hp i x hx
    · rw [List.getElem?_append_right hi] at hx
      have h1 := (List.getElem?_eq_some_iff.1 hx).1
      simp at h1
      have e : i = n := by omega
      subst e
      rw [hl] at hx
      simp at hx
      subst hx
      exact hy
theorem spot_none {W : World} {a : Addr} {v : Value} (h : W.cell? a = some v) : a.spot = none ∧ a.block < W.heap.size := by
  unfold World.cell? at h
  split at h
  · rename_i hb
    refine ⟨?_, (Array.getElem?_eq_some_iff.1 hb).1⟩
    cases hs : a.spot with
    | none => rfl
    | some _ => rw [hs] at h; simp at h
  · cases h
theorem add_at {a : Addr} {n j : Nat} (h : ((a.add n).add j).spot = none) : (a.add n).add j = ⟨a.block, a.off + n + j, none⟩ := by
  obtain ⟨bb, oo, ss⟩ := a
  unfold Addr.add at *
  by_cases hn : n = 0
  · by_cases hj : j = 0
    · simp [hn, hj] at h ⊢; exact h
    · simp [hn, hj]
  · by_cases hj : j = 0
    · simp [hn, hj]
    · simp [hn, hj]
theorem w64_of {x : Int} (h : (Lit.int .i64 x).wf = true) : W64 x := by
  simp [Lit.wf, IntKind.min, IntKind.max, IntKind.bits, IntKind.signed] at h
  unfold W64
  omega

section
variable {H : Type} {enc : TypeId × Value → H} {W : World}

theorem bulk_append (l r : List (DataW H)) : Rows.uptoBulkAll (l ++ r) = Rows.uptoBulkAll l + Rows.uptoBulkAll r := by
  induction l with
  | nil => simp [Rows.uptoBulkAll]
  | cons x l ih => simp only [List.cons_append, Rows.uptoBulkAll, ih]; omega
theorem bulk_sum {l : List (V × Value × (DataW H × List MemPlace))} (h : ∀ (i : Nat) (p : V × Value × (DataW H × List MemPlace)), l[i]? = some p → p.1.size ≤ Rows.uptoBulk p.2.2.1) : V.sizeL (l.map (·.1)) ≤ Rows.uptoBulkAll (l.map fun p => p.2.2.1) := by
  induction l with
  | nil => simp [V.sizeL_nil, Rows.uptoBulkAll]
  | cons p l ih =>
    simp only [List.map_cons, V.sizeL_cons, Rows.uptoBulkAll]
    have h0 := h 0 p (by simp)
    have h1 := ih (fun i q hq => h (i + 1) q (by simpa using hq))
    omega

/-- Data of the fuel n that stand for a value. -/
def OpensV (H : Type) (enc : TypeId × Value → H) (W : World) (n : Nat) : Prop := ∀ cs x, DataW.trod enc Try.prog W 0 (fun _ => true) true n 36 cs = some x →
  ∃ T s, cs = [.int .i64 T.k, .int .i64 T.n, s] ∧ In W 0 W.heap.size (.agg #[.int .i64 T.k, .int .i64 T.n, s]) T ∧ T.size ≤ Rows.uptoBulk x.1

set_option maxRecDepth 100000 in
theorem open_vals_at {n : Nat} (ih : OpensV H enc W n) {s : Value} {x : DataW H × List MemPlace} (h : DataW.trod enc Try.prog W 0 (fun _ => true) true (n + 1) 34 [s] = some x) :
    ∃ l, Ls W 0 W.heap.size s l ∧ V.sizeL l ≤ Rows.uptoBulk x.1 := by
  rcases DataW.trod_slice Try.underlying34 h with ⟨h0, _⟩ | ⟨a, len, cap, elems, rest, m, hm, hcs, rfl, hb, hl, hmx, hel, hat, hsp, hns⟩
  · simp only [List.cons.injEq, and_true] at h0
    subst h0
    exact ⟨[], Ls.nil W 0 _ 0 none (by simp [maxLen]), by rw [V.sizeL_nil]; exact Nat.zero_le _⟩
  · obtain rfl : n = m := by omega
    simp only [List.cons.injEq, and_true] at hcs
    subst hcs
    have hC : Try.prog.cellsOf 36 = 3 := by kernel_rfl
    have each : ∀ i, i < len → ∃ p : V × Value × (DataW H × List MemPlace), elems[i]? = some p.2.2 ∧ (i = 0 → a.spot = none) ∧ a.block < W.heap.size ∧ Three W a.block (a.off + i * 3) p.2.1 ∧ In W 0 W.heap.size p.2.1 p.1 ∧ p.1.size ≤ Rows.uptoBulk p.2.2.1 := fun i hi => by
      have hb := hat i hi
      rw [List.getElem?_eq_getElem (by omega)] at hb
      obtain ⟨cs', hc, ht⟩ := Option.bind_eq_some_iff.1 hb
      rw [hC] at hc
      obtain ⟨T, s, rfl, hin, hsz⟩ := ih _ _ ht
      obtain ⟨_, hcl, hcell⟩ := World.cells?_some hc
      have t0 := hcell 0 (by omega)
      have t1 := hcell 1 (by omega)
      have t2 := hcell 2 (by omega)
      have u0 := spot_none (t0.trans rfl)
      have u1 := spot_none (t1.trans rfl)
      have u2 := spot_none (t2.trans rfl)
      have hs : i = 0 → a.spot = none := fun e => by
        have := u0.1
        subst e
        simpa [Addr.add] using this
      have hbk : a.block < W.heap.size := by
        have := u0.2
        rw [add_at u0.1] at this
        exact this
      rw [add_at u0.1] at t0
      rw [add_at u1.1] at t1
      rw [add_at u2.1] at t2
      exact ⟨(T, .agg #[.int .i64 T.k, .int .i64 T.n, s], elems[i]), List.getElem?_eq_getElem (by omega), hs, hbk, ⟨_, _, _, rfl, t0, t1, t2⟩, hin, hsz⟩
    obtain ⟨l, hll, hlp⟩ := pick_list len _ each
    have hE : elems = l.map fun p => p.2.2 := by
      apply List.ext_getElem?
      intro i
      rcases Nat.lt_or_ge i l.length with hi | hi
      · rw [(hlp i l[i] (List.getElem?_eq_getElem hi)).1]
        simp [List.getElem?_eq_getElem hi]
      · rw [List.getElem?_eq_none (by omega), List.getElem?_eq_none (by simpa using hi)]
    refine ⟨l.map (·.1), ⟨some a, cap, a.block, a.off, fun i => ((l[i]?).map fun p => p.2.1).getD undef, by simp [hll], by simpa [hll] using hl, hmx, fun hne => ?_, fun i hi => ?_, fun i T hT => ?_⟩, ?_⟩
    · obtain ⟨p0, hp0⟩ : ∃ p, l[0]? = some p := by
        cases l with
        | nil => exact absurd rfl hne
        | cons x t => exact ⟨x, rfl⟩
      obtain ⟨_, hs, hbk, _⟩ := hlp 0 p0 hp0
      refine ⟨?_, Nat.zero_le _, hbk⟩
      obtain ⟨bb, oo, ss⟩ := a
      have hs := hs rfl
      simp only at hs
      subst hs
      rfl
    · have hi' : i < l.length := by simpa using hi
      have hg := List.getElem?_eq_getElem hi'
      have := (hlp i _ hg).2.2.2.1
      simpa [hg] using this
    · simp only [List.getElem?_map, Option.map_eq_some_iff] at hT
      obtain ⟨p, hp, rfl⟩ := hT
      have := (hlp i p hp).2.2.2.2.1
      simpa [hp] using this
    · have h1 := bulk_sum (l := l) fun i p hp => (hlp i p hp).2.2.2.2.2
      simp only [Rows.uptoBulk]
      have e : elems.map (·.1) = l.map fun p => p.2.2.1 := by rw [hE]; simp
      rw [e]
      omega

set_option maxRecDepth 100000 in
theorem open_val_at : ∀ n, OpensV H enc W n := by
  intro n
  induction n using Nat.strongRecOn with
  | ind n ih =>
    intro cs x h
    obtain ⟨ys, m, rfl, rfl, hlen, hyl, hfl⟩ := DataW.trod_struct Try.underlying36 h
    have hC : Try.prog.cellsOf 36 = 3 := by kernel_rfl
    have kK : Try.prog.cellsOf 33 = 1 := by kernel_rfl
    have k2 : Try.prog.cellsOf 2 = 1 := by kernel_rfl
    have kL : Try.prog.cellsOf 34 = 1 := by kernel_rfl
    have hy3 : ys.length = 3 := hyl
    rw [hC] at hlen
    obtain ⟨c0, c1, c2, rfl⟩ : ∃ c0 c1 c2, cs = [c0, c1, c2] := by
      match cs, hlen with
      | [c0, c1, c2], _ => exact ⟨c0, c1, c2, rfl⟩
    have g0 : DataW.trod enc Try.prog W 0 (fun _ => true) true m 33 (List.take (Try.prog.cellsOf 33) [c0, c1, c2]) = ys[0]? := hfl 0 _ rfl
    have g1 : DataW.trod enc Try.prog W 0 (fun _ => true) true m 2 (List.take (Try.prog.cellsOf 2) [c1, c2]) = ys[1]? := hfl 1 _ rfl
    have g2 : DataW.trod enc Try.prog W 0 (fun _ => true) true m 34 (List.take (Try.prog.cellsOf 34) [c2]) = ys[2]? := hfl 2 _ rfl
    rw [kK] at g0
    rw [k2] at g1
    rw [kL] at g2
    obtain ⟨y0, y1, y2, rfl⟩ : ∃ y0 y1 y2, ys = [y0, y1, y2] := by
      match ys, hy3 with
      | [y0, y1, y2], _ => exact ⟨y0, y1, y2, rfl⟩
    simp only [List.take_succ_cons, List.take_zero] at g0 g1 g2
    obtain ⟨z0, e0, f0, hw0⟩ := DataW.trod_int Try.underlying33 (g0.trans rfl)
    obtain ⟨z1, e1, f1, hw1⟩ := DataW.trod_int Try.underlying2 (g1.trans rfl)
    simp only [List.cons.injEq, and_true] at e0 e1
    subst e0 e1
    cases m with
    | zero => simp [DataW.trod] at g2
    | succ k =>
      obtain ⟨l, hl, hs⟩ := open_vals_at (ih k (by omega)) (g2.trans rfl)
      refine ⟨.mk z0 z1 l, c2, rfl, In.of (w64_of hw0) (w64_of hw1) hl, ?_⟩
      rw [V.size_mk]
      simp only [Rows.uptoBulk, List.map_cons, List.map_nil, Rows.uptoBulkAll]
      have h0 : 1 ≤ Rows.uptoBulk y0.1 := by rw [f0]; simp [Rows.uptoBulk]
      omega

/-- A value that came in. -/
theorem open_val {t : TypeId} {v : Value} {d : DataW H} {ps : List MemPlace} (ht : t = 36) (hv : ∃ cs, v = .agg cs) (h : DataW.Trod enc Try.prog W 0 (fun _ => true) true t v d ps) : ∃ T, In W 0 W.heap.size v T ∧ T.size ≤ Rows.uptoBulk d := by
  subst ht
  obtain ⟨cs, rfl⟩ := hv
  obtain ⟨n, hn⟩ := h
  obtain ⟨T, s, hcs, hin, hsz⟩ := open_val_at n _ _ hn
  refine ⟨T, ?_, hsz⟩
  have e : cs = #[.int .i64 T.k, .int .i64 T.n, s] := by
    cases cs
    simpa [Value.cells] using hcs
  rw [e]
  exact hin
/-- A slice of values that came in. -/
theorem open_vals {t : TypeId} {A : Option Addr} {m c : Nat} {d : DataW H} {ps : List MemPlace} (ht : t = 34) (h : DataW.Trod enc Try.prog W 0 (fun _ => true) true t (.slice A m c) d ps) : ∃ l, Ls W 0 W.heap.size (.slice A m c) l ∧ V.sizeL l ≤ Rows.uptoBulk d := by
  subst ht
  obtain ⟨n, hn⟩ := h
  cases n with
  | zero => simp [DataW.trod] at hn
  | succ k => exact open_vals_at (open_val_at k) hn
end
end Go.Proofs.Ytmfcecfcfihgaaa
