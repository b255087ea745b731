/- PickHolds, walked. -/
import Derived.Test.YtchmoalcjbolbaaMc
import Derived.Test.YtchmoalcjbolbaaFc
namespace Go.Proofs.Ytchmoalcjbolbaa
open Go.RowKit Go.Shelf Go.Sort
attribute [local go_sem] Oper.semAt_some

/-- A slice of words of sixteen bits that is read. -/
def Wds (W : World) (u : Value) (xs : List Int) : Prop :=
  ∃ A c, u = .slice A xs.length c ∧ xs.length ≤ c ∧ c ≤ maxLen ∧ (∀ x ∈ xs, 0 ≤ x ∧ x < 65536) ∧
    (xs ≠ [] → ∃ b o, A = some ⟨b, o, none⟩ ∧ b < W.heap.size ∧ ∀ i x, xs[i]? = some x → W.cell? ⟨b, o + i, none⟩ = some (.int .u16 x))
theorem Wds.kept {W W' : World} {u : Value} {xs : List Int} (h : Wds W u xs) (hk : CellsKept W W') : Wds W' u xs := by
  obtain ⟨A, c, rfl, h1, h2, hw, h3⟩ := h
  refine ⟨A, c, rfl, h1, h2, hw, fun hne => ?_⟩
  obtain ⟨b, o, rfl, hb, hc⟩ := h3 hne
  obtain ⟨x, hx⟩ : ∃ x, xs[0]? = some x := by
    cases xs with
    | nil => exact absurd rfl hne
    | cons x t => exact ⟨x, rfl⟩
  exact ⟨b, o, rfl, by simpa using hk.lt (hc 0 x hx), fun i x hx => hk _ _ (hc i x hx)⟩
theorem Wds.at_ {W : World} {A : Option Addr} {n c : Nat} {xs : List Int} (h : Wds W (.slice A n c) xs) {i : Nat} {x : Int} (hx : xs[i]? = some x) :
    ∃ b o, A = some ⟨b, o, none⟩ ∧ b < W.heap.size ∧ W.cell? ⟨b, o + i, none⟩ = some (.int .u16 x) := by
  obtain ⟨A', c', hv, h1, h2, hw, h3⟩ := h
  simp only [Value.slice.injEq] at hv
  obtain ⟨rfl, rfl, rfl⟩ := hv
  obtain ⟨b, o, rfl, hb, hc⟩ := h3 (by rintro rfl; simp at hx)
  exact ⟨b, o, rfl, hb, hc i x hx⟩

/-- The threads that could go, as far as they are read. -/
structure RB (w1 : World) (n t : Nat) (xs : List Int) (v : Value) (W : World) : Prop where
  row : Row W 3 1 v xs.length (xs.map (Value.int .i64))
  own : ∀ j, v.ownBlock = some j → w1.heap.size ≤ j
  bl : Below w1.heap.size w1 W
  rising : xs.Pairwise (· < ·)
  within : ∀ x ∈ xs, 0 ≤ x ∧ x < (t : Int)
  few : xs.length ≤ t
theorem RB.skip {w1 W : World} {n t : Nat} {xs : List Int} {v : Value} (h : RB w1 n t xs v W) : RB w1 n (t + 1) xs v W :=
  ⟨h.row, h.own, h.bl, h.rising, fun x hx => by have := h.within x hx; omega, by have := h.few; omega⟩
theorem RB.next {w1 W w2 : World} {n t : Nat} {xs : List Int} {v v' : Value} {o : Obj} (h : RB w1 n t xs v W) (hr : Row w2 3 1 v' (xs.length + 1) (xs.map (Value.int .i64) ++ [.int .i64 (t : Int)])) (hg : (W.alloc o).grownBy w2 v.ownBlock)
    (ho : v'.ownBlock = v.ownBlock ∨ v'.ownBlock = some (W.alloc o).heap.size) : RB w1 n (t + 1) (xs ++ [(t : Int)]) v' w2 := by
  refine ⟨?_, ?_, ?_, ?_, ?_, ?_⟩
  · simpa using hr
  · intro j hj
    rcases ho with ho | ho
    · rw [ho] at hj; exact h.own j hj
    · rw [ho] at hj; injection hj with hj; have := h.bl.size; simp at hj; omega
  · refine ⟨hg.os.trans h.bl.os, hg.tape.trans h.bl.tape, hg.output.trans h.bl.output, Nat.le_trans h.bl.size (Nat.le_trans (by simp) hg.size), fun j hj => ?_⟩
    exact ((hg.block j (by have := h.bl.size; simp; omega) (fun e => by have := h.own j e.symm; omega)).trans (Below.heap_alloc _ _ _ (by have := h.bl.size; omega))).trans (h.bl.block j hj)
  · rw [List.pairwise_append]
    refine ⟨h.rising, List.pairwise_singleton _ _, fun a ha b hb => ?_⟩
    simp at hb
    subst hb
    exact (h.within a ha).2
  · intro x hx
    rcases List.mem_append.1 hx with hx | hx
    · have := h.within x hx; omega
    · simp at hx; omega
  · have := h.few; simp; omega

/-- The turns of the run, as far as they are made. -/
structure RH (w0 : World) (lr : List Tn) (v : Value) (W : World) : Prop where
  row : ∃ cs, Row W 57 2 v lr.length cs ∧ ∀ i x, lr[i]? = some x → ∃ A c, cs[i * 2]? = some (.slice A x.runs.length c) ∧ Row W 3 1 (.slice A x.runs.length c) x.runs.length (x.runs.map (Value.int .i64)) ∧ cs[i * 2 + 1]? = some (.int .i64 x.took)
  own : ∀ j, v.ownBlock = some j → w0.heap.size ≤ j
  bl : Below w0.heap.size w0 W
theorem RH.below {w0 W W' : World} {lr : List Tn} {v : Value} (h : RH w0 lr v W) (hb : Below W.heap.size W W') : RH w0 lr v W' := by
  obtain ⟨⟨cs, h1, h2⟩, h3, h4⟩ := h
  refine ⟨⟨cs, h1.keep (fun j hj => hb.block _ (h1.lt j hj)), fun i x hx => ?_⟩, h3, h4.trans (hb.mono h4.size)⟩
  obtain ⟨A, c, q1, q2, q3⟩ := h2 i x hx
  exact ⟨A, c, q1, q2.keep (fun j hj => hb.block _ (q2.lt j hj)), q3⟩
theorem RH.form {w0 W : World} {lr : List Tn} {v : Value} (h : RH w0 lr v W) : ∃ A c, v = .slice A lr.length c := by
  obtain ⟨⟨cs, h1, _⟩, _⟩ := h
  obtain ⟨A, c, e, _⟩ := h1.form
  exact ⟨A, c, e⟩
theorem RH.turns {w0 W : World} {lr : List Tn} {v : Value} (h : RH w0 lr v W) (hw : ∀ x ∈ lr, (∀ t ∈ x.runs, W64 t) ∧ W64 x.took) : Turns W v lr := by
  obtain ⟨⟨cs, h1, h2⟩, h3, h4⟩ := h
  refine turns_of_row (cs := cs) h1 (fun i x hx => ?_)
  obtain ⟨A, c, q1, q2, q3⟩ := h2 i x hx
  have := hw x (List.mem_of_getElem? hx)
  exact ⟨_, q1, ints_of_row q2 this.1, q3, this.2⟩
/-- One turn is appended. -/
theorem RH.next {w0 w1 w2 : World} {lr : List Tn} {v v' : Value} {A : Option Addr} {c : Nat} {y : Tn} (h : RH w0 lr v w1) (hr : Row w1 3 1 (.slice A y.runs.length c) y.runs.length (y.runs.map (Value.int .i64))) (cs : List Value)
    (hcs : Row w1 57 2 v lr.length cs ∧ ∀ i x, lr[i]? = some x → ∃ A c, cs[i * 2]? = some (.slice A x.runs.length c) ∧ Row w1 3 1 (.slice A x.runs.length c) x.runs.length (x.runs.map (Value.int .i64)) ∧ cs[i * 2 + 1]? = some (.int .i64 x.took))
    {o : Obj} (hr' : Row w2 57 2 v' (lr.length + 1) (cs ++ [.slice A y.runs.length c, .int .i64 y.took])) (hg : (w1.alloc o).grownBy w2 v.ownBlock) (ho : v'.ownBlock = v.ownBlock ∨ v'.ownBlock = some (w1.alloc o).heap.size) : RH w0 (lr ++ [y]) v' w2 := by
  obtain ⟨h1, h2⟩ := hcs
  have keep : ∀ j, j < w1.heap.size → v.ownBlock ≠ some j → w2.heap[j]? = w1.heap[j]? := fun j hj hne =>
    (hg.block j (by simp; omega) (fun e => hne e.symm)).trans (Below.heap_alloc _ _ _ hj)
  have krow : ∀ {A c} {rs : List Int}, Row w1 3 1 (.slice A rs.length c) rs.length (rs.map (Value.int .i64)) → Row w2 3 1 (.slice A rs.length c) rs.length (rs.map (Value.int .i64)) := fun q =>
    q.keep fun j hj => keep j (q.lt j hj) (q.ne_row h1 (by decide) j hj)
  have hl : cs.length = lr.length * 2 := h1.1
  refine ⟨⟨_, by simpa using hr', fun i x hx => ?_⟩, ?_, ?_⟩
  · rcases Nat.lt_or_ge i lr.length with hi | hi
    · rw [List.getElem?_append_left hi] at hx
      obtain ⟨A', c', q1, q2, q3⟩ := h2 i x hx
      exact ⟨A', c', by rw [List.getElem?_append_left (by omega)]; exact q1, krow q2, by rw [List.getElem?_append_left (by omega)]; exact q3⟩
    · have hlt := (List.getElem?_eq_some_iff.1 hx).1
      simp at hlt
      have e : i = lr.length := by omega
      subst e
      rw [List.getElem?_append_right (by omega)] at hx
      simp at hx
      subst hx
      exact ⟨A, c, by rw [List.getElem?_append_right (by omega), hl]; simp, krow hr, by rw [List.getElem?_append_right (by omega), hl]; simp⟩
  · intro j hj
    rcases ho with ho | ho
    · rw [ho] at hj; exact h.own j hj
    · rw [ho] at hj; injection hj with hj; have := h.bl.size; simp at hj; omega
  · refine ⟨hg.os.trans h.bl.os, hg.tape.trans h.bl.tape, hg.output.trans h.bl.output, Nat.le_trans h.bl.size (Nat.le_trans (by simp) hg.size), fun j hj => ?_⟩
    exact (keep j (by have := h.bl.size; omega) (fun e => by have := h.own j e; omega)).trans (h.bl.block j hj)
end Go.Proofs.Ytchmoalcjbolbaa
