/- Same. -/
import Derived.Test.YtmfcecfcfihgaaaWx
import Derived.Deep.RegionWith
namespace Go.Proofs.Ytmfcecfcfihgaaa
open Go.RowKit Go.Shelf
attribute [local go_sem] Oper.semAt_some

/-- A box that holds a value, cell by cell. -/
def Cells3 (W : World) (g : Nat) (x y z : Value) : Prop := W.cell? ⟨g, 0, none⟩ = some x ∧ W.cell? ⟨g, 1, none⟩ = some y ∧ W.cell? ⟨g, 2, none⟩ = some z
theorem Blk.cells3 {W : World} {g : Nat} {t : TypeId} {x y z : Value} (h : Blk W g t #[x, y, z]) : Cells3 W g x y z := ⟨by simpa using h.cell 0, by simpa using h.cell 1, by simpa using h.cell 2⟩
theorem Cells3.below {W W' : World} {g : Nat} {x y z : Value} (h : Cells3 W g x y z) (hb : Below W.heap.size W W') : Cells3 W' g x y z := by
  have hlt := lt_of_cell h.1
  exact ⟨(cell_same (p := ⟨g, 0, none⟩) (hb.block g hlt)).trans h.1, (cell_same (p := ⟨g, 1, none⟩) (hb.block g hlt)).trans h.2.1, (cell_same (p := ⟨g, 2, none⟩) (hb.block g hlt)).trans h.2.2⟩

def sameB (a b : V) : Bool := decide (a.size ≤ 256) && (decide (b.size ≤ 256) && V.same a b)

set_option maxRecDepth 100000 in
set_option maxHeartbeats 3200000 in
theorem Same_ok {hi : Nat} {u v : Value} {T U : V} (w : World) (h : In w 0 hi u T) (h' : In w 0 hi v U) (hh : hi ≤ w.heap.size) : Calls Try.prog 135 #[u, v] w fun e w' => e = .returned (.bool (sameB T U)) ∧ Below w.heap.size w w' := by
  obtain ⟨A, c, rfl, hc1, hc2, _⟩ := h.val
  obtain ⟨A', c', rfl, hd1, hd2, _⟩ := h'.val
  obtain ⟨W2, hW2⟩ : ∃ W2, (w.alloc (.cells #[.int .i64 T.k, .int .i64 T.n, .slice A T.l.length c] 36)).alloc (.cells #[.int .i64 U.k, .int .i64 U.n, .slice A' U.l.length c'] 36) = W2 := ⟨_, rfl⟩
  have hb2 : Below w.heap.size w W2 := by rw [← hW2]; exact below2 w _ _
  have b0 : Cells3 W2 w.heap.size (.int .i64 T.k) (.int .i64 T.n) (.slice A T.l.length c) := by rw [← hW2]; exact ((Blk.new w _ _).alloc _).cells3
  have b1 : Cells3 W2 (w.heap.size + 1) (.int .i64 U.k) (.int .i64 U.n) (.slice A' U.l.length c') := by
    rw [← hW2]
    have := (Blk.new (w.alloc (.cells #[.int .i64 T.k, .int .i64 T.n, .slice A T.l.length c] 36)) 36 #[.int .i64 U.k, .int .i64 U.n, .slice A' U.l.length c']).cells3
    rwa [World.size_alloc] at this
  have hS1 := (Size_ok W2 (h.after (hb2.mono hh)) (Nat.le_trans hh hb2.size)).mono
    (R' := fun e w' => e = .returned (.int .i64 (T.sz : Int)) ∧ Cells3 w' w.heap.size (.int .i64 T.k) (.int .i64 T.n) (.slice A T.l.length c) ∧ Cells3 w' (w.heap.size + 1) (.int .i64 U.k) (.int .i64 U.n) (.slice A' U.l.length c') ∧ Hid (Below w.heap.size w w'))
    (fun e w' q => ⟨q.1, b0.below q.2, b1.below q.2, Lib.hid (hb2.trans (q.2.mono hb2.size))⟩)
  have hS2 : ∀ w1, Cells3 w1 w.heap.size (.int .i64 T.k) (.int .i64 T.n) (.slice A T.l.length c) → Cells3 w1 (w.heap.size + 1) (.int .i64 U.k) (.int .i64 U.n) (.slice A' U.l.length c') → Below w.heap.size w w1 →
      Calls Try.prog 69 #[.agg #[.int .i64 U.k, .int .i64 U.n, .slice A' U.l.length c']] w1 fun e w' => e = .returned (.int .i64 (U.sz : Int)) ∧ Cells3 w' w.heap.size (.int .i64 T.k) (.int .i64 T.n) (.slice A T.l.length c) ∧ Cells3 w' (w.heap.size + 1) (.int .i64 U.k) (.int .i64 U.n) (.slice A' U.l.length c') ∧ Hid (Below w.heap.size w w') :=
    fun w1 g0 g1 gb => (Size_ok w1 (h'.after (gb.mono hh)) (Nat.le_trans hh gb.size)).mono (fun e w' q => ⟨q.1, g0.below q.2, g1.below q.2, Lib.hid (gb.trans (q.2.mono gb.size))⟩)
  have hE : ∀ w1, Below w.heap.size w w1 → Calls Try.prog 163 #[.agg #[.int .i64 T.k, .int .i64 T.n, .slice A T.l.length c], .agg #[.int .i64 U.k, .int .i64 U.n, .slice A' U.l.length c']] w1
      fun e w' => e = .returned (.bool (V.same T U)) ∧ Below w1.heap.size w1 w' := fun w1 gb => equal_ok hi T U _ _ w1 (h.after (gb.mono hh)) (h'.after (gb.mono hh)) (Nat.le_trans hh gb.size)
  have hT : T.size ≤ 256 ∧ ((T.sz : Int) ≤ 256) ∨ ¬ T.size ≤ 256 ∧ ¬ ((T.sz : Int) ≤ 256) := by unfold V.sz; omega
  have hU : U.size ≤ 256 ∧ ((U.sz : Int) ≤ 256) ∨ ¬ U.size ≤ 256 ∧ ¬ ((U.sz : Int) ≤ 256) := by unfold V.sz; omega
  unfold sameB
  generalize V.same T U = z at hE ⊢
  rw [← hW2] at hS1
  have HS2 := Lib.hid hS2
  have HE := Lib.hid hE
  clear hS2 hE h h' hb2 b0 b1 hW2
  go_enter Try.func135, Try.ntmps135
  rcases hT with ⟨hT, hTI⟩ | ⟨hT, hTI⟩
  · rcases hU with ⟨hU, hUI⟩ | ⟨hU, hUI⟩
    · simp only [hT, hU, decide_true, Bool.true_and]
      clear hT hU
      go_wp2_with (first | (go_at_call_of 69 (Value.agg #[.int .i64 T.k, .int .i64 T.n, .slice A T.l.length c]); refine hS1.mono ?_; rintro e w1 ⟨rfl, ⟨c0, c1, c2⟩, ⟨c3, c4, c5⟩, hB⟩) | (go_at_call 69; refine (HS2.out _ ⟨c0, c1, c2⟩ ⟨c3, c4, c5⟩ hB.out).mono ?_; rintro e w2 ⟨rfl, ⟨d0, d1, d2⟩, ⟨d3, d4, d5⟩, hB2⟩) | (go_at_call 163; refine (HE.out _ hB2.out).mono ?_; rintro e w3 ⟨rfl, hB3⟩))
      go_ret
      exact ⟨rfl, hB2.out.trans (hB3.mono hB2.out.size)⟩
    · simp only [hT, hU, decide_true, decide_false, Bool.true_and, Bool.false_and]
      clear hT hU
      go_wp2_with (first | (go_at_call_of 69 (Value.agg #[.int .i64 T.k, .int .i64 T.n, .slice A T.l.length c]); refine hS1.mono ?_; rintro e w1 ⟨rfl, ⟨c0, c1, c2⟩, ⟨c3, c4, c5⟩, hB⟩) | (go_at_call 69; refine (HS2.out _ ⟨c0, c1, c2⟩ ⟨c3, c4, c5⟩ hB.out).mono ?_; rintro e w2 ⟨rfl, ⟨d0, d1, d2⟩, ⟨d3, d4, d5⟩, hB2⟩))
      go_ret
      exact ⟨rfl, hB2.out⟩
  · simp only [hT, decide_false, Bool.false_and]
    clear hT hU
    go_wp2_with (go_at_call 69; refine hS1.mono ?_; rintro e w1 ⟨rfl, ⟨c0, c1, c2⟩, ⟨c3, c4, c5⟩, hB⟩)
    go_ret
    exact ⟨rfl, hB.out⟩
end Go.Proofs.Ytmfcecfcfihgaaa
