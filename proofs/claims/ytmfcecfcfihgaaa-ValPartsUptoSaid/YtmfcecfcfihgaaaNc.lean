/- The document's own Same; is. -/
import Derived.Test.YtmfcecfcfihgaaaNb
namespace Go.Proofs.Ytmfcecfcfihgaaa
open Go.RowKit Go.Shelf
attribute [local go_sem] Oper.semAt_some

set_option maxRecDepth 100000 in
set_option maxHeartbeats 3200000 in
theorem rSame_ok {hi : Nat} {u v : Value} {T U : V} (w : World) (h : In w 0 hi u T) (h' : In w 0 hi v U) (hh : hi ≤ w.heap.size) (hbT : T.size ≤ 1000000000000) (hbU : U.size ≤ 1000000000000) : Calls Try.prog 24 #[u, v] w fun e w' => e = .returned (.bool (sameB T U)) ∧ Below w.heap.size w w' := by
  obtain ⟨A, c, rfl, hc1, hc2, _⟩ := h.val
  obtain ⟨A', c', rfl, hd1, hd2, _⟩ := h'.val
  obtain ⟨W2, hW2⟩ : ∃ W2, (w.alloc (.cells #[.int .i64 T.k, .int .i64 T.n, .slice A T.l.length c] 36)).alloc (.cells #[.int .i64 U.k, .int .i64 U.n, .slice A' U.l.length c'] 36) = W2 := ⟨_, rfl⟩
  have hb2 : Below w.heap.size w W2 := by rw [← hW2]; exact below2 w _ _
  have b0 : Cells3 W2 w.heap.size (.int .i64 T.k) (.int .i64 T.n) (.slice A T.l.length c) := by rw [← hW2]; exact ((Blk.new w _ _).alloc _).cells3
  have b1 : Cells3 W2 (w.heap.size + 1) (.int .i64 U.k) (.int .i64 U.n) (.slice A' U.l.length c') := by
    rw [← hW2]
    have := (Blk.new (w.alloc (.cells #[.int .i64 T.k, .int .i64 T.n, .slice A T.l.length c] 36)) 36 #[.int .i64 U.k, .int .i64 U.n, .slice A' U.l.length c']).cells3
    rwa [World.size_alloc] at this
  have hS1 := (rSize_ok W2 (h.after (hb2.mono hh)) (Nat.le_trans hh hb2.size) hbT).mono
    (R' := fun e w' => e = .returned (.int .i64 (T.sz : Int)) ∧ Cells3 w' w.heap.size (.int .i64 T.k) (.int .i64 T.n) (.slice A T.l.length c) ∧ Cells3 w' (w.heap.size + 1) (.int .i64 U.k) (.int .i64 U.n) (.slice A' U.l.length c') ∧ Hid (Below w.heap.size w w'))
    (fun e w' q => ⟨q.1, b0.below q.2, b1.below q.2, Lib.hid (hb2.trans (q.2.mono hb2.size))⟩)
  have hS2 : ∀ w1, Cells3 w1 w.heap.size (.int .i64 T.k) (.int .i64 T.n) (.slice A T.l.length c) → Cells3 w1 (w.heap.size + 1) (.int .i64 U.k) (.int .i64 U.n) (.slice A' U.l.length c') → Below w.heap.size w w1 →
      Calls Try.prog 19 #[.agg #[.int .i64 U.k, .int .i64 U.n, .slice A' U.l.length c']] w1 fun e w' => e = .returned (.int .i64 (U.sz : Int)) ∧ Cells3 w' w.heap.size (.int .i64 T.k) (.int .i64 T.n) (.slice A T.l.length c) ∧ Cells3 w' (w.heap.size + 1) (.int .i64 U.k) (.int .i64 U.n) (.slice A' U.l.length c') ∧ Hid (Below w.heap.size w w') :=
    fun w1 g0 g1 gb => (rSize_ok w1 (h'.after (gb.mono hh)) (Nat.le_trans hh gb.size) hbU).mono (fun e w' q => ⟨q.1, g0.below q.2, g1.below q.2, Lib.hid (gb.trans (q.2.mono gb.size))⟩)
  have hE : ∀ w1, Below w.heap.size w w1 → Calls Try.prog 85 #[.agg #[.int .i64 T.k, .int .i64 T.n, .slice A T.l.length c], .agg #[.int .i64 U.k, .int .i64 U.n, .slice A' U.l.length c']] w1
      fun e w' => e = .returned (.bool (V.same T U)) ∧ Below w1.heap.size w1 w' := fun w1 gb => rsame_ok hi T U _ _ w1 (h.after (gb.mono hh)) (h'.after (gb.mono hh)) (Nat.le_trans hh gb.size)
  have hT : T.size ≤ 256 ∧ ((T.sz : Int) ≤ 256) ∨ ¬ T.size ≤ 256 ∧ ¬ ((T.sz : Int) ≤ 256) := by unfold V.sz; omega
  have hU : U.size ≤ 256 ∧ ((U.sz : Int) ≤ 256) ∨ ¬ U.size ≤ 256 ∧ ¬ ((U.sz : Int) ≤ 256) := by unfold V.sz; omega
  unfold sameB
  generalize V.same T U = z at hE ⊢
  rw [← hW2] at hS1
  have HS2 := Lib.hid hS2
  have HE := Lib.hid hE
  clear hS2 hE h h' hbT hbU hb2 b0 b1 hW2
  go_enter Try.func24, Try.ntmps24
  rcases hT with ⟨hT, hTI⟩ | ⟨hT, hTI⟩
  · rcases hU with ⟨hU, hUI⟩ | ⟨hU, hUI⟩
    · simp only [hT, hU, decide_true, Bool.true_and]
      clear hT hU
      go_wp2_with (first | (go_at_call_of 19 (Value.agg #[.int .i64 T.k, .int .i64 T.n, .slice A T.l.length c]); refine hS1.mono ?_; rintro e w1 ⟨rfl, ⟨c0, c1, c2⟩, ⟨c3, c4, c5⟩, hB⟩) | (go_at_call 19; refine (HS2.out _ ⟨c0, c1, c2⟩ ⟨c3, c4, c5⟩ hB.out).mono ?_; rintro e w2 ⟨rfl, ⟨d0, d1, d2⟩, ⟨d3, d4, d5⟩, hB2⟩) | (go_at_call 85; refine (HE.out _ hB2.out).mono ?_; rintro e w3 ⟨rfl, hB3⟩))
      go_ret
      exact ⟨rfl, hB2.out.trans (hB3.mono hB2.out.size)⟩
    · simp only [hT, hU, decide_true, decide_false, Bool.true_and, Bool.false_and]
      clear hT hU
      go_wp2_with (first | (go_at_call_of 19 (Value.agg #[.int .i64 T.k, .int .i64 T.n, .slice A T.l.length c]); refine hS1.mono ?_; rintro e w1 ⟨rfl, ⟨c0, c1, c2⟩, ⟨c3, c4, c5⟩, hB⟩) | (go_at_call 19; refine (HS2.out _ ⟨c0, c1, c2⟩ ⟨c3, c4, c5⟩ hB.out).mono ?_; rintro e w2 ⟨rfl, ⟨d0, d1, d2⟩, ⟨d3, d4, d5⟩, hB2⟩))
      go_ret
      exact ⟨rfl, hB2.out⟩
  · simp only [hT, decide_false, Bool.false_and]
    clear hT hU
    go_wp2_with (go_at_call 19; refine hS1.mono ?_; rintro e w1 ⟨rfl, ⟨c0, c1, c2⟩, ⟨c3, c4, c5⟩, hB⟩)
    go_ret
    exact ⟨rfl, hB.out⟩

set_option maxRecDepth 100000 in
set_option maxHeartbeats 3200000 in
theorem is_ok {hi : Nat} {u v : Value} {T U : V} (n : Int) (w : World) (h : In w 0 hi u T) (h' : In w 0 hi v U) (hh : hi ≤ w.heap.size) (hbT : T.size ≤ 1000000000000) (hbU : U.size ≤ 1000000000000) :
    Calls Try.prog 71 #[u, .int .i64 n, v] w fun e w' => e = .returned (.bool (decide (n = 0) && sameB T U)) ∧ Below w.heap.size w w' := by
  obtain ⟨A, c, rfl, hc1, hc2, _⟩ := h.val
  obtain ⟨A', c', rfl, hd1, hd2, _⟩ := h'.val
  have hb2 := below2 w (.cells #[.int .i64 T.k, .int .i64 T.n, .slice A T.l.length c] 36) (.cells #[.int .i64 U.k, .int .i64 U.n, .slice A' U.l.length c'] 36)
  have hS := (rSame_ok _ (h.after (hb2.mono hh)) (h'.after (hb2.mono hh)) (Nat.le_trans hh hb2.size) hbT hbU).mono
    (R' := fun e w' => e = .returned (.bool (sameB T U)) ∧ Hid (Below w.heap.size w w')) (fun e w' q => ⟨q.1, Lib.hid (hb2.trans (q.2.mono hb2.size))⟩)
  have HB := Lib.hid hb2
  clear h h' hb2 hbT hbU
  generalize sameB T U = z at hS ⊢
  by_cases hn : n = 0
  · have hnI : n = (0 : Int) := hn
    simp only [hn, decide_true, Bool.true_and]
    subst hnI
    go_enter Try.func71, Try.ntmps71
    go_wp2_with (first | (go_at_call 63; refine (num_ok _ _).mono ?_; rintro e w' ⟨rfl, rfl⟩) | (go_at_call 24; refine hS.mono ?_; rintro e w' ⟨rfl, hQ⟩))
    go_ret
    exact ⟨rfl, hQ.out⟩
  · simp only [hn, decide_false, Bool.false_and]
    go_enter Try.func71, Try.ntmps71
    go_wp2_with (go_at_call 63; refine (num_ok _ _).mono ?_; rintro e w' ⟨rfl, rfl⟩)
    go_ret
    exact ⟨rfl, HB.out⟩
end Go.Proofs.Ytmfcecfcfihgaaa
