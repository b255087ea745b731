/- fits, of any part. -/
import Derived.Test.YtmfcecfcfihgaaaVe
import Derived.Test.YtmfcecfcfihgaaaVf
namespace Go.Proofs.Ytmfcecfcfihgaaa
open Go.RowKit Go.Shelf
attribute [local go_sem] Oper.semAt_some store_nilFunc store_func

set_option maxRecDepth 100000 in
set_option maxHeartbeats 1600000 in
theorem fits_off {s : Value} (d k n : Int) (w : World) (hk : k ≤ 0 ∨ 14 ≤ k) :
    Calls Try.prog 161 #[.agg #[.int .i64 k, .int .i64 n, s, .int .i64 d], knownShapes] w fun e w' => e = .returned (.bool false) ∧ Below w.heap.size w w' := by
  unfold knownShapes knownCells
  go_enter Try.func161, Try.ntmps161
  rcases hk with hk | hk
  · go_wp2_with fail
    go_ret
    exact ⟨rfl, below2 w _ _⟩
  · have hk0 : ¬ k ≤ 0 := by omega
    go_wp2_with fail
    go_ret
    exact ⟨rfl, below2 w _ _⟩
theorem shapeOf_off {k n : Int} {l : List V} (hk : k ≤ 0 ∨ 14 ≤ k) : shapeOf k n l = false := by
  unfold shapeOf
  repeat (rw [if_neg (by omega)])
/-- fits, of a part. -/
theorem fits_ok {lo hi : Nat} {s : Value} {T : V} (d : Int) (w : World) (h : In w lo hi (.agg #[.int .i64 T.k, .int .i64 T.n, s]) T) (hh : hi ≤ w.heap.size) :
    Calls Try.prog 161 #[.agg #[.int .i64 T.k, .int .i64 T.n, s, .int .i64 d], knownShapes] w fun e w' => e = .returned (.bool (shapeB T)) ∧ Below w.heap.size w w' := by
  obtain ⟨s', e, _, _, hl⟩ := h.parts
  simp only [Value.agg.injEq, Array.mk.injEq, List.cons.injEq, and_true, true_and] at e
  subst e
  unfold shapeB
  by_cases hk : T.k ≤ 0 ∨ 14 ≤ T.k
  · rw [shapeOf_off hk]
    exact fits_off d _ _ w hk
  · have hc : T.k = 1 ∨ T.k = 2 ∨ T.k = 3 ∨ T.k = 4 ∨ T.k = 5 ∨ T.k = 6 ∨ T.k = 7 ∨ T.k = 8 ∨ T.k = 9 ∨ T.k = 10 ∨ T.k = 11 ∨ T.k = 12 ∨ T.k = 13 := by omega
    rcases hc with hc | hc | hc | hc | hc | hc | hc | hc | hc | hc | hc | hc | hc <;> rw [hc]
    · exact fits_1 d _ w hl hh
    · exact fits_2 d _ w hl hh
    · exact fits_3 d _ w hl hh
    · exact fits_4 d _ w hl hh
    · exact fits_5 d _ w hl hh
    · exact fits_6 d _ w hl hh
    · exact fits_7 d _ w hl hh
    · exact fits_8 d _ w hl hh
    · exact fits_9 d _ w hl hh
    · exact fits_10 d _ w hl hh
    · exact fits_11 d _ w hl hh
    · exact fits_12 d _ w hl hh
    · exact fits_13 d _ w hl hh
end Go.Proofs.Ytmfcecfcfihgaaa
