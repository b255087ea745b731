/- fits: the other Kinds. -/
import Derived.Test.YtmfcecfcfihgaaaVw
namespace Go.Proofs.Ytmfcecfcfihgaaa
open Go.RowKit Go.Shelf
attribute [local go_sem] Oper.semAt_some store_nilFunc store_func

set_option maxRecDepth 100000 in
set_option maxHeartbeats 1600000 in
theorem fits_7 {lo hi : Nat} {s : Value} {l : List V} (d n : Int) (w : World) (h : Ls w lo hi s l) (_hh : hi ≤ w.heap.size) :
    Calls Try.prog 161 #[.agg #[.int .i64 7, .int .i64 n, s, .int .i64 d], knownShapes] w fun e w' => e = .returned (.bool (shapeOf 7 n l)) ∧ Below w.heap.size w w' := by
  have hv : ∀ w', Below w.heap.size w w' → Calls Try.prog 182 #[s] w' fun e w'' => e = .returned (.bool (l.length == 1)) ∧ Below w'.heap.size w' w'' := fun w' _ => by
    obtain ⟨A, c, rfl, _⟩ := h.form
    exact (one_ok A l.length c w').mono (fun e w'' ⟨h1, h2⟩ => ⟨h1, h2 ▸ Below.refl _ w'⟩)
  have hn := zero_ok n
  unfold Says at hn
  have hE : shapeOf 7 n l = ((n == 0) && (l.length == 1)) := by simp [shapeOf]
  rw [hE]
  generalize (l.length == 1) = z at hv ⊢
  generalize (n == 0) = y at hn ⊢
  clear hE h _hh
  unfold knownShapes knownCells
  go_enter Try.func161, Try.ntmps161
  cases y
  · go_wp2_with (go_at_call 175; refine (hn _).mono ?_; rintro e w' ⟨rfl, rfl⟩)
    go_ret
    exact ⟨rfl, below3 w _ _ _⟩
  · go_wp2_with (first | (go_at_call 175; refine (hn _).mono ?_; rintro e w' ⟨rfl, rfl⟩) | (go_at_call 182; refine (hv _ (below3 w _ _ _)).mono ?_; rintro e w' ⟨rfl, hB⟩))
    go_ret
    exact ⟨rfl, (below3 w _ _ _).trans (hB.mono (by simp; omega))⟩


set_option maxRecDepth 100000 in
set_option maxHeartbeats 1600000 in
theorem fits_8 {lo hi : Nat} {s : Value} {l : List V} (d n : Int) (w : World) (h : Ls w lo hi s l) (_hh : hi ≤ w.heap.size) :
    Calls Try.prog 161 #[.agg #[.int .i64 8, .int .i64 n, s, .int .i64 d], knownShapes] w fun e w' => e = .returned (.bool (shapeOf 8 n l)) ∧ Below w.heap.size w w' := by
  have hv : ∀ w', Below w.heap.size w w' → Calls Try.prog 176 #[s] w' fun e w'' => e = .returned (.bool (l.length == 0)) ∧ Below w'.heap.size w' w'' := fun w' _ => by
    obtain ⟨A, c, rfl, _⟩ := h.form
    exact (none_ok A l.length c w').mono (fun e w'' ⟨h1, h2⟩ => ⟨h1, h2 ▸ Below.refl _ w'⟩)
  have hn := zero_ok n
  unfold Says at hn
  have hE : shapeOf 8 n l = ((n == 0) && (l.length == 0)) := by simp [shapeOf]
  rw [hE]
  generalize (l.length == 0) = z at hv ⊢
  generalize (n == 0) = y at hn ⊢
  clear hE h _hh
  unfold knownShapes knownCells
  go_enter Try.func161, Try.ntmps161
  cases y
  · go_wp2_with (go_at_call 175; refine (hn _).mono ?_; rintro e w' ⟨rfl, rfl⟩)
    go_ret
    exact ⟨rfl, below3 w _ _ _⟩
  · go_wp2_with (first | (go_at_call 175; refine (hn _).mono ?_; rintro e w' ⟨rfl, rfl⟩) | (go_at_call 176; refine (hv _ (below3 w _ _ _)).mono ?_; rintro e w' ⟨rfl, hB⟩))
    go_ret
    exact ⟨rfl, (below3 w _ _ _).trans (hB.mono (by simp; omega))⟩


set_option maxRecDepth 100000 in
set_option maxHeartbeats 1600000 in
theorem fits_9 {lo hi : Nat} {s : Value} {l : List V} (d n : Int) (w : World) (h : Ls w lo hi s l) (hh : hi ≤ w.heap.size) :
    Calls Try.prog 161 #[.agg #[.int .i64 9, .int .i64 n, s, .int .i64 d], knownShapes] w fun e w' => e = .returned (.bool (shapeOf 9 n l)) ∧ Below w.heap.size w w' := by
  have hv : ∀ w', Below w.heap.size w w' → Calls Try.prog 183 #[s] w' fun e w'' => e = .returned (.bool (choB l)) ∧ Below w'.heap.size w' w'' := fun w' hb => by
    obtain ⟨A, c, rfl, _⟩ := h.form
    exact choices_ok w' (h.after (hb.mono hh)) (Nat.le_trans hh hb.size)
  have hn := zero_ok n
  unfold Says at hn
  have hE : shapeOf 9 n l = ((n == 0) && choB l) := by simp [shapeOf]
  rw [hE]
  generalize choB l = z at hv ⊢
  generalize (n == 0) = y at hn ⊢
  clear hE h hh
  unfold knownShapes knownCells
  go_enter Try.func161, Try.ntmps161
  cases y
  · go_wp2_with (go_at_call 175; refine (hn _).mono ?_; rintro e w' ⟨rfl, rfl⟩)
    go_ret
    exact ⟨rfl, below3 w _ _ _⟩
  · go_wp2_with (first | (go_at_call 175; refine (hn _).mono ?_; rintro e w' ⟨rfl, rfl⟩) | (go_at_call 183; refine (hv _ (below3 w _ _ _)).mono ?_; rintro e w' ⟨rfl, hB⟩))
    go_ret
    exact ⟨rfl, (below3 w _ _ _).trans (hB.mono (by simp; omega))⟩


set_option maxRecDepth 100000 in
set_option maxHeartbeats 1600000 in
theorem fits_10 {lo hi : Nat} {s : Value} {l : List V} (d n : Int) (w : World) (h : Ls w lo hi s l) (hh : hi ≤ w.heap.size) :
    Calls Try.prog 161 #[.agg #[.int .i64 10, .int .i64 n, s, .int .i64 d], knownShapes] w fun e w' => e = .returned (.bool (shapeOf 10 n l)) ∧ Below w.heap.size w w' := by
  have hv : ∀ w', Below w.heap.size w w' → Calls Try.prog 185 #[s] w' fun e w'' => e = .returned (.bool (evArgB l)) ∧ Below w'.heap.size w' w'' := fun w' hb => by
    obtain ⟨A, c, rfl, _⟩ := h.form
    exact eventAndArguments_ok w' (h.after (hb.mono hh)) (Nat.le_trans hh hb.size)
  have hn := function_ok n
  unfold Says at hn
  have hE : shapeOf 10 n l = ((decide (0 ≤ n) && decide (n < 64)) && evArgB l) := by simp [shapeOf]
  rw [hE]
  generalize evArgB l = z at hv ⊢
  generalize (decide (0 ≤ n) && decide (n < 64)) = y at hn ⊢
  clear hE h hh
  unfold knownShapes knownCells
  go_enter Try.func161, Try.ntmps161
  cases y
  · go_wp2_with (go_at_call 184; refine (hn _).mono ?_; rintro e w' ⟨rfl, rfl⟩)
    go_ret
    exact ⟨rfl, below3 w _ _ _⟩
  · go_wp2_with (first | (go_at_call 184; refine (hn _).mono ?_; rintro e w' ⟨rfl, rfl⟩) | (go_at_call 185; refine (hv _ (below3 w _ _ _)).mono ?_; rintro e w' ⟨rfl, hB⟩))
    go_ret
    exact ⟨rfl, (below3 w _ _ _).trans (hB.mono (by simp; omega))⟩


set_option maxRecDepth 100000 in
set_option maxHeartbeats 1600000 in
theorem fits_11 {lo hi : Nat} {s : Value} {l : List V} (d n : Int) (w : World) (h : Ls w lo hi s l) (_hh : hi ≤ w.heap.size) :
    Calls Try.prog 161 #[.agg #[.int .i64 11, .int .i64 n, s, .int .i64 d], knownShapes] w fun e w' => e = .returned (.bool (shapeOf 11 n l)) ∧ Below w.heap.size w w' := by
  have hv : ∀ w', Below w.heap.size w w' → Calls Try.prog 186 #[s] w' fun e w'' => e = .returned (.bool (decide (l.length ≤ 8))) ∧ Below w'.heap.size w' w'' := fun w' _ => by
    obtain ⟨A, c, rfl, _⟩ := h.form
    exact (arguments_ok A l.length c w').mono (fun e w'' ⟨h1, h2⟩ => ⟨h1, h2 ▸ Below.refl _ w'⟩)
  have hn := function_ok n
  unfold Says at hn
  have hE : shapeOf 11 n l = ((decide (0 ≤ n) && decide (n < 64)) && decide (l.length ≤ 8)) := by simp [shapeOf]
  rw [hE]
  generalize decide (l.length ≤ 8) = z at hv ⊢
  generalize (decide (0 ≤ n) && decide (n < 64)) = y at hn ⊢
  clear hE h _hh
  unfold knownShapes knownCells
  go_enter Try.func161, Try.ntmps161
  cases y
  · go_wp2_with (go_at_call 184; refine (hn _).mono ?_; rintro e w' ⟨rfl, rfl⟩)
    go_ret
    exact ⟨rfl, below3 w _ _ _⟩
  · go_wp2_with (first | (go_at_call 184; refine (hn _).mono ?_; rintro e w' ⟨rfl, rfl⟩) | (go_at_call 186; refine (hv _ (below3 w _ _ _)).mono ?_; rintro e w' ⟨rfl, hB⟩))
    go_ret
    exact ⟨rfl, (below3 w _ _ _).trans (hB.mono (by simp; omega))⟩


set_option maxRecDepth 100000 in
set_option maxHeartbeats 1600000 in
theorem fits_12 {lo hi : Nat} {s : Value} {l : List V} (d n : Int) (w : World) (h : Ls w lo hi s l) (_hh : hi ≤ w.heap.size) :
    Calls Try.prog 161 #[.agg #[.int .i64 12, .int .i64 n, s, .int .i64 d], knownShapes] w fun e w' => e = .returned (.bool (shapeOf 12 n l)) ∧ Below w.heap.size w w' := by
  have hv : ∀ w', Below w.heap.size w w' → Calls Try.prog 186 #[s] w' fun e w'' => e = .returned (.bool (decide (l.length ≤ 8))) ∧ Below w'.heap.size w' w'' := fun w' _ => by
    obtain ⟨A, c, rfl, _⟩ := h.form
    exact (arguments_ok A l.length c w').mono (fun e w'' ⟨h1, h2⟩ => ⟨h1, h2 ▸ Below.refl _ w'⟩)
  have hn := function_ok n
  unfold Says at hn
  have hE : shapeOf 12 n l = ((decide (0 ≤ n) && decide (n < 64)) && decide (l.length ≤ 8)) := by simp [shapeOf]
  rw [hE]
  generalize decide (l.length ≤ 8) = z at hv ⊢
  generalize (decide (0 ≤ n) && decide (n < 64)) = y at hn ⊢
  clear hE h _hh
  unfold knownShapes knownCells
  go_enter Try.func161, Try.ntmps161
  cases y
  · go_wp2_with (go_at_call 184; refine (hn _).mono ?_; rintro e w' ⟨rfl, rfl⟩)
    go_ret
    exact ⟨rfl, below3 w _ _ _⟩
  · go_wp2_with (first | (go_at_call 184; refine (hn _).mono ?_; rintro e w' ⟨rfl, rfl⟩) | (go_at_call 186; refine (hv _ (below3 w _ _ _)).mono ?_; rintro e w' ⟨rfl, hB⟩))
    go_ret
    exact ⟨rfl, (below3 w _ _ _).trans (hB.mono (by simp; omega))⟩


set_option maxRecDepth 100000 in
set_option maxHeartbeats 1600000 in
theorem fits_13 {lo hi : Nat} {s : Value} {l : List V} (d n : Int) (w : World) (h : Ls w lo hi s l) (_hh : hi ≤ w.heap.size) :
    Calls Try.prog 161 #[.agg #[.int .i64 13, .int .i64 n, s, .int .i64 d], knownShapes] w fun e w' => e = .returned (.bool (shapeOf 13 n l)) ∧ Below w.heap.size w w' := by
  have hv : ∀ w', Below w.heap.size w w' → Calls Try.prog 176 #[s] w' fun e w'' => e = .returned (.bool (l.length == 0)) ∧ Below w'.heap.size w' w'' := fun w' _ => by
    obtain ⟨A, c, rfl, _⟩ := h.form
    exact (none_ok A l.length c w').mono (fun e w'' ⟨h1, h2⟩ => ⟨h1, h2 ▸ Below.refl _ w'⟩)
  have hn := natural_ok n
  unfold Says at hn
  have hE : shapeOf 13 n l = (decide (0 ≤ n) && (l.length == 0)) := by simp [shapeOf]
  rw [hE]
  generalize (l.length == 0) = z at hv ⊢
  generalize decide (0 ≤ n) = y at hn ⊢
  clear hE h _hh
  unfold knownShapes knownCells
  go_enter Try.func161, Try.ntmps161
  cases y
  · go_wp2_with (go_at_call 179; refine (hn _).mono ?_; rintro e w' ⟨rfl, rfl⟩)
    go_ret
    exact ⟨rfl, below3 w _ _ _⟩
  · go_wp2_with (first | (go_at_call 179; refine (hn _).mono ?_; rintro e w' ⟨rfl, rfl⟩) | (go_at_call 176; refine (hv _ (below3 w _ _ _)).mono ?_; rintro e w' ⟨rfl, hB⟩))
    go_ret
    exact ⟨rfl, (below3 w _ _ _).trans (hB.mono (by simp; omega))⟩


end Go.Proofs.Ytmfcecfcfihgaaa
