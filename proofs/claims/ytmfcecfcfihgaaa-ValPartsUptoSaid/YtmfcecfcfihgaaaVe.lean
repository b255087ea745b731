/- fits. -/
import Derived.Test.YtmfcecfcfihgaaaVw
namespace Go.Proofs.Ytmfcecfcfihgaaa
open Go.RowKit Go.Shelf
attribute [local go_sem] Oper.semAt_some store_nilFunc store_func

set_option maxRecDepth 100000 in
set_option maxHeartbeats 1600000 in
theorem fits_1 {lo hi : Nat} {s : Value} {l : List V} (d n : Int) (w : World) (h : Ls w lo hi s l) (_hh : hi ≤ w.heap.size) :
    Calls Try.prog 161 #[.agg #[.int .i64 1, .int .i64 n, s, .int .i64 d], knownShapes] w fun e w' => e = .returned (.bool (shapeOf 1 n l)) ∧ Below w.heap.size w w' := by
  have hv : ∀ w', Below w.heap.size w w' → Calls Try.prog 176 #[s] w' fun e w'' => e = .returned (.bool (l.length == 0)) ∧ Below w'.heap.size w' w'' := fun w' _ => by
    obtain ⟨A, c, rfl, _⟩ := h.form
    exact (none_ok A l.length c w').mono (fun e w'' ⟨h1, h2⟩ => ⟨h1, h2 ▸ Below.refl _ w'⟩)
  have hn := zero_ok n
  unfold Says at hn
  have hE : shapeOf 1 n l = ((n == 0) && (l.length == 0)) := by simp [shapeOf]
  rw [hE]
  generalize (l.length == 0) = z at hv ⊢
  generalize (n == 0) = y at hn ⊢
  clear hE h _hh
  unfold knownShapes knownCells
  go_enter Try.func161, Try.ntmps161
  cases y
  · go_wp2_with (go_at_call 175; refine (hn _).mono ?_; rintro e w' ⟨rfl, rfl⟩)
    go_ret
    exact ⟨rfl, below3 w _ _ _⟩
  · go_wp2_with (first | (go_at_call 175; refine (hn _).mono ?_; rintro e w' ⟨rfl, rfl⟩) | (go_at_call 176; refine (hv _ (below3 w _ _ _)).mono ?_; rintro e w' ⟨rfl, hB⟩))
    go_ret
    exact ⟨rfl, (below3 w _ _ _).trans (hB.mono (by simp; omega))⟩


set_option maxRecDepth 100000 in
set_option maxHeartbeats 1600000 in
theorem fits_2 {lo hi : Nat} {s : Value} {l : List V} (d n : Int) (w : World) (h : Ls w lo hi s l) (_hh : hi ≤ w.heap.size) :
    Calls Try.prog 161 #[.agg #[.int .i64 2, .int .i64 n, s, .int .i64 d], knownShapes] w fun e w' => e = .returned (.bool (shapeOf 2 n l)) ∧ Below w.heap.size w w' := by
  have hv : ∀ w', Below w.heap.size w w' → Calls Try.prog 176 #[s] w' fun e w'' => e = .returned (.bool (l.length == 0)) ∧ Below w'.heap.size w' w'' := fun w' _ => by
    obtain ⟨A, c, rfl, _⟩ := h.form
    exact (none_ok A l.length c w').mono (fun e w'' ⟨h1, h2⟩ => ⟨h1, h2 ▸ Below.refl _ w'⟩)
  have hn := whatever_ok n
  unfold Says at hn
  have hE : shapeOf 2 n l = (true && (l.length == 0)) := by simp [shapeOf]
  rw [hE]
  generalize (l.length == 0) = z at hv ⊢
  generalize true = y at hn ⊢
  clear hE h _hh
  unfold knownShapes knownCells
  go_enter Try.func161, Try.ntmps161
  cases y
  · go_wp2_with (go_at_call 177; refine (hn _).mono ?_; rintro e w' ⟨rfl, rfl⟩)
    go_ret
    exact ⟨rfl, below3 w _ _ _⟩
  · go_wp2_with (first | (go_at_call 177; refine (hn _).mono ?_; rintro e w' ⟨rfl, rfl⟩) | (go_at_call 176; refine (hv _ (below3 w _ _ _)).mono ?_; rintro e w' ⟨rfl, hB⟩))
    go_ret
    exact ⟨rfl, (below3 w _ _ _).trans (hB.mono (by simp; omega))⟩


set_option maxRecDepth 100000 in
set_option maxHeartbeats 1600000 in
theorem fits_3 {lo hi : Nat} {s : Value} {l : List V} (d n : Int) (w : World) (h : Ls w lo hi s l) (_hh : hi ≤ w.heap.size) :
    Calls Try.prog 161 #[.agg #[.int .i64 3, .int .i64 n, s, .int .i64 d], knownShapes] w fun e w' => e = .returned (.bool (shapeOf 3 n l)) ∧ Below w.heap.size w w' := by
  have hv : ∀ w', Below w.heap.size w w' → Calls Try.prog 178 #[s] w' fun e w'' => e = .returned (.bool (l.length == 2)) ∧ Below w'.heap.size w' w'' := fun w' _ => by
    obtain ⟨A, c, rfl, _⟩ := h.form
    exact (two_ok A l.length c w').mono (fun e w'' ⟨h1, h2⟩ => ⟨h1, h2 ▸ Below.refl _ w'⟩)
  have hn := zero_ok n
  unfold Says at hn
  have hE : shapeOf 3 n l = ((n == 0) && (l.length == 2)) := by simp [shapeOf]
  rw [hE]
  generalize (l.length == 2) = z at hv ⊢
  generalize (n == 0) = y at hn ⊢
  clear hE h _hh
  unfold knownShapes knownCells
  go_enter Try.func161, Try.ntmps161
  cases y
  · go_wp2_with (go_at_call 175; refine (hn _).mono ?_; rintro e w' ⟨rfl, rfl⟩)
    go_ret
    exact ⟨rfl, below3 w _ _ _⟩
  · go_wp2_with (first | (go_at_call 175; refine (hn _).mono ?_; rintro e w' ⟨rfl, rfl⟩) | (go_at_call 178; refine (hv _ (below3 w _ _ _)).mono ?_; rintro e w' ⟨rfl, hB⟩))
    go_ret
    exact ⟨rfl, (below3 w _ _ _).trans (hB.mono (by simp; omega))⟩


set_option maxRecDepth 100000 in
set_option maxHeartbeats 1600000 in
theorem fits_4 {lo hi : Nat} {s : Value} {l : List V} (d n : Int) (w : World) (h : Ls w lo hi s l) (_hh : hi ≤ w.heap.size) :
    Calls Try.prog 161 #[.agg #[.int .i64 4, .int .i64 n, s, .int .i64 d], knownShapes] w fun e w' => e = .returned (.bool (shapeOf 4 n l)) ∧ Below w.heap.size w w' := by
  have hv : ∀ w', Below w.heap.size w w' → Calls Try.prog 176 #[s] w' fun e w'' => e = .returned (.bool (l.length == 0)) ∧ Below w'.heap.size w' w'' := fun w' _ => by
    obtain ⟨A, c, rfl, _⟩ := h.form
    exact (none_ok A l.length c w').mono (fun e w'' ⟨h1, h2⟩ => ⟨h1, h2 ▸ Below.refl _ w'⟩)
  have hn := natural_ok n
  unfold Says at hn
  have hE : shapeOf 4 n l = (decide (0 ≤ n) && (l.length == 0)) := by simp [shapeOf]
  rw [hE]
  generalize (l.length == 0) = z at hv ⊢
  generalize decide (0 ≤ n) = y at hn ⊢
  clear hE h _hh
  unfold knownShapes knownCells
  go_enter Try.func161, Try.ntmps161
  cases y
  · go_wp2_with (go_at_call 179; refine (hn _).mono ?_; rintro e w' ⟨rfl, rfl⟩)
    go_ret
    exact ⟨rfl, below3 w _ _ _⟩
  · go_wp2_with (first | (go_at_call 179; refine (hn _).mono ?_; rintro e w' ⟨rfl, rfl⟩) | (go_at_call 176; refine (hv _ (below3 w _ _ _)).mono ?_; rintro e w' ⟨rfl, hB⟩))
    go_ret
    exact ⟨rfl, (below3 w _ _ _).trans (hB.mono (by simp; omega))⟩


set_option maxRecDepth 100000 in
set_option maxHeartbeats 1600000 in
theorem fits_5 {lo hi : Nat} {s : Value} {l : List V} (d n : Int) (w : World) (h : Ls w lo hi s l) (hh : hi ≤ w.heap.size) :
    Calls Try.prog 161 #[.agg #[.int .i64 5, .int .i64 n, s, .int .i64 d], knownShapes] w fun e w' => e = .returned (.bool (shapeOf 5 n l)) ∧ Below w.heap.size w w' := by
  have hv : ∀ w', Below w.heap.size w w' → Calls Try.prog 180 #[s] w' fun e w'' => e = .returned (.bool (chan1B l)) ∧ Below w'.heap.size w' w'' := fun w' hb => by
    obtain ⟨A, c, rfl, _⟩ := h.form
    exact (channelAndOne_ok w' (h.after (hb.mono hh))).mono (fun e w'' ⟨h1, h2⟩ => ⟨h1, h2 ▸ Below.refl _ w'⟩)
  have hn := zero_ok n
  unfold Says at hn
  have hE : shapeOf 5 n l = ((n == 0) && chan1B l) := by simp [shapeOf]
  rw [hE]
  generalize chan1B l = z at hv ⊢
  generalize (n == 0) = y at hn ⊢
  clear hE h hh
  unfold knownShapes knownCells
  go_enter Try.func161, Try.ntmps161
  cases y
  · go_wp2_with (go_at_call 175; refine (hn _).mono ?_; rintro e w' ⟨rfl, rfl⟩)
    go_ret
    exact ⟨rfl, below3 w _ _ _⟩
  · go_wp2_with (first | (go_at_call 175; refine (hn _).mono ?_; rintro e w' ⟨rfl, rfl⟩) | (go_at_call 180; refine (hv _ (below3 w _ _ _)).mono ?_; rintro e w' ⟨rfl, hB⟩))
    go_ret
    exact ⟨rfl, (below3 w _ _ _).trans (hB.mono (by simp; omega))⟩


set_option maxRecDepth 100000 in
set_option maxHeartbeats 1600000 in
theorem fits_6 {lo hi : Nat} {s : Value} {l : List V} (d n : Int) (w : World) (h : Ls w lo hi s l) (hh : hi ≤ w.heap.size) :
    Calls Try.prog 161 #[.agg #[.int .i64 6, .int .i64 n, s, .int .i64 d], knownShapes] w fun e w' => e = .returned (.bool (shapeOf 6 n l)) ∧ Below w.heap.size w w' := by
  have hv : ∀ w', Below w.heap.size w w' → Calls Try.prog 181 #[s] w' fun e w'' => e = .returned (.bool (chanB l)) ∧ Below w'.heap.size w' w'' := fun w' hb => by
    obtain ⟨A, c, rfl, _⟩ := h.form
    exact (channel_ok w' (h.after (hb.mono hh))).mono (fun e w'' ⟨h1, h2⟩ => ⟨h1, h2 ▸ Below.refl _ w'⟩)
  have hn := zero_ok n
  unfold Says at hn
  have hE : shapeOf 6 n l = ((n == 0) && chanB l) := by simp [shapeOf]
  rw [hE]
  generalize chanB l = z at hv ⊢
  generalize (n == 0) = y at hn ⊢
  clear hE h hh
  unfold knownShapes knownCells
  go_enter Try.func161, Try.ntmps161
  cases y
  · go_wp2_with (go_at_call 175; refine (hn _).mono ?_; rintro e w' ⟨rfl, rfl⟩)
    go_ret
    exact ⟨rfl, below3 w _ _ _⟩
  · go_wp2_with (first | (go_at_call 175; refine (hn _).mono ?_; rintro e w' ⟨rfl, rfl⟩) | (go_at_call 181; refine (hv _ (below3 w _ _ _)).mono ?_; rintro e w' ⟨rfl, hB⟩))
    go_ret
    exact ⟨rfl, (below3 w _ _ _).trans (hB.mono (by simp; omega))⟩


end Go.Proofs.Ytmfcecfcfihgaaa
