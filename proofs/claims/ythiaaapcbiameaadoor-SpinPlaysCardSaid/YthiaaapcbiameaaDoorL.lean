/- The accesses: Load, Store, Swap, Add. -/
import Derived.Test.YthiaaapcbiameaaDoorH
import Derived.Test.YthiaaapcbiameaaDoorE1
import Derived.Test.YthiaaapcbiameaaDoorE2
import Derived.Test.YthiaaapcbiameaaDoorE3
import Derived.Test.YthiaaapcbiameaaDoorE4
import Derived.Test.YthiaaapcbiameaaDoorE5
namespace Go.Proofs.YthiaaapcbiameaaDoor
open Go.RowKit

def St.at_ (s : St) (j : Nat) : Int := s.cs.getD j 0
theorem St.at_get {s : St} {j : Nat} (hj : j < s.cs.length) : (s.cs.map (Value.int .u64))[j]? = some (.int .u64 (s.at_ j)) := by
  unfold St.at_; simp [hj]

theorem perfA_load {F : Nat → Prop} {b : Nat} {s : St} (j : Nat) (w : World) (h : Are F w b s) (hF : ∀ k, w.heap.size ≤ k → F k) (hh : s.hist.length < 1000000000) (hj : j < s.cs.length) :
    Calls Tryd.prog 49 #[.pointer (some ⟨b, 0, none⟩), .int .i64 1, .int .i64 j, .func (.func 50) #[] #[]] w fun e w' => e = .returned (.tuple #[.int .u64 (s.at_ j), .int .i64 0]) ∧ Are F w' b (s.step j ⟨1, j, s.at_ j, s.at_ j, true⟩) ∧ Keep F w w' := by
  obtain ⟨vl, vc, h⟩ := h
  have h1 := h.pos
  have h2 := h.len
  have h3 := h.most
  refine (perform_load b s.hist.length s.cs.length _ j vl vc s.most (s.at_ j)  _ _ w h.blk h.cells h.last (by omega) (by rw [ring_length]; omega) hh hj (by omega) (St.at_get hj) ).mono ?_
  rintro e w' ⟨rfl, hp⟩
  exact ⟨rfl, Are.step h hF (x := ⟨1, j, s.at_ j, s.at_ j, true⟩) hp⟩

theorem perfA_store {F : Nat → Prop} {b : Nat} {s : St} (j : Nat) (v : Int) (p : Nat) (w : World) (h : Are F w b s) (hF : ∀ k, w.heap.size ≤ k → F k) (hh : s.hist.length < 1000000000) (hj : j < s.cs.length) (hp : w.cell? ⟨p, 0, none⟩ = some (.int .u64 v)) :
    Calls Tryd.prog 45 #[.pointer (some ⟨b, 0, none⟩), .int .i64 2, .int .i64 j, .func (.func 46) #[] #[.pointer (some ⟨p, 0, none⟩)]] w fun e w' => e = .returned (.tuple #[.agg #[], .int .i64 0]) ∧ Are F w' b (s.step j ⟨2, j, s.at_ j, v, true⟩) ∧ Keep F w w' := by
  obtain ⟨vl, vc, h⟩ := h
  have h1 := h.pos
  have h2 := h.len
  have h3 := h.most
  refine (perform_store b s.hist.length s.cs.length _ j vl vc s.most (s.at_ j) v p _ _ w h.blk h.cells h.last (by omega) (by rw [ring_length]; omega) hh hj (by omega) (St.at_get hj) hp).mono ?_
  rintro e w' ⟨rfl, hp⟩
  exact ⟨rfl, Are.step h hF (x := ⟨2, j, s.at_ j, v, true⟩) hp⟩

theorem perfA_swap_yes {F : Nat → Prop} {b : Nat} {s : St} (j : Nat) (v u : Int) (p q : Nat) (w : World) (h : Are F w b s) (hF : ∀ k, w.heap.size ≤ k → F k) (hh : s.hist.length < 1000000000) (hj : j < s.cs.length) (hp : w.cell? ⟨p, 0, none⟩ = some (.int .u64 v)) (hq : w.cell? ⟨q, 0, none⟩ = some (.int .u64 u)) (hcv : (s.at_ j == v) = true) :
    Calls Tryd.prog 55 #[.pointer (some ⟨b, 0, none⟩), .int .i64 3, .int .i64 j, .func (.func 56) #[] #[.pointer (some ⟨p, 0, none⟩), .pointer (some ⟨q, 0, none⟩)]] w fun e w' => e = .returned (.tuple #[.agg #[.int .u64 (s.at_ j), .bool true], .int .i64 0]) ∧ Are F w' b (s.step j ⟨3, j, s.at_ j, u, true⟩) ∧ Keep F w w' := by
  obtain ⟨vl, vc, h⟩ := h
  have h1 := h.pos
  have h2 := h.len
  have h3 := h.most
  refine (perform_swap_yes b s.hist.length s.cs.length _ j vl vc s.most (s.at_ j) v u p q _ _ w h.blk h.cells h.last (by omega) (by rw [ring_length]; omega) hh hj (by omega) (St.at_get hj) hp hq hcv).mono ?_
  rintro e w' ⟨rfl, hp⟩
  exact ⟨rfl, Are.step h hF (x := ⟨3, j, s.at_ j, u, true⟩) hp⟩

theorem perfA_swap_no {F : Nat → Prop} {b : Nat} {s : St} (j : Nat) (v u : Int) (p q : Nat) (w : World) (h : Are F w b s) (hF : ∀ k, w.heap.size ≤ k → F k) (hh : s.hist.length < 1000000000) (hj : j < s.cs.length) (hp : w.cell? ⟨p, 0, none⟩ = some (.int .u64 v)) (hq : w.cell? ⟨q, 0, none⟩ = some (.int .u64 u)) (hcv : (s.at_ j == v) = false) :
    Calls Tryd.prog 55 #[.pointer (some ⟨b, 0, none⟩), .int .i64 3, .int .i64 j, .func (.func 56) #[] #[.pointer (some ⟨p, 0, none⟩), .pointer (some ⟨q, 0, none⟩)]] w fun e w' => e = .returned (.tuple #[.agg #[.int .u64 (s.at_ j), .bool false], .int .i64 0]) ∧ Are F w' b (s.step j ⟨3, j, s.at_ j, s.at_ j, false⟩) ∧ Keep F w w' := by
  obtain ⟨vl, vc, h⟩ := h
  have h1 := h.pos
  have h2 := h.len
  have h3 := h.most
  refine (perform_swap_no b s.hist.length s.cs.length _ j vl vc s.most (s.at_ j) v u p q _ _ w h.blk h.cells h.last (by omega) (by rw [ring_length]; omega) hh hj (by omega) (St.at_get hj) hp hq hcv).mono ?_
  rintro e w' ⟨rfl, hp⟩
  exact ⟨rfl, Are.step h hF (x := ⟨3, j, s.at_ j, s.at_ j, false⟩) hp⟩


set_option maxRecDepth 100000 in
set_option maxHeartbeats 800000 in
theorem Load_ok {F : Nat → Prop} {b : Nat} {s : St} (j : Nat) (w : World) (h : Are F w b s) (hF : ∀ k, w.heap.size ≤ k → F k) (hh : s.hist.length < 1000000000) (hj : j < s.cs.length) :
    Calls Tryd.prog 32 #[.pointer (some ⟨b, 0, none⟩), .int .i64 j] w fun e w' => e = .returned (.tuple #[.int .u64 (s.at_ j), .int .i64 0]) ∧ Are F w' b (s.step j ⟨1, j, s.at_ j, s.at_ j, true⟩) ∧ Keep F w w' := by
  go_enter Tryd.func32, Tryd.ntmps32
  go_wp2_with (go_at_call 49; refine (perfA_load j _ h hF hh hj).mono ?_; rintro e w' ⟨rfl, ha, hk⟩)
  go_ret2
  exact ⟨rfl, ha, hk⟩

set_option maxRecDepth 100000 in
set_option maxHeartbeats 800000 in
theorem Store_ok {F : Nat → Prop} {b : Nat} {s : St} (j : Nat) (v : Int) (w : World) (h : Are F w b s) (hF : ∀ k, w.heap.size ≤ k → F k) (hh : s.hist.length < 1000000000) (hj : j < s.cs.length) :
    Calls Tryd.prog 29 #[.pointer (some ⟨b, 0, none⟩), .int .i64 j, .int .u64 v] w fun e w' => e = .returned (.int .i64 0) ∧ Are F w' b (s.step j ⟨2, j, s.at_ j, v, true⟩) ∧ Keep F w w' := by

  have H := perfA_store j v w.heap.size (w.alloc (.cells #[.int .u64 v] 48)) (h.alloc _) (fun k hk => hF k (by simp at hk; omega)) hh hj (by simp)

  go_enter Tryd.func29, Tryd.ntmps29
  go_wp2_with (go_at_call 45; refine H.mono ?_; rintro e w' ⟨rfl, ha, hk⟩)
  go_ret
  exact ⟨rfl, ha.alloc _, (((Keep.refl F w).alloc _).trans hk).alloc _⟩


set_option maxRecDepth 100000 in
set_option maxHeartbeats 800000 in
theorem Swap_yes {F : Nat → Prop} {b : Nat} {s : St} (j : Nat) (v u : Int) (w : World) (h : Are F w b s) (hF : ∀ k, w.heap.size ≤ k → F k) (hh : s.hist.length < 1000000000) (hj : j < s.cs.length) (hcv : (s.at_ j == v) = true) :
    Calls Tryd.prog 51 #[.pointer (some ⟨b, 0, none⟩), .int .i64 j, .int .u64 v, .int .u64 u] w fun e w' => e = .returned (.tuple #[.int .u64 (s.at_ j), .bool true, .int .i64 0]) ∧ Are F w' b (s.step j ⟨3, j, s.at_ j, u, true⟩) ∧ Keep F w w' := by



  have H := perfA_swap_yes j v u w.heap.size (w.heap.size + 1) ((w.alloc (.cells #[.int .u64 v] 48)).alloc (.cells #[.int .u64 u] 48)) ((h.alloc _).alloc _) (fun k hk => hF k (by simp at hk; omega)) hh hj (by simp) (by simp) hcv
  clear hcv
  go_enter Tryd.func51, Tryd.ntmps51
  go_wp2_with (first
    | (go_at_call 55; refine H.mono ?_; rintro e w' ⟨rfl, ha, hk⟩)
    | fail)
  go_region
  all_goals go_wp2
  all_goals go_ret3
  all_goals exact ⟨rfl, (ha.alloc _).drew, ((((((Keep.refl F w).alloc _).alloc _).trans hk).alloc _)).drew⟩


set_option maxRecDepth 100000 in
set_option maxHeartbeats 800000 in
theorem Swap_no {F : Nat → Prop} {b : Nat} {s : St} (j : Nat) (v u : Int) (w : World) (h : Are F w b s) (hF : ∀ k, w.heap.size ≤ k → F k) (hh : s.hist.length < 1000000000) (hj : j < s.cs.length) (hcv : (s.at_ j == v) = false) :
    Calls Tryd.prog 51 #[.pointer (some ⟨b, 0, none⟩), .int .i64 j, .int .u64 v, .int .u64 u] w fun e w' => e = .returned (.tuple #[.int .u64 (s.at_ j), .bool false, .int .i64 0]) ∧ Are F w' b (s.step j ⟨3, j, s.at_ j, s.at_ j, false⟩) ∧ Keep F w w' := by



  have H := perfA_swap_no j v u w.heap.size (w.heap.size + 1) ((w.alloc (.cells #[.int .u64 v] 48)).alloc (.cells #[.int .u64 u] 48)) ((h.alloc _).alloc _) (fun k hk => hF k (by simp at hk; omega)) hh hj (by simp) (by simp) hcv
  clear hcv
  go_enter Tryd.func51, Tryd.ntmps51
  go_wp2_with (first
    | (go_at_call 55; refine H.mono ?_; rintro e w' ⟨rfl, ha, hk⟩)
    | fail)
  go_region
  all_goals go_wp2
  all_goals go_ret3
  all_goals exact ⟨rfl, (ha.alloc _).drew, ((((((Keep.refl F w).alloc _).alloc _).trans hk).alloc _)).drew⟩


set_option maxRecDepth 100000 in
set_option maxHeartbeats 800000 in
theorem Load_void (j : Int) (w : World) (v : Value) (h : Void w v) :
    Calls Tryd.prog 32 #[v, .int .i64 j] w fun e w' => e = .returned (.tuple #[.int .u64 0, .int .i64 1]) ∧ Below w.heap.size w w' := by
  go_enter Tryd.func32, Tryd.ntmps32
  go_wp2_with (go_at_call 49; refine (perform40_void _ j _ _ _ h).mono ?_; rintro e w' ⟨rfl, hk⟩)
  go_ret2
  exact ⟨rfl, hk⟩

set_option maxRecDepth 100000 in
set_option maxHeartbeats 800000 in
theorem Store_void (j x : Int) (w : World) (v : Value) (h : Void w v) :
    Calls Tryd.prog 29 #[v, .int .i64 j, .int .u64 x] w fun e w' => e = .returned (.int .i64 1) ∧ Below w.heap.size w w' := by
  go_enter Tryd.func29, Tryd.ntmps29
  go_wp2_with (go_at_call 45; refine (perform33_void _ j _ _ _ (h.alloc _)).mono ?_; rintro e w' ⟨rfl, hk⟩)
  go_ret
  have hb := ((Below.refl w.heap.size w).alloc (Nat.le_refl _) (.cells #[.int .u64 x] 48)).trans (hk.mono (by simp))
  exact ⟨rfl, hb.alloc hb.size _⟩

set_option maxRecDepth 100000 in
set_option maxHeartbeats 800000 in
theorem Swap_void (j x y : Int) (w : World) (v : Value) (h : Void w v) :
    Calls Tryd.prog 51 #[v, .int .i64 j, .int .u64 x, .int .u64 y] w fun e w' => e = .returned (.tuple #[.int .u64 0, .bool false, .int .i64 1]) ∧ Below w.heap.size w w' := by
  go_enter Tryd.func51, Tryd.ntmps51
  go_wp2_with (first
    | (go_at_call 55; refine (perform42_void _ j _ _ _ ((h.alloc _).alloc _)).mono ?_; rintro e w' ⟨rfl, hk⟩)
    | fail)
  have hb := (((Below.refl w.heap.size w).alloc (Nat.le_refl _) (.cells #[.int .u64 x] 48)).alloc (by simp) (.cells #[.int .u64 y] 48)).trans (hk.mono (by simp <;> omega))
  go_region
  all_goals go_wp2
  all_goals go_ret3
  all_goals exact ⟨rfl, (hb.alloc hb.size _).drew⟩


set_option maxRecDepth 100000 in
set_option maxHeartbeats 800000 in
theorem Load_range (j : Int) (w : World) {F : Nat → Prop} {b : Nat} {s : St} (h : Are F w b s) (hj : j < 0 ∨ (s.cs.length : Int) ≤ j) :
    Calls Tryd.prog 32 #[.pointer (some ⟨b, 0, none⟩), .int .i64 j] w fun e w' => e = .returned (.tuple #[.int .u64 0, .int .i64 4]) ∧ Below w.heap.size w w' := by
  go_enter Tryd.func32, Tryd.ntmps32
  go_wp2_with (go_at_call 49; refine (perform40_range _ j _ _ h hj).mono ?_; rintro e w' ⟨rfl, hk⟩)
  go_ret2
  exact ⟨rfl, hk⟩

set_option maxRecDepth 100000 in
set_option maxHeartbeats 800000 in
theorem Store_range (j x : Int) (w : World) {F : Nat → Prop} {b : Nat} {s : St} (h : Are F w b s) (hj : j < 0 ∨ (s.cs.length : Int) ≤ j) :
    Calls Tryd.prog 29 #[.pointer (some ⟨b, 0, none⟩), .int .i64 j, .int .u64 x] w fun e w' => e = .returned (.int .i64 4) ∧ Below w.heap.size w w' := by
  go_enter Tryd.func29, Tryd.ntmps29
  go_wp2_with (go_at_call 45; refine (perform33_range _ j _ _ (h.alloc _) hj).mono ?_; rintro e w' ⟨rfl, hk⟩)
  go_ret
  have hb := ((Below.refl w.heap.size w).alloc (Nat.le_refl _) (.cells #[.int .u64 x] 48)).trans (hk.mono (by simp))
  exact ⟨rfl, hb.alloc hb.size _⟩

set_option maxRecDepth 100000 in
set_option maxHeartbeats 800000 in
theorem Swap_range (j x y : Int) (w : World) {F : Nat → Prop} {b : Nat} {s : St} (h : Are F w b s) (hj : j < 0 ∨ (s.cs.length : Int) ≤ j) :
    Calls Tryd.prog 51 #[.pointer (some ⟨b, 0, none⟩), .int .i64 j, .int .u64 x, .int .u64 y] w fun e w' => e = .returned (.tuple #[.int .u64 0, .bool false, .int .i64 4]) ∧ Below w.heap.size w w' := by
  go_enter Tryd.func51, Tryd.ntmps51
  go_wp2_with (first
    | (go_at_call 55; refine (perform42_range _ j _ _ ((h.alloc _).alloc _) hj).mono ?_; rintro e w' ⟨rfl, hk⟩)
    | fail)
  have hb := (((Below.refl w.heap.size w).alloc (Nat.le_refl _) (.cells #[.int .u64 x] 48)).alloc (by simp) (.cells #[.int .u64 y] 48)).trans (hk.mono (by simp <;> omega))
  go_region
  all_goals go_wp2
  all_goals go_ret3
  all_goals exact ⟨rfl, (hb.alloc hb.size _).drew⟩

end Go.Proofs.YthiaaapcbiameaaDoor
