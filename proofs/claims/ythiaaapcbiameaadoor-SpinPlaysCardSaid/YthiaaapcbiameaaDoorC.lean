import Derived.Test.YthiaaapcbiameaaDoorB
import Derived.ChangeAlike
namespace Go.Proofs.YthiaaapcbiameaaDoor
open Go.RowKit

set_option maxRecDepth 100000 in
set_option maxHeartbeats 1600000 in
theorem load_fn (o a c d : Int) (e : Bool) (w : World) :
    Calls Tryd.prog 50 #[.agg #[.int .i64 o, .int .i64 a, .int .u64 c, .int .u64 d, .bool e]] w fun e' w' => e' = .returned (.tuple #[.agg #[.int .i64 o, .int .i64 a, .int .u64 c, .int .u64 d, .bool e], .int .u64 c]) ∧ Below w.heap.size w w' := by
  go_enter Tryd.func50, Tryd.ntmps50
  go_wp2_with fail
  go_region
  all_goals go_wp2
  all_goals exact bodyPost_ret (v := .tuple #[.agg #[.int .i64 o, .int .i64 a, .int .u64 c, .int .u64 d, .bool e], .int .u64 c]) (by simp [results, Tryd.results50, go_sem]) rfl ⟨rfl, (((Below.refl _ _).alloc (Nat.le_refl _) _).alloc (by simp) _).drew⟩

set_option maxRecDepth 100000 in
set_option maxHeartbeats 1600000 in
theorem store_fn (o a c d v : Int) (e : Bool) (p : Nat) (w : World) (hv : w.cell? ⟨p, 0, none⟩ = some (.int .u64 v)) :
    Calls Tryd.prog 46 #[.agg #[.int .i64 o, .int .i64 a, .int .u64 c, .int .u64 d, .bool e], .pointer (some ⟨p, 0, none⟩)] w fun e' w' => e' = .returned (.tuple #[.agg #[.int .i64 o, .int .i64 a, .int .u64 c, .int .u64 v, .bool e], .agg #[]]) ∧ Below w.heap.size w w' := by
  have hp := World.block_lt_of_cell? w _ hv
  simp only at hp
  have hp1 : p < w.heap.size + 1 := by omega
  have hp2 : p < w.heap.size + 1 + 1 := by omega
  go_enter Tryd.func46, Tryd.ntmps46
  go_wp2
  exact bodyPost_ret (v := .tuple #[.agg #[.int .i64 o, .int .i64 a, .int .u64 c, .int .u64 v, .bool e], .agg #[]]) (by simp [results, Tryd.results46, go_sem]) rfl ⟨rfl, ((((Below.refl _ _).alloc (Nat.le_refl _) _).alloc (by simp) _).alloc (by simp; omega) _)⟩

set_option maxRecDepth 100000 in
set_option maxHeartbeats 1600000 in
theorem swap_fn_yes (o a c d v u : Int) (e : Bool) (p q : Nat) (w : World) (hv : w.cell? ⟨p, 0, none⟩ = some (.int .u64 v)) (hu : w.cell? ⟨q, 0, none⟩ = some (.int .u64 u)) (hcv : (c == v) = true) :
    Calls Tryd.prog 56 #[.agg #[.int .i64 o, .int .i64 a, .int .u64 c, .int .u64 d, .bool e], .pointer (some ⟨p, 0, none⟩), .pointer (some ⟨q, 0, none⟩)] w fun e' w' => e' = .returned (.tuple #[.agg #[.int .i64 o, .int .i64 a, .int .u64 c, .int .u64 u, .bool true], .agg #[.int .u64 c, .bool true]]) ∧ Below w.heap.size w w' := by
  have hq := World.block_lt_of_cell? w _ hu
  have hp := World.block_lt_of_cell? w _ hv
  simp only at hp
  have hp1 : p < w.heap.size + 1 := by omega
  have hp2 : p < w.heap.size + 1 + 1 := by omega
  simp only at hq
  have hq1 : q < w.heap.size + 1 := by omega
  have hq2 : q < w.heap.size + 1 + 1 := by omega
  go_enter Tryd.func56, Tryd.ntmps56
  go_wp2_with fail
  go_region
  all_goals go_wp2
  all_goals exact bodyPost_ret (v := .tuple #[.agg #[.int .i64 o, .int .i64 a, .int .u64 c, .int .u64 u, .bool true], .agg #[.int .u64 c, .bool true]]) (by simp [results, Tryd.results56, go_sem]) rfl ⟨rfl, ((((Below.refl _ _).alloc (Nat.le_refl _) _).alloc (by simp) _).alloc (by simp; omega) _).drew⟩

set_option maxRecDepth 100000 in
set_option maxHeartbeats 1600000 in
theorem swap_fn_no (o a c d v u : Int) (e : Bool) (p q : Nat) (w : World) (hv : w.cell? ⟨p, 0, none⟩ = some (.int .u64 v)) (hu : w.cell? ⟨q, 0, none⟩ = some (.int .u64 u)) (hcv : (c == v) = false) :
    Calls Tryd.prog 56 #[.agg #[.int .i64 o, .int .i64 a, .int .u64 c, .int .u64 d, .bool e], .pointer (some ⟨p, 0, none⟩), .pointer (some ⟨q, 0, none⟩)] w fun e' w' => e' = .returned (.tuple #[.agg #[.int .i64 o, .int .i64 a, .int .u64 c, .int .u64 d, .bool false], .agg #[.int .u64 c, .bool false]]) ∧ Below w.heap.size w w' := by
  have hq := World.block_lt_of_cell? w _ hu
  have hp := World.block_lt_of_cell? w _ hv
  simp only at hp
  have hp1 : p < w.heap.size + 1 := by omega
  have hp2 : p < w.heap.size + 1 + 1 := by omega
  simp only at hq
  have hq1 : q < w.heap.size + 1 := by omega
  have hq2 : q < w.heap.size + 1 + 1 := by omega
  go_enter Tryd.func56, Tryd.ntmps56
  go_wp2_with fail
  go_region
  all_goals go_wp2
  all_goals exact bodyPost_ret (v := .tuple #[.agg #[.int .i64 o, .int .i64 a, .int .u64 c, .int .u64 d, .bool false], .agg #[.int .u64 c, .bool false]]) (by simp [results, Tryd.results56, go_sem]) rfl ⟨rfl, ((((Below.refl _ _).alloc (Nat.le_refl _) _).alloc (by simp) _).alloc (by simp; omega) _).drew⟩

/-! ### exists, inside, num -/
set_option maxHeartbeats 400000 in
theorem exists_nil (w : World) : Calls Tryd.prog 37 #[.pointer none] w fun e w' => e = .returned (.bool false) ∧ w = w' := by
  go_enter Tryd.func37, Tryd.ntmps37
  go_wp2
  go_ret
  exact ⟨rfl, rfl⟩

set_option maxHeartbeats 400000 in
theorem exists_yes (b : Nat) (m : Int) (w : World) (h : w.cell? ⟨b, 3, none⟩ = some (.int .i64 m)) (hm : 0 < m) :
    Calls Tryd.prog 37 #[.pointer (some ⟨b, 0, none⟩)] w fun e w' => e = .returned (.bool true) ∧ w = w' := by
  go_enter Tryd.func37, Tryd.ntmps37
  go_wp2
  go_ret
  exact ⟨rfl, rfl⟩

set_option maxHeartbeats 400000 in
theorem exists_zero (b : Nat) (w : World) (h : w.cell? ⟨b, 3, none⟩ = some (.int .i64 0)) :
    Calls Tryd.prog 37 #[.pointer (some ⟨b, 0, none⟩)] w fun e w' => e = .returned (.bool false) ∧ w = w' := by
  go_enter Tryd.func37, Tryd.ntmps37
  go_wp2
  go_ret
  exact ⟨rfl, rfl⟩

theorem decide_and (lo n hi : Int) : (decide (lo ≤ n) && decide (n ≤ hi)) = decide (lo ≤ n ∧ n ≤ hi) := by simp

set_option maxHeartbeats 400000 in
theorem inside_yes (n lo hi : Int) (w : World) (h1 : lo ≤ n) (h2 : n ≤ hi) :
    Calls Tryd.prog 20 #[.int .i64 n, .agg #[.int .i64 lo, .int .i64 hi]] w fun e w' => e = .returned (.bool true) ∧ Below w.heap.size w w' := by
  go_enter Tryd.func20, Tryd.ntmps20
  go_wp2
  go_ret
  exact ⟨rfl, (Below.refl _ _).alloc (Nat.le_refl _) _⟩

set_option maxHeartbeats 400000 in
theorem inside_no (n lo hi : Int) (w : World) (h : n < lo ∨ hi < n) :
    Calls Tryd.prog 20 #[.int .i64 n, .agg #[.int .i64 lo, .int .i64 hi]] w fun e w' => e = .returned (.bool false) ∧ Below w.heap.size w w' := by
  by_cases h1 : n < lo
  · go_enter Tryd.func20, Tryd.ntmps20
    go_wp2
    go_ret
    exact ⟨rfl, (Below.refl _ _).alloc (Nat.le_refl _) _⟩
  · have h2 : hi < n := by omega
    have h3 : lo ≤ n := by omega
    have h4 : decide (n ≤ hi) = false := by simp; omega
    clear h h1 h2
    go_enter Tryd.func20, Tryd.ntmps20
    go_wp2
    go_ret
    exact ⟨rfl, (Below.refl _ _).alloc (Nat.le_refl _) _⟩
end Go.Proofs.YthiaaapcbiameaaDoor
