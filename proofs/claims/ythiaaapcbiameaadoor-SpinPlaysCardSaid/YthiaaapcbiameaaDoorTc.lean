/- SpinPlays: the program's States of two places. -/
import Derived.Test.YthiaaapcbiameaaDoorTb
namespace Go.Proofs.YthiaaapcbiameaaDoor
open Go.RowKit Go.Shelf
attribute [local go_sem] Oper.semAt_some
set_option maxRecDepth 100000 in
set_option maxHeartbeats 3200000 in
theorem missing_in {b : Nat} {s : St} (j0 j1 : Int) (p : Nat) (w : World) (h : (arena b).R s w) (hp : Blk w p 3 #[.int .i64 j0, .int .i64 j1]) (q0 : (0 : Int) ≤ j0 ∧ j0 < (s.cs.length : Int)) (q1 : (0 : Int) ≤ j1 ∧ j1 < (s.cs.length : Int)) :
    Calls Tryd.prog 39 #[.agg #[.pointer (some ⟨b, 0, none⟩)], .slice (some ⟨p, 0, none⟩) 2 2] w fun e w' => e = .returned (.int .i64 0) ∧ Below w.heap.size w w' := by
  have a0 : ¬ j0 < 0 := by omega
  have b0 : decide (j0 < 0) = false := by simp; omega
  have c0 : ¬ (s.cs.length : Int) ≤ j0 := by omega
  have d0 : decide ((s.cs.length : Int) ≤ j0) = false := by simp; omega
  have a1 : ¬ j1 < 0 := by omega
  have b1 : decide (j1 < 0) = false := by simp; omega
  have c1 : ¬ (s.cs.length : Int) ≤ j1 := by omega
  have d1 : decide ((s.cs.length : Int) ≤ j1) = false := by simp; omega
  have B1 : Below w.heap.size w (w.alloc (.cells #[.pointer (some ⟨b, 0, none⟩)] 83)) := (Below.refl _ _).alloc (Nat.le_refl _) _
  have hA := (arena_are h).below B1
  have hpA := hp.keep (B1.block _ hp.lt)
  have lbA := Blk.new w 83 #[.pointer (some ⟨b, 0, none⟩)]
  have hpos : 0 < s.most := by obtain ⟨vl, vc, hA'⟩ := hA; exact hA'.pos
  have e0 : ((s.most : Int) == 0) = false := by simp; omega
  go_enter Tryd.func39, Tryd.ntmps39
  go_wp2_with (first
    | (go_at_call 53; refine (Most_are hA).mono ?_; rintro e w' ⟨rfl, rfl⟩))
  revert B1 hA hpA lbA
  generalize w.alloc (.cells #[.pointer (some ⟨b, 0, none⟩)] 83) = wA
  intro B1 hA hpA lbA
  have p0 := hpA.cell 0
  have p1 := hpA.cell 1
  have b0 := lbA.cell 0
  simp at p0 p1 b0
  refine wp_loop_rounds 3 ?_
  rw [rounds_succ]
  go_wp2_with (go_at_call 30; refine (Len_are hA).mono ?_; rintro e w' ⟨rfl, rfl⟩)
  rw [rounds_succ]
  go_wp2_with (go_at_call 30; refine (Len_are hA).mono ?_; rintro e w' ⟨rfl, rfl⟩)
  rw [rounds_succ]
  go_wp2_with fail
  go_ret
  exact ⟨rfl, B1⟩
set_option maxRecDepth 100000 in
set_option maxHeartbeats 3200000 in
theorem missing_lo1 {b : Nat} {s : St} (j0 j1 : Int) (p : Nat) (w : World) (h : (arena b).R s w) (hp : Blk w p 3 #[.int .i64 j0, .int .i64 j1]) (q0 : (0 : Int) ≤ j0 ∧ j0 < (s.cs.length : Int)) (q1 : j1 < 0) :
    Calls Tryd.prog 39 #[.agg #[.pointer (some ⟨b, 0, none⟩)], .slice (some ⟨p, 0, none⟩) 2 2] w fun e w' => e = .returned (.int .i64 4) ∧ Below w.heap.size w w' := by
  have a0 : ¬ j0 < 0 := by omega
  have b0 : decide (j0 < 0) = false := by simp; omega
  have c0 : ¬ (s.cs.length : Int) ≤ j0 := by omega
  have d0 : decide ((s.cs.length : Int) ≤ j0) = false := by simp; omega
  have b1 : decide (j1 < 0) = true := by simp; omega
  have B1 : Below w.heap.size w (w.alloc (.cells #[.pointer (some ⟨b, 0, none⟩)] 83)) := (Below.refl _ _).alloc (Nat.le_refl _) _
  have hA := (arena_are h).below B1
  have hpA := hp.keep (B1.block _ hp.lt)
  have lbA := Blk.new w 83 #[.pointer (some ⟨b, 0, none⟩)]
  have hpos : 0 < s.most := by obtain ⟨vl, vc, hA'⟩ := hA; exact hA'.pos
  have e0 : ((s.most : Int) == 0) = false := by simp; omega
  go_enter Tryd.func39, Tryd.ntmps39
  go_wp2_with (first
    | (go_at_call 53; refine (Most_are hA).mono ?_; rintro e w' ⟨rfl, rfl⟩))
  revert B1 hA hpA lbA
  generalize w.alloc (.cells #[.pointer (some ⟨b, 0, none⟩)] 83) = wA
  intro B1 hA hpA lbA
  have p0 := hpA.cell 0
  have p1 := hpA.cell 1
  have b0 := lbA.cell 0
  simp at p0 p1 b0
  refine wp_loop_rounds 3 ?_
  rw [rounds_succ]
  go_wp2_with (go_at_call 30; refine (Len_are hA).mono ?_; rintro e w' ⟨rfl, rfl⟩)
  rw [rounds_succ]
  go_wp2_with (go_at_call 30; refine (Len_are hA).mono ?_; rintro e w' ⟨rfl, rfl⟩)
  go_ret
  exact ⟨rfl, B1⟩
set_option maxRecDepth 100000 in
set_option maxHeartbeats 3200000 in
theorem missing_hi1 {b : Nat} {s : St} (j0 j1 : Int) (p : Nat) (w : World) (h : (arena b).R s w) (hp : Blk w p 3 #[.int .i64 j0, .int .i64 j1]) (q0 : (0 : Int) ≤ j0 ∧ j0 < (s.cs.length : Int)) (q1 : (s.cs.length : Int) ≤ j1) :
    Calls Tryd.prog 39 #[.agg #[.pointer (some ⟨b, 0, none⟩)], .slice (some ⟨p, 0, none⟩) 2 2] w fun e w' => e = .returned (.int .i64 4) ∧ Below w.heap.size w w' := by
  have a0 : ¬ j0 < 0 := by omega
  have b0 : decide (j0 < 0) = false := by simp; omega
  have c0 : ¬ (s.cs.length : Int) ≤ j0 := by omega
  have d0 : decide ((s.cs.length : Int) ≤ j0) = false := by simp; omega
  have a1 : ¬ j1 < 0 := by omega
  have b1 : decide (j1 < 0) = false := by simp; omega
  have d1 : decide ((s.cs.length : Int) ≤ j1) = true := by simp; omega
  have B1 : Below w.heap.size w (w.alloc (.cells #[.pointer (some ⟨b, 0, none⟩)] 83)) := (Below.refl _ _).alloc (Nat.le_refl _) _
  have hA := (arena_are h).below B1
  have hpA := hp.keep (B1.block _ hp.lt)
  have lbA := Blk.new w 83 #[.pointer (some ⟨b, 0, none⟩)]
  have hpos : 0 < s.most := by obtain ⟨vl, vc, hA'⟩ := hA; exact hA'.pos
  have e0 : ((s.most : Int) == 0) = false := by simp; omega
  go_enter Tryd.func39, Tryd.ntmps39
  go_wp2_with (first
    | (go_at_call 53; refine (Most_are hA).mono ?_; rintro e w' ⟨rfl, rfl⟩))
  revert B1 hA hpA lbA
  generalize w.alloc (.cells #[.pointer (some ⟨b, 0, none⟩)] 83) = wA
  intro B1 hA hpA lbA
  have p0 := hpA.cell 0
  have p1 := hpA.cell 1
  have b0 := lbA.cell 0
  simp at p0 p1 b0
  refine wp_loop_rounds 3 ?_
  rw [rounds_succ]
  go_wp2_with (go_at_call 30; refine (Len_are hA).mono ?_; rintro e w' ⟨rfl, rfl⟩)
  rw [rounds_succ]
  go_wp2_with (go_at_call 30; refine (Len_are hA).mono ?_; rintro e w' ⟨rfl, rfl⟩)
  go_ret
  exact ⟨rfl, B1⟩
set_option maxRecDepth 100000 in
set_option maxHeartbeats 3200000 in
theorem missing_lo0 {b : Nat} {s : St} (j0 j1 : Int) (p : Nat) (w : World) (h : (arena b).R s w) (hp : Blk w p 3 #[.int .i64 j0, .int .i64 j1]) (q0 : j0 < 0) :
    Calls Tryd.prog 39 #[.agg #[.pointer (some ⟨b, 0, none⟩)], .slice (some ⟨p, 0, none⟩) 2 2] w fun e w' => e = .returned (.int .i64 4) ∧ Below w.heap.size w w' := by
  have b0 : decide (j0 < 0) = true := by simp; omega
  have B1 : Below w.heap.size w (w.alloc (.cells #[.pointer (some ⟨b, 0, none⟩)] 83)) := (Below.refl _ _).alloc (Nat.le_refl _) _
  have hA := (arena_are h).below B1
  have hpA := hp.keep (B1.block _ hp.lt)
  have lbA := Blk.new w 83 #[.pointer (some ⟨b, 0, none⟩)]
  have hpos : 0 < s.most := by obtain ⟨vl, vc, hA'⟩ := hA; exact hA'.pos
  have e0 : ((s.most : Int) == 0) = false := by simp; omega
  go_enter Tryd.func39, Tryd.ntmps39
  go_wp2_with (first
    | (go_at_call 53; refine (Most_are hA).mono ?_; rintro e w' ⟨rfl, rfl⟩))
  revert B1 hA hpA lbA
  generalize w.alloc (.cells #[.pointer (some ⟨b, 0, none⟩)] 83) = wA
  intro B1 hA hpA lbA
  have p0 := hpA.cell 0
  have p1 := hpA.cell 1
  have b0 := lbA.cell 0
  simp at p0 p1 b0
  refine wp_loop_rounds 3 ?_
  rw [rounds_succ]
  go_wp2_with (go_at_call 30; refine (Len_are hA).mono ?_; rintro e w' ⟨rfl, rfl⟩)
  go_ret
  exact ⟨rfl, B1⟩
set_option maxRecDepth 100000 in
set_option maxHeartbeats 3200000 in
theorem missing_hi0 {b : Nat} {s : St} (j0 j1 : Int) (p : Nat) (w : World) (h : (arena b).R s w) (hp : Blk w p 3 #[.int .i64 j0, .int .i64 j1]) (q0 : (s.cs.length : Int) ≤ j0) :
    Calls Tryd.prog 39 #[.agg #[.pointer (some ⟨b, 0, none⟩)], .slice (some ⟨p, 0, none⟩) 2 2] w fun e w' => e = .returned (.int .i64 4) ∧ Below w.heap.size w w' := by
  have a0 : ¬ j0 < 0 := by omega
  have b0 : decide (j0 < 0) = false := by simp; omega
  have d0 : decide ((s.cs.length : Int) ≤ j0) = true := by simp; omega
  have B1 : Below w.heap.size w (w.alloc (.cells #[.pointer (some ⟨b, 0, none⟩)] 83)) := (Below.refl _ _).alloc (Nat.le_refl _) _
  have hA := (arena_are h).below B1
  have hpA := hp.keep (B1.block _ hp.lt)
  have lbA := Blk.new w 83 #[.pointer (some ⟨b, 0, none⟩)]
  have hpos : 0 < s.most := by obtain ⟨vl, vc, hA'⟩ := hA; exact hA'.pos
  have e0 : ((s.most : Int) == 0) = false := by simp; omega
  go_enter Tryd.func39, Tryd.ntmps39
  go_wp2_with (first
    | (go_at_call 53; refine (Most_are hA).mono ?_; rintro e w' ⟨rfl, rfl⟩))
  revert B1 hA hpA lbA
  generalize w.alloc (.cells #[.pointer (some ⟨b, 0, none⟩)] 83) = wA
  intro B1 hA hpA lbA
  have p0 := hpA.cell 0
  have p1 := hpA.cell 1
  have b0 := lbA.cell 0
  simp at p0 p1 b0
  refine wp_loop_rounds 3 ?_
  rw [rounds_succ]
  go_wp2_with (go_at_call 30; refine (Len_are hA).mono ?_; rintro e w' ⟨rfl, rfl⟩)
  go_ret
  exact ⟨rfl, B1⟩
theorem missing_ok {b : Nat} {s : St} (j0 j1 : Int) (p : Nat) (w : World) (h : (arena b).R s w) (hp : Blk w p 3 #[.int .i64 j0, .int .i64 j1]) :
    Calls Tryd.prog 39 #[.agg #[.pointer (some ⟨b, 0, none⟩)], .slice (some ⟨p, 0, none⟩) 2 2] w fun e w' => e = .returned (.int .i64 (statesSt s j0 j1).2.2) ∧ Below w.heap.size w w' := by
  have hst : (statesSt s j0 j1).2.2 = if inSt s j0 = true ∧ inSt s j1 = true then 0 else 4 := by unfold statesSt; split <;> rfl
  rw [hst]
  have k : ∀ j, inSt s j = true ↔ ((0 : Int) ≤ j ∧ j < (s.cs.length : Int)) := fun j => by simp [inSt]
  by_cases h0 : (0 : Int) ≤ j0 ∧ j0 < (s.cs.length : Int)
  · by_cases h1 : (0 : Int) ≤ j1 ∧ j1 < (s.cs.length : Int)
    · rw [if_pos ⟨(k _).2 h0, (k _).2 h1⟩]
      exact missing_in j0 j1 p w h hp h0 h1
    · rw [if_neg (fun e => h1 ((k _).1 e.2))]
      rcases (show j1 < 0 ∨ (s.cs.length : Int) ≤ j1 by omega) with q | q
      · exact missing_lo1 j0 j1 p w h hp h0 q
      · exact missing_hi1 j0 j1 p w h hp h0 q
  · rw [if_neg (fun e => h0 ((k _).1 e.1))]
    rcases (show j0 < 0 ∨ (s.cs.length : Int) ≤ j0 by omega) with q | q
    · exact missing_lo0 j0 j1 p w h hp q
    · exact missing_hi0 j0 j1 p w h hp q
end Go.Proofs.YthiaaapcbiameaaDoor
