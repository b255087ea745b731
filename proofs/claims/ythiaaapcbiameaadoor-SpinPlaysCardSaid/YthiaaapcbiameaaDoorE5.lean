/- The contract of perform at a swap that is not done. -/
import Derived.Test.YthiaaapcbiameaaDoorD
import Derived.Test.YthiaaapcbiameaaDoorT
import Derived.StillTailTactics
namespace Go.Proofs.YthiaaapcbiameaaDoor
open Go.RowKit

set_option maxRecDepth 100000 in
set_option maxHeartbeats 3200000 in
theorem perform_swap_no (b cnt n k j : Nat) (vl vc : Value) (most c : Int) (v u : Int) (p q : Nat) (xs ys : List Value) (w : World)
    (hb : Blk w b 55 #[.int .u64 cnt, vl, vc, .int .i64 most]) (hr : Row w 48 1 vc n xs) (hl : Row w 98 5 vl k ys) (hm : 0 < most) (hk : k ≤ 1024) (hc : cnt < 1000000000) (hj : j < n) (hn : n ≤ 65536) (hx : xs[j]? = some (.int .u64 c)) (hp : w.cell? ⟨p, 0, none⟩ = some (.int .u64 v)) (hq : w.cell? ⟨q, 0, none⟩ = some (.int .u64 u)) (hcv : (c == v) = false) :
    Calls Tryd.prog 55 #[.pointer (some ⟨b, 0, none⟩), .int .i64 3, .int .i64 j, .func (.func 56) #[] #[.pointer (some ⟨p, 0, none⟩), .pointer (some ⟨q, 0, none⟩)]] w fun e w' => e = .returned (.tuple #[.agg #[.int .u64 c, .bool false], .int .i64 0]) ∧
      PerfPost w b cnt n (pushN k) vl vc (.int .i64 most) (xs.set j (.int .u64 c)) (pushX k cnt ys (.int .i64 3) (.int .i64 j) (.int .u64 c) (.int .u64 c) (.bool false)) w' := by
  obtain ⟨g, cap, cur, hvc, hg, hncap, hcm, _, _⟩ := hr.addr (by omega)
  obtain ⟨A, capl, hvl, hkl, _⟩ := hl.form
  have hblt := hb.lt
  have hglt := hg.lt
  have hbg : b ≠ g := hb.ne hg (by decide)
  subst hvc; subst hvl
  have hj0 : (0 : Int) ≤ (j : Int) := by omega
  have hj1 : (j : Int) < (n : Int) := by omega
  have hj2 : (j : Int) ≤ (n : Int) - 1 := by omega
  have hn2 : (n : Int) ≤ 65536 := by omega
  have hplt := World.block_lt_of_cell? w _ hp
  simp only at hplt
  have hqlt := World.block_lt_of_cell? w _ hq
  simp only at hqlt
  have hb1 := ((hb.alloc (.cells #[.int .u64 0, .bool false] 117)).alloc (.cells #[.int .i64 0, .int .i64 0, .int .u64 0, .int .u64 0, .bool false] 98))
  have h3 := hb1.cell 3
  have h2 := hb1.cell 2
  simp at h3 h2
  have hg1 := ((hg.alloc (.cells #[.int .u64 0, .bool false] 117)).alloc (.cells #[.int .i64 0, .int .i64 0, .int .u64 0, .int .u64 0, .bool false] 98))
  go_enter Tryd.func55, Tryd.ntmps55
  go_wp2
  go_step3
  go_wp2_with (first
    | (go_at_call 37; refine (exists_yes b most _ h3 hm).mono ?_; rintro e w' ⟨rfl, rfl⟩)
    | (go_at_call 20; refine (inside_yes _ _ _ _ (by assumption) (by assumption)).mono ?_; rintro e w2 ⟨rfl, hB⟩))
  have hb2 : Blk w2 b 55 _ := hb1.keep (hB.block b (by simp; omega))
  have hg2 : Blk w2 g 48 cur := hg1.keep (hB.block g (by simp; omega))
  have hr2 : Row w2 48 1 (.slice (some ⟨g, 0, none⟩) n cap) n xs := ((hr.alloc (.cells #[.int .u64 0, .bool false] 117)).alloc (.cells #[.int .i64 0, .int .i64 0, .int .u64 0, .int .u64 0, .bool false] 98)).keep (fun i hi => hB.block i (((hr.alloc (.cells #[.int .u64 0, .bool false] 117)).alloc (.cells #[.int .i64 0, .int .i64 0, .int .u64 0, .int .u64 0, .bool false] 98)).lt i hi))
  have hx2 : Blk w2 (w.heap.size + 1) 98 #[.int .i64 0, .int .i64 0, .int .u64 0, .int .u64 0, .bool false] := by
    have h := Blk.new (w.alloc (.cells #[.int .u64 0, .bool false] 117)) 98 #[.int .i64 0, .int .i64 0, .int .u64 0, .int .u64 0, .bool false]
    rw [World.size_alloc] at h
    exact h.keep (hB.block _ (by simp))
  have hR2 : Blk w2 w.heap.size 117 #[.int .u64 0, .bool false] := ((Blk.new w 117 #[.int .u64 0, .bool false]).alloc _).keep (hB.block _ (by simp; omega))
  have hp2 : w2.cell? ⟨p, 0, none⟩ = some (.int .u64 v) := (hB.cell (p := ⟨p, 0, none⟩) (by simp; omega)).trans ((World.cell?_alloc_lt _ _ _ (by simp; omega)).trans ((World.cell?_alloc_lt _ _ _ (by simp; omega)).trans hp))
  have hq2 : w2.cell? ⟨q, 0, none⟩ = some (.int .u64 u) := (hB.cell (p := ⟨q, 0, none⟩) (by simp; omega)).trans ((World.cell?_alloc_lt _ _ _ (by simp; omega)).trans ((World.cell?_alloc_lt _ _ _ (by simp; omega)).trans hq))
  have e0 := hb2.cell 2
  have e1 := (hr2.cells rfl j (by omega)).1
  rw [hx] at e1
  simp at e0
  have x0 := hx2.cell 0
  have x1 := hx2.cell 1
  have x2 := hx2.cell 2
  have x3 := hx2.cell 3
  have x4 := hx2.cell 4
  have z0 := hx2.frozen 0
  have z1 := hx2.frozen 1
  have z2 := hx2.frozen 2
  have z3 := hx2.frozen 3
  have z4 := hx2.frozen 4
  simp at x0 x1 x2 x3 x4
  have n1 : w.heap.size + 1 ≠ b := by omega
  have n2 : w.heap.size + 1 ≠ g := by omega
  go_region_held3 (fun w' => w'.cell? ⟨b, 2, none⟩ = some (.slice (some ⟨g, 0, none⟩) n cap) ∧ w'.cell? ⟨g, j, none⟩ = some (.int .u64 c)) (go_keep) (fail)
  go_wp2_with fail
  have hb3 := (set5_far hb2 n1 (v0 := .int .i64 3) (v1 := .int .i64 j) (v2 := .int .u64 c) (v3 := .int .u64 c) (v4 := .bool true)).drew
  have hx3 := (set5_self hx2 (v0 := .int .i64 3) (v1 := .int .i64 j) (v2 := .int .u64 c) (v3 := .int .u64 c) (v4 := .bool true)).drew
  have hR3 := (set5_far hR2 (x := w.heap.size + 1) (by omega) (v0 := .int .i64 3) (v1 := .int .i64 j) (v2 := .int .u64 c) (v3 := .int .u64 c) (v4 := .bool true)).drew
  have hp3 : (((((w2.setCell ⟨w.heap.size + 1, 0, none⟩ (.int .i64 3)).setCell ⟨w.heap.size + 1, 1, none⟩ (.int .i64 j)).setCell ⟨w.heap.size + 1, 2, none⟩ (.int .u64 c)).setCell ⟨w.heap.size + 1, 3, none⟩ (.int .u64 c)).setCell ⟨w.heap.size + 1, 4, none⟩ (.bool true)).drew.cell? ⟨p, 0, none⟩ = some (.int .u64 v) := set5_cell hp2 (by omega)
  have hq3 : (((((w2.setCell ⟨w.heap.size + 1, 0, none⟩ (.int .i64 3)).setCell ⟨w.heap.size + 1, 1, none⟩ (.int .i64 j)).setCell ⟨w.heap.size + 1, 2, none⟩ (.int .u64 c)).setCell ⟨w.heap.size + 1, 3, none⟩ (.int .u64 c)).setCell ⟨w.heap.size + 1, 4, none⟩ (.bool true)).drew.cell? ⟨q, 0, none⟩ = some (.int .u64 u) := set5_cell hq2 (by omega)
  refine (swap_fn_no _ _ _ _ _ _ _ p q _ hp3 hq3 hcv).mono ?_
  rintro e w4 ⟨rfl, hB4⟩
  have hb4 := hb3.keep (hB4.block b hb3.lt)
  have hx4 := hx3.keep (hB4.block _ hx3.lt)
  have hR4 := hR3.keep (hB4.block _ hR3.lt)
  have hr3 := (set5_row hr2 (v0 := .int .i64 3) (v1 := .int .i64 j) (v2 := .int .u64 c) (v3 := .int .u64 c) (v4 := .bool true) (x := w.heap.size + 1) (by simp [Value.ownBlock]; omega)).drew
  have hr4 := hr3.keep (fun i hi => hB4.block i (hr3.lt i hi))
  have hl2 : Row w2 98 5 (.slice A k capl) k ys := ((hl.alloc (.cells #[.int .u64 0, .bool false] 117)).alloc (.cells #[.int .i64 0, .int .i64 0, .int .u64 0, .int .u64 0, .bool false] 98)).keep (fun i hi => hB.block i (((hl.alloc (.cells #[.int .u64 0, .bool false] 117)).alloc (.cells #[.int .i64 0, .int .i64 0, .int .u64 0, .int .u64 0, .bool false] 98)).lt i hi))
  have hlx : (Value.slice A k capl).ownBlock ≠ some (w.heap.size + 1) := fun e => by have := hl.lt _ e; omega
  have hl3 := (set5_row hl2 (v0 := .int .i64 3) (v1 := .int .i64 j) (v2 := .int .u64 c) (v3 := .int .u64 c) (v4 := .bool true) hlx).drew
  have hl4 := hl3.keep (fun i hi => hB4.block i (hl3.lt i hi))
  clear hb3 hx3 hr3 hl3 x0 x1 x2 x3 x4 z0 z1 z2 z3 z4 e0 e1 hp2 hp3 hq2 hq3
  have x0 := hx4.cell 0
  have x1 := hx4.cell 1
  have x2 := hx4.cell 2
  have x3 := hx4.cell 3
  have x4 := hx4.cell 4
  have z0 := hx4.frozen 0
  have z1 := hx4.frozen 1
  have z2 := hx4.frozen 2
  have z3 := hx4.frozen 3
  have z4 := hx4.frozen 4
  simp at x0 x1 x2 x3 x4
  have y0 := hR4.cell 0
  have y1 := hR4.cell 1
  have u0 := hR4.frozen 0
  have u1 := hR4.frozen 1
  simp at y0 y1
  have n5 : w.heap.size + 1 ≠ w.heap.size := by omega
  have n6 : w.heap.size ≠ w.heap.size + 1 := by omega
  go_wp2_with fail
  have nb : b ≠ w.heap.size := by omega
  have hlr : (Value.slice A k capl).ownBlock ≠ some w.heap.size := fun e => by have := hl.lt _ e; omega
  have hrr : (Value.slice (some ⟨g, 0, none⟩) n cap).ownBlock ≠ some w.heap.size := by simp [Value.ownBlock]; omega
  have hR5 := ((set5_far hR4 (x := w.heap.size + 1) (by omega) (v0 := .int .i64 3) (v1 := .int .i64 j) (v2 := .int .u64 c) (v3 := .int .u64 c) (v4 := .bool false)).set 0 (.int .u64 c)).set 1 (.bool false)
  have hb5 := ((set5_far hb4 n1 (v0 := .int .i64 3) (v1 := .int .i64 j) (v2 := .int .u64 c) (v3 := .int .u64 c) (v4 := .bool false)).far (p := ⟨w.heap.size, 0, none⟩) nb (.int .u64 c)).far (p := ⟨w.heap.size, 1, none⟩) nb (.bool false)
  have hx5 := ((set5_self hx4 (v0 := .int .i64 3) (v1 := .int .i64 j) (v2 := .int .u64 c) (v3 := .int .u64 c) (v4 := .bool false)).far (p := ⟨w.heap.size, 0, none⟩) n5 (.int .u64 c)).far (p := ⟨w.heap.size, 1, none⟩) n5 (.bool false)
  have hr5 := ((set5_row hr4 (v0 := .int .i64 3) (v1 := .int .i64 j) (v2 := .int .u64 c) (v3 := .int .u64 c) (v4 := .bool false) (x := w.heap.size + 1) (by simp [Value.ownBlock]; omega)).far (p := ⟨w.heap.size, 0, none⟩) hrr (.int .u64 c)).far (p := ⟨w.heap.size, 1, none⟩) hrr (.bool false)
  have hl5 := ((set5_row hl4 (v0 := .int .i64 3) (v1 := .int .i64 j) (v2 := .int .u64 c) (v3 := .int .u64 c) (v4 := .bool false) hlx).far (p := ⟨w.heap.size, 0, none⟩) hlr (.int .u64 c)).far (p := ⟨w.heap.size, 1, none⟩) hlr (.bool false)
  have hk5 : Keep (fun i => i = b ∨ (Value.slice A k capl).ownBlock = some i ∨ some g = some i) w _ := ((set5_keep (x := w.heap.size + 1) (v0 := .int .i64 3) (v1 := .int .i64 j) (v2 := .int .u64 c) (v3 := .int .u64 c) (v4 := .bool false) ((set5_keep (x := w.heap.size + 1) (v0 := .int .i64 3) (v1 := .int .i64 j) (v2 := .int .u64 c) (v3 := .int .u64 c) (v4 := .bool true) ((((Keep.refl _ w).alloc (.cells #[.int .u64 0, .bool false] 117)).alloc (.cells #[.int .i64 0, .int .i64 0, .int .u64 0, .int .u64 0, .bool false] 98)).trans (Keep.of_below hB (fun i h1 h2 => by simp at h1 h2; omega))) (.inr (by omega))).drew.trans (Keep.of_below hB4 (fun i h1 h2 => by omega))) (.inr (by omega))).setCell (p := ⟨w.heap.size, 0, none⟩) (.inr (Nat.le_refl _)) (.int .u64 c)).setCell (p := ⟨w.heap.size, 1, none⟩) (.inr (Nat.le_refl _)) (.bool false)
  clear x0 x1 x2 x3 x4 z0 z1 z2 z3 z4 hb4 hx4 hr4 hl4 hb2 hx2 hr2 hl2 y0 y1 u0 u1 hR2 hR3 hR4
  revert hb5 hx5 hr5 hl5 hk5 hR5
  generalize (((((((w4.setCell ⟨w.heap.size + 1, 0, none⟩ (.int .i64 3)).setCell ⟨w.heap.size + 1, 1, none⟩ (.int .i64 j)).setCell ⟨w.heap.size + 1, 2, none⟩ (.int .u64 c)).setCell ⟨w.heap.size + 1, 3, none⟩ (.int .u64 c)).setCell ⟨w.heap.size + 1, 4, none⟩ (.bool false)).setCell ⟨w.heap.size, 0, none⟩ (.int .u64 c)).setCell ⟨w.heap.size, 1, none⟩ (.bool false)) = w5
  intro hR5 hb5 hx5 hr5 hl5 hk5
  have x3 := hx5.cell 3
  have e0 := hb5.cell 2
  have e1 := (hr5.cells rfl j (by omega)).1
  have q1 := (hr5.cells rfl j (by omega)).2
  rw [hx] at e1
  simp at x3 e0
  have n3 := Ne.symm n2
  have n4 := Ne.symm hbg
  go_region_held3 (fun w' => w'.cell? ⟨b, 2, none⟩ = some (.slice (some ⟨g, 0, none⟩) n cap) ∧ w'.cell? ⟨w.heap.size + 1, 3, none⟩ = some (.int .u64 c)) (go_keep) (fail)
  go_wp2_with fail
  have hb6 := (hb5.far (p := ⟨g, j, none⟩) hbg (.int .u64 c)).drew
  have hx6 := (hx5.far (p := ⟨g, j, none⟩) n2 (.int .u64 c)).drew
  have hr6 := (hr5.stored rfl j (.int .u64 c)).drew
  have hl6 := (hl5.far (p := ⟨g, j, none⟩) (hl5.ne_row hr5 (by decide) |> fun h e => h g e (by simp [Value.ownBlock])) (.int .u64 c)).drew
  have hk6 := (hk5.setCell (p := ⟨g, j, none⟩) (.inl (.inr (.inr rfl))) (.int .u64 c)).drew
  have hR6 := (hR5.far (p := ⟨g, j, none⟩) (by show w.heap.size ≠ g; omega) (.int .u64 c)).drew
  clear x3 e0 e1 q1 hb5 hx5 hr5 hl5 hk5 hR5
  revert hb6 hx6 hr6 hl6 hk6 hR6
  generalize (w5.setCell ⟨g, j, none⟩ (.int .u64 c)).drew = w6
  intro hb6 hx6 hr6 hl6 hk6 hR6
  have x0 := hx6.cell 0
  have x1 := hx6.cell 1
  have x2 := hx6.cell 2
  have x3 := hx6.cell 3
  have x4 := hx6.cell 4
  simp at x0 x1 x2 x3 x4
  go_still_tail 4, (by kernel_rfl)
  change wpList _ _ _ _ _ w6.drew
  go_wp2_with (go_at_call 54; refine (note_any b cnt k _ _ _ _ _ _ _ _ _ _ hb6.drew hl6.drew hk hc).mono ?_; rintro e w7 ⟨rfl, hnp⟩)
  clear x0 x1 x2 x3 x4
  have hR7 : Blk w7 w.heap.size 117 _ := hR6.drew.keep (note_far hnp hR6.lt (by show w.heap.size ≠ b; omega) hlr)
  have y0 := hR7.cell 0
  have y1 := hR7.cell 1
  have u0 := hR7.frozen 0
  have u1 := hR7.frozen 1
  simp at y0 y1
  go_step3
  go_wp2
  (try rw [Exit.noGoto_ret])
  exact bodyPost_ret (v := .tuple #[.agg #[.int .u64 c, .bool false], .int .i64 0]) (by simp [results, Tryd.results55, go_sem, y0, y1]) rfl ⟨rfl, perf_set2 hR7 (Nat.le_refl _) (perf_end hb6 hr6 (hk6.mono (fun i h => by simpa [Value.ownBlock] using h)) hnp (hl6.ne_row hr6 (by decide)))⟩

end Go.Proofs.YthiaaapcbiameaaDoor
