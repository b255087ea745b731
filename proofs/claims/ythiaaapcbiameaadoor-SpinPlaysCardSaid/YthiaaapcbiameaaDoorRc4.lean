/- The document's own arena: Do, operation 3 (not done). -/
import Derived.Test.YthiaaapcbiameaaDoorRc
namespace Go.Proofs.YthiaaapcbiameaaDoor
open Go.RowKit
attribute [local go_sem] Oper.semAt_some

set_option maxRecDepth 100000 in
set_option maxHeartbeats 9600000 in
theorem refDo_3n {s : St} {v : Value} (j : Nat) (x y : Int) (w : World) (h : RefS w v s) (hj : j < s.cs.length) (hh : s.hist.length < 1000000000) (hcc : (s.at_ j == x) = false) : Calls Tryd.prog 44 #[v, .int .i64 3, .int .i64 j, .int .u64 x, .int .u64 y] w (RefDoPost w v (s.step j (accOf s 3 j x y), accOf s 3 j x y, 0)) := by
  obtain ⟨i0, hi0, hz0, hz1, hz2⟩ := info_parts info38
  obtain ⟨⟨vC, vL, rfl, hc, hl⟩, hs1, hs2⟩ := h
  obtain ⟨AC, cC, rfl, hcC, _⟩ := hc.form
  obtain ⟨AL, cL, rfl, hcL, _⟩ := hl.form
  have hj0 : (0 : Int) ≤ (j : Int) := by omega
  have hjl : (j : Int) < (s.cs.length : Int) := by omega
  obtain ⟨g, capC, curC, hvC, hbC⟩ := hc.addr (by omega)
  simp only [Value.slice.injEq, true_and] at hvC
  obtain ⟨rfl, rfl⟩ := hvC
  obtain ⟨i1, hi1, hy0, hy1, hy2⟩ := info_parts info52
  have hg := hc.lt g rfl
  obtain ⟨wA, hwA⟩ : ∃ wA, wA = (((w.alloc (.cells #[.slice (some ⟨g, 0, none⟩) s.cs.length cC, .int .i64 s.most, .slice AL s.hist.length cL] 31)).alloc (.cells #[.slice none 0 0, .int .i64 0, .slice none 0 0] 31)).alloc (.cells #[.int .i64 0, .int .i64 0, .int .u64 0, .int .u64 0, .bool false] 98)) := ⟨_, rfl⟩
  have hszA : wA.heap.size = w.heap.size + 3 := by rw [hwA]; simp
  have BA : Below w.heap.size w wA := by rw [hwA]; exact (((Below.refl _ _).alloc (Nat.le_refl _) _).alloc (by simp) _).alloc (by simp; omega) _
  have cA := hc.keep (fun k hk => BA.block k (hc.lt k hk))
  have lA := hl.keep (fun k hk => BA.block k (hl.lt k hk))
  have jA := (cA.cells rfl j (by omega)).1
  rw [St.at_get hj] at jA
  rw [hwA] at jA
  have cB := cA.alloc (.cells #[] 48)
  have lB := lA.alloc (.cells #[] 48)
  have hE := Row.made_at wA (w.heap.size + 1 + 1 + 1) (by omega) 48 1 0 #[] [] rfl (by simp) rfl
  have BB := BA.alloc BA.size (.cells #[] 48)
  have hszB : (wA.alloc (.cells #[] 48)).heap.size = w.heap.size + 4 := by simp; omega
  have res0 : Blk wA (w.heap.size + 1) 31 #[.slice none 0 0, .int .i64 0, .slice none 0 0] := by
    rw [hwA]
    have := (Blk.new (w.alloc (.cells #[.slice (some ⟨g, 0, none⟩) s.cs.length cC, .int .i64 s.most, .slice AL s.hist.length cL] 31)) 31 #[.slice none 0 0, .int .i64 0, .slice none 0 0]).alloc (.cells #[.int .i64 0, .int .i64 0, .int .u64 0, .int .u64 0, .bool false] 98)
    rwa [World.size_alloc] at this
  have acc0 : Blk wA (w.heap.size + 1 + 1) 98 #[.int .i64 0, .int .i64 0, .int .u64 0, .int .u64 0, .bool false] := by
    rw [hwA]
    have := Blk.new ((w.alloc (.cells #[.slice (some ⟨g, 0, none⟩) s.cs.length cC, .int .i64 s.most, .slice AL s.hist.length cL] 31)).alloc (.cells #[.slice none 0 0, .int .i64 0, .slice none 0 0] 31)) 98 #[.int .i64 0, .int .i64 0, .int .u64 0, .int .u64 0, .bool false]
    simpa using this
  have box0 : Blk wA w.heap.size 31 #[.slice (some ⟨g, 0, none⟩) s.cs.length cC, .int .i64 s.most, .slice AL s.hist.length cL] := by
    rw [hwA]; exact ((Blk.new w 31 _).alloc _).alloc _
  have res1 := res0.alloc (.cells #[] 48)
  have acc1 := acc0.alloc (.cells #[] 48)
  have box1 := box0.alloc (.cells #[] 48)
  have HwA := Lib.hid hwA
  rw [hwA] at cB lB hE BB hszB res1 acc1 box1
  clear hwA cA lA BA hszA res0 acc0 box0
  go_enter Tryd.func44, Tryd.ntmps44
  go_wp2_with (first
    | (at_builtin
       refine wpList_append_row _ rfl _ _ _ rfl 48 48 i0 _ 1 8 Tryd.underlying28 hi0 hz0 hz1 hz2 rfl (.slice (some ⟨w.heap.size + 1 + 1 + 1, 0, none⟩) 0 0) 0 [] rfl hE (.slice (some ⟨g, 0, none⟩) s.cs.length cC) s.cs.length _ rfl cB (by simp [Value.oneCell']) (by simp only [maxLen]; omega) (by omega) ?_
       intro v1 w1 hown1 hg1 hat1
       simp only [Nat.zero_add, List.nil_append] at hown1
       obtain ⟨g1, c1, cur1, rfl, hb1, hc1, _⟩ := hown1.addr (by omega)
       have own1 : w.heap.size + 3 ≤ g1 := by
         rw [hszB] at hat1
         simp [Value.ownBlock] at hat1
         omega
       have s1 := (hown1.cells rfl j (by omega)).1
       have f1 := (hown1.cells rfl j (by omega)).2
       rw [St.at_get hj] at s1
       have BC := BB.grown hg1 BB.size (fun k hk => by simp [Value.ownBlock] at hk; omega)
       have hszC := hg1.size
       have gne : ∀ k, k < w.heap.size + 3 → k ≠ g1 := fun k hk => by omega
       have res2 := res1.keep (hg1.block _ res1.lt (by simp [Value.ownBlock]))
       have acc2 := acc1.keep (hg1.block _ acc1.lt (by simp [Value.ownBlock]))
       have box2 := box1.keep (hg1.block _ box1.lt (by simp [Value.ownBlock]; omega))
       have lC := lB.keep (fun k hk => hg1.block k (lB.lt k hk) (by have := hl.lt k hk; simp [Value.ownBlock]; omega))
       have x0 := box2.cell 0
       have x1 := box2.cell 1
       have x2 := box2.cell 2
       simp at x0 x1 x2))
  have hsS : (w1.setCell ⟨g1, j, none⟩ (.int .u64 (s.at_ j))).heap.size = w1.heap.size := by simp [World.setCell]
  have oneO := Blk.new (w1.setCell ⟨g1, j, none⟩ (.int .u64 (s.at_ j))) 98 #[.int .i64 3, .int .i64 j, .int .u64 (s.at_ j), .int .u64 (s.at_ j), .bool false]
  rw [hsS] at oneO
  have cO := (hown1.stored rfl j (.int .u64 (s.at_ j))).alloc (.cells #[.int .i64 3, .int .i64 j, .int .u64 (s.at_ j), .int .u64 (s.at_ j), .bool false] 98)
  have lO := (lC.far (p := ⟨g1, j, none⟩) (fun e => by have := hl.lt _ e; simp only at this; omega) (.int .u64 (s.at_ j))).alloc (.cells #[.int .i64 3, .int .i64 j, .int .u64 (s.at_ j), .int .u64 (s.at_ j), .bool false] 98)
  have resO := (res2.far (p := ⟨g1, j, none⟩) (gne _ (by omega)) (.int .u64 (s.at_ j))).alloc (.cells #[.int .i64 3, .int .i64 j, .int .u64 (s.at_ j), .int .u64 (s.at_ j), .bool false] 98)
  have accO := (acc2.far (p := ⟨g1, j, none⟩) (gne _ (by omega)) (.int .u64 (s.at_ j))).alloc (.cells #[.int .i64 3, .int .i64 j, .int .u64 (s.at_ j), .int .u64 (s.at_ j), .bool false] 98)
  have boxO := (box2.far (p := ⟨g1, j, none⟩) (gne _ (by omega)) (.int .u64 (s.at_ j))).alloc (.cells #[.int .i64 3, .int .i64 j, .int .u64 (s.at_ j), .int .u64 (s.at_ j), .bool false] 98)
  have BO := (BC.setCell (p := ⟨g1, j, none⟩) (by simp only; omega) (.int .u64 (s.at_ j))).alloc (by rw [hsS]; exact BC.size) (.cells #[.int .i64 3, .int .i64 j, .int .u64 (s.at_ j), .int .u64 (s.at_ j), .bool false] 98)
  have hszO : ((w1.setCell ⟨g1, j, none⟩ (.int .u64 (s.at_ j))).alloc (.cells #[.int .i64 3, .int .i64 j, .int .u64 (s.at_ j), .int .u64 (s.at_ j), .bool false] 98)).heap.size = w1.heap.size + 1 := by rw [World.size_alloc, hsS]
  have hBC := BC.size
  clear hown1 lC res2 acc2 box2 BC hg1 hb1 s1 f1 x0 x1 x2
  revert oneO cO lO resO accO boxO BO hszO
  generalize ((w1.setCell ⟨g1, j, none⟩ (.int .u64 (s.at_ j))).alloc (.cells #[.int .i64 3, .int .i64 j, .int .u64 (s.at_ j), .int .u64 (s.at_ j), .bool false] 98)) = wO
  intro oneO cO lO resO accO boxO BO hszO
  have o0 := oneO.cell 0
  have o1 := oneO.cell 1
  have o2 := oneO.cell 2
  have o3 := oneO.cell 3
  have o4 := oneO.cell 4
  have x1 := boxO.cell 1
  have x2 := boxO.cell 2
  simp at o0 o1 o2 o3 o4 x1 x2
  have n0 : w.heap.size < wO.heap.size := by omega
  have n1 : w.heap.size + 1 < wO.heap.size := by omega
  have n2 : w.heap.size + 1 + 1 < wO.heap.size := by omega
  have n3 : w1.heap.size < wO.heap.size := by omega
  clear hszO
  have kpO : ∀ k, k < wO.heap.size → ∀ o1 o2 : Obj, ((wO.alloc o1).alloc o2).heap[k]? = wO.heap[k]? := fun k hk o1 o2 => (Below.heap_alloc _ _ _ (by simp; omega)).trans (Below.heap_alloc _ _ _ hk)
  have nn1 : w1.heap.size ≠ w.heap.size + 1 := by omega
  have nn2 : w1.heap.size ≠ w.heap.size + 1 + 1 := by omega
  have nn3 : w.heap.size + 1 ≠ w1.heap.size := by omega
  have nn4 : w.heap.size + 1 + 1 ≠ w1.heap.size := by omega
  have nn5 : w.heap.size + 1 ≠ w.heap.size := by omega
  have nn6 : w.heap.size + 1 + 1 ≠ w.heap.size := by omega
  go_region_held3 (fun w' => w'.cell? ⟨w.heap.size, 1, none⟩ = some (.int .i64 s.most) ∧ w'.cell? ⟨w.heap.size, 2, none⟩ = some (.slice AL s.hist.length cL) ∧ w'.cell? ⟨w1.heap.size, 0, none⟩ = some (.int .i64 3) ∧ w'.cell? ⟨w1.heap.size, 1, none⟩ = some (.int .i64 j) ∧ w'.cell? ⟨w1.heap.size, 2, none⟩ = some (.int .u64 (s.at_ j)) ∧ w'.cell? ⟨w1.heap.size, 3, none⟩ = some (.int .u64 (s.at_ j)) ∧ w'.cell? ⟨w1.heap.size, 4, none⟩ = some (.bool false))
    (first
      | with_reducible exact ⟨b31, b32, r0, r1, r2, r3, r4⟩
      | with_reducible exact ⟨b21, b22, p0, p1, p2, p3, p4⟩
      | ((refine ⟨?_, ?_, ?_, ?_, ?_, ?_, ?_⟩ <;> (repeat (rw [World.cell?_setCell_far _ _ _ _ (by with_reducible first | exact nn3 | exact nn4 | exact nn5 | exact nn6)]))) <;> with_reducible (first | assumption | exact b31 | exact b32 | exact r0 | exact r1 | exact r2 | exact r3 | exact r4))
      | go_keep)
    ((first
      | (refine step_append_row _ (by rfl) _ _ _ (by rfl) 98 98 i1 _ 5 40 Tryd.underlying29 hi1 hy0 hy1 hy2 rfl (.slice (some ⟨wO.heap.size, 0, none⟩) 0 0) 0 [] (by rfl) (Row.made_at wO _ rfl 98 5 0 #[] [] rfl (by simp) rfl).drew (.slice AL s.hist.length cL) s.hist.length _ (by rfl) (lO.alloc _).drew (flat_one _) (by simp only [maxLen]; omega) (by omega) ?_
         intro v2 w2 hown2 hg2 hat2
         simp only [Nat.zero_add, List.nil_append] at hown2
         obtain ⟨A2, c2, rfl, hc2, hc2m⟩ := hown2.form
         have hk2 : ∀ k, k < wO.heap.size → w2.heap[k]? = wO.heap[k]? := fun k hk => (hg2.block k (by simp; omega) (by simp [Value.ownBlock]; omega)).trans (Below.heap_alloc _ _ _ hk)
         have own2 : ∀ k, (Value.slice A2 s.hist.length c2).ownBlock = some k → wO.heap.size ≤ k := fun k e => by
           rcases hat2 with h | h
           · rw [h] at e; simp [Value.ownBlock] at e; omega
           · rw [h] at e; simp at e; omega
         have sz2 : wO.heap.size ≤ w2.heap.size := by have := hg2.size; simp at this; omega
         have B2 : Below w.heap.size w w2 := BO.trans (Below.grown ((Below.refl _ _).alloc (by omega) _).drew hg2 (by simp; omega) (fun k e => by simp [Value.ownBlock] at e; omega))
         have one2 := oneO.keep (hk2 _ oneO.lt)
         have p0 := one2.cell 0
         have p1 := one2.cell 1
         have p2 := one2.cell 2
         have p3 := one2.cell 3
         have p4 := one2.cell 4
         have b21 := (boxO.keep (hk2 _ boxO.lt)).cell 1
         have b22 := (boxO.keep (hk2 _ boxO.lt)).cell 2
         simp at p0 p1 p2 p3 p4 b21 b22
         have m3 : w1.heap.size < w2.heap.size := by omega)
      | (refine step_append_row _ (by rfl) _ _ _ (by rfl) 98 98 i1 _ 5 40 Tryd.underlying29 hi1 hy0 hy1 hy2 rfl (.slice (some ⟨wO.heap.size, 0, none⟩) 0 0) 0 [] (by rfl) ((Row.made_at wO _ rfl 98 5 0 #[] [] rfl (by simp) rfl).alloc _).drew (.slice AL s.hist.length cL) s.hist.length _ (by rfl) ((lO.alloc _).alloc _).drew (flat_one _) (by simp only [maxLen]; omega) (by omega) ?_
         intro v2 w2 hown2 hg2 hat2
         simp only [Nat.zero_add, List.nil_append] at hown2
         obtain ⟨A2, c2, rfl, hc2, hc2m⟩ := hown2.form
         have hk2 : ∀ k, k < wO.heap.size → w2.heap[k]? = wO.heap[k]? := fun k hk => (hg2.block k (by simp; omega) (by simp [Value.ownBlock]; omega)).trans (kpO k hk _ _)
         have own2 : ∀ k, (Value.slice A2 s.hist.length c2).ownBlock = some k → wO.heap.size ≤ k := fun k e => by
           rcases hat2 with h | h
           · rw [h] at e; simp [Value.ownBlock] at e; omega
           · rw [h] at e; simp at e; omega
         have sz2 : wO.heap.size ≤ w2.heap.size := by have := hg2.size; simp at this; omega
         have B2 : Below w.heap.size w w2 := BO.trans (Below.grown (((Below.refl _ _).alloc (by omega) _).alloc (by simp; omega) _).drew hg2 (by simp; omega) (fun k e => by simp [Value.ownBlock] at e; omega))
         have one2 := oneO.keep (hk2 _ oneO.lt)
         have p0 := one2.cell 0
         have p1 := one2.cell 1
         have p2 := one2.cell 2
         have p3 := one2.cell 3
         have p4 := one2.cell 4
         have b21 := (boxO.keep (hk2 _ boxO.lt)).cell 1
         have b22 := (boxO.keep (hk2 _ boxO.lt)).cell 2
         simp at p0 p1 p2 p3 p4 b21 b22
         have m3 : w1.heap.size < w2.heap.size := by omega
         have new2 := (Row.made_at (wO.alloc (.cells #[] 98)) (wO.heap.size + 1) (by simp) 98 5 1 #[.int .i64 3, .int .i64 j, .int .u64 (s.at_ j), .int .u64 (s.at_ j), .bool false] [.int .i64 3, .int .i64 j, .int .u64 (s.at_ j), .int .u64 (s.at_ j), .bool false] rfl (by simp [maxLen]) (by rfl)).drew.keep (fun k hk => hg2.block k (by simp [Value.ownBlock] at hk; simp; omega) (by simp [Value.ownBlock] at hk ⊢; omega)))
      | (refine step_append_row _ (by rfl) _ _ _ (by rfl) 98 98 i1 _ 5 40 Tryd.underlying29 hi1 hy0 hy1 hy2 rfl (.slice (some ⟨wO.heap.size + 1, 0, none⟩) 0 0) 0 [] (by rfl) (Row.made_at (wO.alloc _) _ (by simp) 98 5 0 #[] [] rfl (by simp) rfl).drew (.slice AL s.hist.length cL) s.hist.length _ (by rfl) ((lO.alloc _).alloc _).drew (flat_one _) (by simp only [maxLen]; omega) (by omega) ?_
         intro v2 w2 hown2 hg2 hat2
         simp only [Nat.zero_add, List.nil_append] at hown2
         obtain ⟨A2, c2, rfl, hc2, hc2m⟩ := hown2.form
         have hk2 : ∀ k, k < wO.heap.size → w2.heap[k]? = wO.heap[k]? := fun k hk => (hg2.block k (by simp; omega) (by simp [Value.ownBlock]; omega)).trans (kpO k hk _ _)
         have own2 : ∀ k, (Value.slice A2 s.hist.length c2).ownBlock = some k → wO.heap.size ≤ k := fun k e => by
           rcases hat2 with h | h
           · rw [h] at e; simp [Value.ownBlock] at e; omega
           · rw [h] at e; simp at e; omega
         have sz2 : wO.heap.size ≤ w2.heap.size := by have := hg2.size; simp at this; omega
         have B2 : Below w.heap.size w w2 := BO.trans (Below.grown (((Below.refl _ _).alloc (by omega) _).alloc (by simp; omega) _).drew hg2 (by simp; omega) (fun k e => by simp [Value.ownBlock] at e; omega))
         have one2 := oneO.keep (hk2 _ oneO.lt)
         have p0 := one2.cell 0
         have p1 := one2.cell 1
         have p2 := one2.cell 2
         have p3 := one2.cell 3
         have p4 := one2.cell 4
         have b21 := (boxO.keep (hk2 _ boxO.lt)).cell 1
         have b22 := (boxO.keep (hk2 _ boxO.lt)).cell 2
         simp at p0 p1 p2 p3 p4 b21 b22
         have m3 : w1.heap.size < w2.heap.size := by omega
         have new2 := ((Row.made_at wO wO.heap.size rfl 98 5 1 #[.int .i64 3, .int .i64 j, .int .u64 (s.at_ j), .int .u64 (s.at_ j), .bool false] [.int .i64 3, .int .i64 j, .int .u64 (s.at_ j), .int .u64 (s.at_ j), .bool false] rfl (by simp [maxLen]) (by rfl)).alloc (.cells #[] 98)).drew.keep (fun k hk => hg2.block k (by simp [Value.ownBlock] at hk; simp; omega) (by simp [Value.ownBlock] at hk ⊢; omega)))
      | (refine step_append_row _ (by rfl) _ _ _ (by rfl) 98 98 i1 _ 5 40 Tryd.underlying29 hi1 hy0 hy1 hy2 rfl (.slice A2 s.hist.length c2) s.hist.length _ (by rfl) hown2 _ 1 _ (by rfl) new2 (by simp [Value.oneCell']) (by simp only [maxLen]; omega) (by omega) ?_
         intro v3 w3 hown3 hg3 hat3
         have hk3 : ∀ k, k < wO.heap.size → w3.heap[k]? = w2.heap[k]? := fun k hk => hg3.block k (by omega) (fun e => by have := own2 k e.symm; omega)
         have B3 : Below w.heap.size w w3 := B2.grown hg3 B2.size (fun k e => by have := own2 k e; omega)
         obtain ⟨A3, c3, rfl, hc3, hc3m⟩ := hown3.form
         have own3 : ∀ k, (Value.slice A3 (s.hist.length + 1) c3).ownBlock = some k → wO.heap.size ≤ k := fun k e => by
           rcases hat3 with h | h
           · rw [h] at e; exact own2 k e
           · rw [h] at e; simp at e; omega
         have one3 := one2.keep (hk3 _ oneO.lt)
         have res3 := (resO.keep (hk2 _ resO.lt)).keep (hk3 _ resO.lt)
         have acc3 := (accO.keep (hk2 _ accO.lt)).keep (hk3 _ accO.lt)
         have c3r := (cO.keep (fun k hk => hk2 k (cO.lt k hk))).keep (fun k hk => hk3 k (cO.lt k hk))
         have r0 := one3.cell 0
         have r1 := one3.cell 1
         have r2 := one3.cell 2
         have r3 := one3.cell 3
         have r4 := one3.cell 4
         have u0 := res3.cell 0
         have u1 := res3.cell 1
         have u2 := res3.cell 2
         have e0 := res3.frozen 0
         have e1 := res3.frozen 1
         have e2 := res3.frozen 2
         have t0 := acc3.cell 0
         have t1 := acc3.cell 1
         have t2 := acc3.cell 2
         have t3 := acc3.cell 3
         have t4 := acc3.cell 4
         have d0 := acc3.frozen 0
         have d1 := acc3.frozen 1
         have d2 := acc3.frozen 2
         have d3 := acc3.frozen 3
         have d4 := acc3.frozen 4
         have b31 := ((boxO.keep (hk2 _ boxO.lt)).keep (hk3 _ boxO.lt)).cell 1
         have b32 := ((boxO.keep (hk2 _ boxO.lt)).keep (hk3 _ boxO.lt)).cell 2
         simp at b31 b32 r0 r1 r2 r3 r4 u0 u1 u2 t0 t1 t2 t3 t4)
      | (refine step_append_row _ (by rfl) _ _ _ (by rfl) 98 98 i1 _ 5 40 Tryd.underlying29 hi1 hy0 hy1 hy2 rfl (.slice A2 s.hist.length c2) s.hist.length _ (by rfl) (hown2.alloc _) (.slice (some ⟨w2.heap.size, 0, none⟩) 1 1) 1 _ (by rfl) (Row.made_at w2 _ (by simp) 98 5 1 #[.int .i64 3, .int .i64 j, .int .u64 (s.at_ j), .int .u64 (s.at_ j), .bool false] [.int .i64 3, .int .i64 j, .int .u64 (s.at_ j), .int .u64 (s.at_ j), .bool false] rfl (by simp [maxLen]) (by rfl)) (by simp [Value.oneCell']) (by simp only [maxLen]; omega) (by omega) ?_
         intro v3 w3 hown3 hg3 hat3
         have hk3 : ∀ k, k < wO.heap.size → w3.heap[k]? = w2.heap[k]? := fun k hk => (hg3.block k (by simp; omega) (fun e => by have := own2 k e.symm; omega)).trans (Below.heap_alloc _ _ _ (by omega))
         have B3 : Below w.heap.size w w3 := (B2.alloc B2.size _).grown hg3 (by simp; omega) (fun k e => by have := own2 k e; omega)
         obtain ⟨A3, c3, rfl, hc3, hc3m⟩ := hown3.form
         have own3 : ∀ k, (Value.slice A3 (s.hist.length + 1) c3).ownBlock = some k → wO.heap.size ≤ k := fun k e => by
           rcases hat3 with h | h
           · rw [h] at e; exact own2 k e
           · rw [h] at e; simp at e; omega
         have one3 := one2.keep (hk3 _ oneO.lt)
         have res3 := (resO.keep (hk2 _ resO.lt)).keep (hk3 _ resO.lt)
         have acc3 := (accO.keep (hk2 _ accO.lt)).keep (hk3 _ accO.lt)
         have c3r := (cO.keep (fun k hk => hk2 k (cO.lt k hk))).keep (fun k hk => hk3 k (cO.lt k hk))
         have r0 := one3.cell 0
         have r1 := one3.cell 1
         have r2 := one3.cell 2
         have r3 := one3.cell 3
         have r4 := one3.cell 4
         have u0 := res3.cell 0
         have u1 := res3.cell 1
         have u2 := res3.cell 2
         have e0 := res3.frozen 0
         have e1 := res3.frozen 1
         have e2 := res3.frozen 2
         have t0 := acc3.cell 0
         have t1 := acc3.cell 1
         have t2 := acc3.cell 2
         have t3 := acc3.cell 3
         have t4 := acc3.cell 4
         have d0 := acc3.frozen 0
         have d1 := acc3.frozen 1
         have d2 := acc3.frozen 2
         have d3 := acc3.frozen 3
         have d4 := acc3.frozen 4
         have b31 := ((boxO.keep (hk2 _ boxO.lt)).keep (hk3 _ boxO.lt)).cell 1
         have b32 := ((boxO.keep (hk2 _ boxO.lt)).keep (hk3 _ boxO.lt)).cell 2
         simp at b31 b32 r0 r1 r2 r3 r4 u0 u1 u2 t0 t1 t2 t3 t4)))
  all_goals
    rename_i hHeld
    clear hHeld
    go_wp2
    obtain ⟨E1, E2, E3, E4⟩ := doEnd (j := j) B3 c3r own1 hown3 (fun k e => by have := own3 k e; omega) res3 acc3 hs1 hs2
    have ea : accOf s 3 j x y = ⟨3, j, s.at_ j, (s.at_ j), false⟩ := by
      simp at hcc; simp [accOf, newOf, didOf, hcc]
    rw [ea]
    have v0 := E1.cell 0
    have v1 := E1.cell 1
    have v2 := E1.cell 2
    have z0 := E2.cell 0
    have z1 := E2.cell 1
    have z2 := E2.cell 2
    have z3 := E2.cell 3
    have z4 := E2.cell 4
    clear E1 E2
    simp only [List.getElem?_toArray, List.getElem?_cons_zero, List.getElem?_cons_succ] at v0 v1 v2 z0 z1 z2 z3 z4
    exact bodyPost_ret (v := .tuple #[.agg #[.slice (some ⟨g1, 0, none⟩) s.cs.length c1, .int .i64 s.most, .slice A3 (s.hist.length + 1) c3], .agg #[.int .i64 3, .int .i64 j, .int .u64 (s.at_ j), .int .u64 (s.at_ j), .bool false], .int .i64 0]) (by simp [results, Tryd.results44, go_sem, v0, v1, v2, z0, z1, z2, z3, z4]) rfl ⟨_, rfl, E3, E4, fun k hk => hk.parts.elim (fun e => .inr (by simp [Value.ownBlock] at e; omega)) (fun e => .inr (by have := own3 k e; omega))⟩
end Go.Proofs.YthiaaapcbiameaaDoor
