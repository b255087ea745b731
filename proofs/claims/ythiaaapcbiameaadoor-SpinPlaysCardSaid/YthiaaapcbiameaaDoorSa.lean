/- Locks: an arena as something in the memory, its steps; the numbers of a lock's cell; turn, isHeld, New, Try, Free, Held. -/
import Derived.Test.YthiaaapcbiameaaDoorW
import Derived.Test.YthiaaapcbiameaaDoorSm
import Derived.Test.YthiaaapcbiameaaDoorRq
namespace Go.Proofs.YthiaaapcbiameaaDoor
open Go.RowKit
attribute [local go_sem] Oper.semAt_some

theorem jump_ret {l : Nat} {J : Act → World → Prop} {Q : Exit → Act → World → Prop} {a : Act} {w : World} (h : Q .ret a w) : Exit.jump l J Q .ret a w := h

/-- The blocks of the arena b. -/
def footA (b : Nat) (w : World) (k : Nat) : Prop := ∃ c vl vc m, Blk w b 55 #[c, vl, vc, m] ∧ (k = b ∨ vl.ownBlock = some k ∨ vc.ownBlock = some k)

section
variable {F : Nat → Prop} {b : Nat} {s s' : St} {w w' : World}
theorem footA.parts {c vl vc m : Value} {k : Nat} (h : footA b w k) (hb : Blk w b 55 #[c, vl, vc, m]) : k = b ∨ vl.ownBlock = some k ∨ vc.ownBlock = some k := by
  obtain ⟨c', vl', vc', m', hb', hk⟩ := h
  unfold Blk at hb hb'
  rw [hb] at hb'
  simp at hb'
  obtain ⟨rfl, rfl, rfl, rfl⟩ := hb'
  exact hk
theorem Are.foot (h : Are F w b s) : Are (footA b w) w b s ∧ ∀ k, footA b w k → F k := by
  obtain ⟨vl, vc, h⟩ := h
  refine ⟨⟨vl, vc, h.blk, h.cells, h.last, ⟨_, _, _, _, h.blk, .inl rfl⟩, fun k hk => ⟨_, _, _, _, h.blk, .inr (.inl hk)⟩, fun k hk => ⟨_, _, _, _, h.blk, .inr (.inr hk)⟩, h.pos, h.most, h.len⟩, fun k hk => ?_⟩
  rcases hk.parts h.blk with rfl | hk | hk
  · exact h.fb
  · exact h.fl k hk
  · exact h.fc k hk
/-- The arena b, as something in the memory. -/
def arena (b : Nat) : Res St where
  R s w := Are (footA b w) w b s
  ft := footA b
  lt := by
    intro s W h k hk
    obtain ⟨vl, vc, h⟩ := h
    rcases hk.parts h.blk with rfl | hk | hk
    · exact h.blk.lt
    · exact h.last.lt k hk
    · exact h.cells.lt k hk
  loc := by
    intro s W W' h hk
    have h' := h.keep (w' := W') (fun k _ hf => hk k hf)
    obtain ⟨vl, vc, hA⟩ := h
    have hb' := hA.blk.keep (hk b hA.fb)
    have hft : ∀ k, footA b W' k ↔ footA b W k := fun k => ⟨fun hf => ⟨_, _, _, _, hA.blk, hf.parts hb'⟩, fun hf => ⟨_, _, _, _, hb', hf.parts hA.blk⟩⟩
    exact ⟨h'.mono (fun k _ hf => (hft k).2 hf), hft⟩

theorem arena_of (h : Are F w b s) : (arena b).R s w := h.foot.1
theorem arena_are (h : (arena b).R s w) : Are (fun k => footA b w k ∨ w.heap.size ≤ k) w b s := Are.mono h (fun _ _ hk => .inl hk)
theorem arena_ws (h : (arena b).R s w) : WS (fun k => footA b w k ∨ w.heap.size ≤ k) w w b s := WS.start (arena_are h) (fun _ hk => .inr hk)
theorem steps_of (h : WS (fun k => footA b w k ∨ w.heap.size ≤ k) w w' b s') : (arena b).Steps s' w w' :=
  Res.Steps.of h.are.foot.1 ⟨h.keep.os, h.keep.tape, h.keep.output, h.keep.size, fun k hk hf => h.keep.block k hk (fun e => e.elim hf (fun e => by omega))⟩ (fun k hk => h.are.foot.2 k hk)

theorem Load_st (j : Int) (h : (arena b).R s w) (hh : s.hist.length < 1000000000) :
    Calls Tryd.prog 32 #[.pointer (some ⟨b, 0, none⟩), .int .i64 j] w fun e w' => e = .returned (.tuple #[.int .u64 (doSt s 1 j 0 0).2.1.old, .int .i64 (doSt s 1 j 0 0).2.2]) ∧ (arena b).Steps (doSt s 1 j 0 0).1 w w' :=
  (Load_do j (arena_ws h) hh).mono fun _ _ ⟨he, hw⟩ => ⟨he, steps_of hw⟩
theorem Store_st (j x : Int) (h : (arena b).R s w) (hh : s.hist.length < 1000000000) :
    Calls Tryd.prog 29 #[.pointer (some ⟨b, 0, none⟩), .int .i64 j, .int .u64 x] w fun e w' => e = .returned (.int .i64 (doSt s 2 j x 0).2.2) ∧ (arena b).Steps (doSt s 2 j x 0).1 w w' :=
  (Store_do j x (arena_ws h) hh).mono fun _ _ ⟨he, hw⟩ => ⟨he, steps_of hw⟩
theorem Swap_st (j x y : Int) (h : (arena b).R s w) (hh : s.hist.length < 1000000000) :
    Calls Tryd.prog 51 #[.pointer (some ⟨b, 0, none⟩), .int .i64 j, .int .u64 x, .int .u64 y] w fun e w' => e = .returned (.tuple #[.int .u64 (doSt s 3 j x y).2.1.old, .bool (doSt s 3 j x y).2.1.did, .int .i64 (doSt s 3 j x y).2.2]) ∧ (arena b).Steps (doSt s 3 j x y).1 w w' :=
  (Swap_do j x y (arena_ws h) hh).mono fun _ _ ⟨he, hw⟩ => ⟨he, steps_of hw⟩
theorem Alloc_st (n : Int) (h : (arena b).R s w) :
    Calls Tryd.prog 33 #[.pointer (some ⟨b, 0, none⟩), .int .i64 n] w fun e w' => e = .returned (.tuple #[.int .i64 (allocSt s n).2.1, .int .i64 (allocSt s n).2.2]) ∧ (arena b).Steps (allocSt s n).1 w w' :=
  (Alloc_do n (arena_ws h)).mono fun _ _ ⟨he, hw⟩ => ⟨he, steps_of hw⟩
end

/-- The numbers of a lock's cell: free, held. -/
def Num (w : World) : Prop := w.cell? ⟨0, 0, none⟩ = some (.int .u64 0) ∧ w.cell? ⟨0, 1, none⟩ = some (.int .u64 1)
theorem Num.lt {w : World} (h : Num w) : 0 < w.heap.size := by have := World.block_lt_of_cell? w _ h.1; simpa using this
theorem Num.keep {w w' : World} (h : Num w) (hk : w'.heap[0]? = w.heap[0]?) : Num w' := by
  unfold Num World.cell? at *
  simp only [hk]
  exact h
theorem Num.below {w w' : World} (h : Num w) (hB : Below w.heap.size w w') : Num w' := h.keep (hB.block 0 h.lt)

/-- A lock's arena: it stands as s, apart from the numbers. -/
structure Lk (b : Nat) (s : St) (w : World) : Prop where
  are : (arena b).R s w
  num : Num w
  nf : ¬ footA b w 0
section
variable {b : Nat} {s s' : St} {w w' : World}
theorem Lk.step (h : Lk b s w) (hs : (arena b).Steps s' w w') : Lk b s' w' := by
  refine ⟨hs.at_, h.num.keep (hs.keep.block 0 h.num.lt h.nf), fun hf => ?_⟩
  rcases hs.ft 0 hf with h1 | h1
  · exact h.nf h1
  · have := h.num.lt; omega
theorem Lk.below (h : Lk b s w) (hB : Below w.heap.size w w') : Lk b s w' := h.step (Res.Steps.below h.are hB)

theorem foot_new (h : (arena b).R s w) (o : Obj) : ¬ footA b (w.alloc o).drew w.heap.size := fun hf => by
  have := ((arena b).loc (W' := (w.alloc o).drew) h (fun k hk => Below.heap_alloc w o k ((arena b).lt h k hk))).2 w.heap.size
  exact Nat.lt_irrefl _ ((arena b).lt h _ (this.1 hf))
theorem Lk.box (h : Lk b s w) (o : Obj) : Lk b s (w.alloc o).drew := h.below (((Below.refl _ _).alloc (Nat.le_refl _) _).drew)

set_option maxRecDepth 100000 in
set_option maxHeartbeats 800000 in
theorem turn_try (j : Int) (h : Lk b s w) (hh : s.hist.length < 1000000000) :
    Calls Tryd.prog 34 #[.agg #[.pointer (some ⟨b, 0, none⟩)], .int .i64 j, .int .i64 0, .int .i64 1] w fun e w' =>
      e = .returned (.tuple #[.bool (doSt s 3 j 0 1).2.1.did, .int .i64 (doSt s 3 j 0 1).2.2]) ∧ (arena b).Steps (doSt s 3 j 0 1).1 w w' := by
  have hb1 : Below w.heap.size w (w.alloc (.cells #[.pointer (some ⟨b, 0, none⟩)] 83)).drew := ((Below.refl _ _).alloc (Nat.le_refl _) _).drew
  have h1 := h.below hb1
  have s1 := Res.Steps.below h.are hb1
  have n0 := h1.num.1
  have n1 := h1.num.2
  have H := Lib.hid s1
  have hbx : Blk (w.alloc (.cells #[.pointer (some ⟨b, 0, none⟩)] 83)).drew w.heap.size 83 #[.pointer (some ⟨b, 0, none⟩)] := Blk.new w _ _
  have hnf := foot_new h.are (.cells #[.pointer (some ⟨b, 0, none⟩)] 83)
  clear s1
  go_enter Tryd.func34, Tryd.ntmps34
  go_wp2_with fail
  go_region_held3 (fun w' => w'.cell? ⟨w.heap.size, 0, none⟩ = some (.pointer (some ⟨b, 0, none⟩)) ∧ w'.cell? ⟨0, 0, none⟩ = some (.int .u64 0) ∧ w'.cell? ⟨0, 1, none⟩ = some (.int .u64 1))
    (first | go_keep | exact k1)
    ((go_at_call 51
      refine (Swap_st j 0 1 h1.are hh).mono ?_
      rintro e w1 ⟨rfl, hst⟩
      have k1 : w1.cell? ⟨w.heap.size, 0, none⟩ = some (.pointer (some ⟨b, 0, none⟩)) ∧ w1.cell? ⟨0, 0, none⟩ = some (.int .u64 0) ∧ w1.cell? ⟨0, 1, none⟩ = some (.int .u64 1) :=
        ⟨(hbx.keep (hst.keep.block _ hbx.lt hnf)).cell 0, (h1.step hst).num⟩))
  go_wp2
  go_ret2
  exact ⟨rfl, H.out.trans hst⟩

set_option maxRecDepth 100000 in
set_option maxHeartbeats 800000 in
theorem turn_try_void (j : Int) (v : Value) (hn : Num w) (h : Void w v) :
    Calls Tryd.prog 34 #[.agg #[v], .int .i64 j, .int .i64 0, .int .i64 1] w fun e w' => e = .returned (.tuple #[.bool false, .int .i64 1]) ∧ Below w.heap.size w w' := by
  have hb1 : Below w.heap.size w (w.alloc (.cells #[v] 83)).drew := ((Below.refl _ _).alloc (Nat.le_refl _) _).drew
  have h1 := h.below hb1
  have n := hn.below hb1
  have n0 := n.1
  have n1 := n.2
  have hbx : Blk (w.alloc (.cells #[v] 83)).drew w.heap.size 83 #[v] := Blk.new w _ _
  have hlt := n.lt
  have H := Lib.hid hb1
  clear hb1
  go_enter Tryd.func34, Tryd.ntmps34
  go_wp2_with fail
  go_region_held3 (fun w' => w'.cell? ⟨w.heap.size, 0, none⟩ = some v ∧ w'.cell? ⟨0, 0, none⟩ = some (.int .u64 0) ∧ w'.cell? ⟨0, 1, none⟩ = some (.int .u64 1))
    (first | go_keep | exact k1)
    ((go_at_call 51
      refine (Swap_void j 0 1 _ v h1).mono ?_
      rintro e w1 ⟨rfl, hB⟩
      have k1 : w1.cell? ⟨w.heap.size, 0, none⟩ = some v ∧ w1.cell? ⟨0, 0, none⟩ = some (.int .u64 0) ∧ w1.cell? ⟨0, 1, none⟩ = some (.int .u64 1) :=
        ⟨(hbx.keep (hB.block _ hbx.lt)).cell 0, n.below hB⟩))
  go_wp2
  go_ret2
  exact ⟨rfl, H.out.trans (hB.mono H.out.size)⟩

set_option maxRecDepth 100000 in
set_option maxHeartbeats 800000 in
theorem turn_free (j : Int) (h : Lk b s w) (hh : s.hist.length < 1000000000) :
    Calls Tryd.prog 34 #[.agg #[.pointer (some ⟨b, 0, none⟩)], .int .i64 j, .int .i64 1, .int .i64 0] w fun e w' =>
      e = .returned (.tuple #[.bool (doSt s 3 j 1 0).2.1.did, .int .i64 (doSt s 3 j 1 0).2.2]) ∧ (arena b).Steps (doSt s 3 j 1 0).1 w w' := by
  have hb1 : Below w.heap.size w (w.alloc (.cells #[.pointer (some ⟨b, 0, none⟩)] 83)).drew := ((Below.refl _ _).alloc (Nat.le_refl _) _).drew
  have h1 := h.below hb1
  have s1 := Res.Steps.below h.are hb1
  have n0 := h1.num.1
  have n1 := h1.num.2
  have H := Lib.hid s1
  have hbx : Blk (w.alloc (.cells #[.pointer (some ⟨b, 0, none⟩)] 83)).drew w.heap.size 83 #[.pointer (some ⟨b, 0, none⟩)] := Blk.new w _ _
  have hnf := foot_new h.are (.cells #[.pointer (some ⟨b, 0, none⟩)] 83)
  clear s1
  go_enter Tryd.func34, Tryd.ntmps34
  go_wp2_with fail
  go_region_held3 (fun w' => w'.cell? ⟨w.heap.size, 0, none⟩ = some (.pointer (some ⟨b, 0, none⟩)) ∧ w'.cell? ⟨0, 0, none⟩ = some (.int .u64 0) ∧ w'.cell? ⟨0, 1, none⟩ = some (.int .u64 1))
    (first | go_keep | exact k1)
    ((go_at_call 51
      refine (Swap_st j 1 0 h1.are hh).mono ?_
      rintro e w1 ⟨rfl, hst⟩
      have k1 : w1.cell? ⟨w.heap.size, 0, none⟩ = some (.pointer (some ⟨b, 0, none⟩)) ∧ w1.cell? ⟨0, 0, none⟩ = some (.int .u64 0) ∧ w1.cell? ⟨0, 1, none⟩ = some (.int .u64 1) :=
        ⟨(hbx.keep (hst.keep.block _ hbx.lt hnf)).cell 0, (h1.step hst).num⟩))
  go_wp2
  go_ret2
  exact ⟨rfl, H.out.trans hst⟩

set_option maxRecDepth 100000 in
set_option maxHeartbeats 800000 in
theorem turn_free_void (j : Int) (v : Value) (hn : Num w) (h : Void w v) :
    Calls Tryd.prog 34 #[.agg #[v], .int .i64 j, .int .i64 1, .int .i64 0] w fun e w' => e = .returned (.tuple #[.bool false, .int .i64 1]) ∧ Below w.heap.size w w' := by
  have hb1 : Below w.heap.size w (w.alloc (.cells #[v] 83)).drew := ((Below.refl _ _).alloc (Nat.le_refl _) _).drew
  have h1 := h.below hb1
  have n := hn.below hb1
  have n0 := n.1
  have n1 := n.2
  have hbx : Blk (w.alloc (.cells #[v] 83)).drew w.heap.size 83 #[v] := Blk.new w _ _
  have hlt := n.lt
  have H := Lib.hid hb1
  clear hb1
  go_enter Tryd.func34, Tryd.ntmps34
  go_wp2_with fail
  go_region_held3 (fun w' => w'.cell? ⟨w.heap.size, 0, none⟩ = some v ∧ w'.cell? ⟨0, 0, none⟩ = some (.int .u64 0) ∧ w'.cell? ⟨0, 1, none⟩ = some (.int .u64 1))
    (first | go_keep | exact k1)
    ((go_at_call 51
      refine (Swap_void j 1 0 _ v h1).mono ?_
      rintro e w1 ⟨rfl, hB⟩
      have k1 : w1.cell? ⟨w.heap.size, 0, none⟩ = some v ∧ w1.cell? ⟨0, 0, none⟩ = some (.int .u64 0) ∧ w1.cell? ⟨0, 1, none⟩ = some (.int .u64 1) :=
        ⟨(hbx.keep (hB.block _ hbx.lt)).cell 0, n.below hB⟩))
  go_wp2
  go_ret2
  exact ⟨rfl, H.out.trans (hB.mono H.out.size)⟩

theorem isHeld_void (j : Int) (v : Value) (h : Void w v) :
    Calls Tryd.prog 38 #[.agg #[v], .int .i64 j] w fun e w' => e = .returned (.tuple #[.bool false, .int .i64 1]) ∧ Below w.heap.size w w' := by
  have hb1 : Below w.heap.size w (w.alloc (.cells #[v] 83)) := ((Below.refl _ _).alloc (Nat.le_refl _) _)
  have h1 := h.below hb1
  have H := Lib.hid hb1
  clear hb1
  go_enter Tryd.func38, Tryd.ntmps38
  go_wp2
  refine wp_scope_fwd 0 rfl ?_
  go_wp2_with (go_at_call 32; refine (Load_void j _ v h1).mono ?_; rintro e w1 ⟨rfl, hB⟩)
  go_step3
  refine ⟨rfl, ?_⟩
  go_wp2
  (try rw [Exit.noGoto_ret])
  go_ret2
  exact ⟨rfl, H.out.trans (hB.mono H.out.size)⟩

theorem isHeld_ok (j : Int) (h : Lk b s w) (hh : s.hist.length < 1000000000) :
    Calls Tryd.prog 38 #[.agg #[.pointer (some ⟨b, 0, none⟩)], .int .i64 j] w fun e w' =>
      e = .returned (.tuple #[.bool ((doSt s 1 j 0 0).2.1.old != 0), .int .i64 (doSt s 1 j 0 0).2.2]) ∧ (arena b).Steps (doSt s 1 j 0 0).1 w w' := by
  have hb1 : Below w.heap.size w (w.alloc (.cells #[.pointer (some ⟨b, 0, none⟩)] 83)) := ((Below.refl _ _).alloc (Nat.le_refl _) _)
  have h1 := h.below hb1
  have H := Lib.hid (Res.Steps.below h.are hb1)
  clear hb1
  have hL := Load_st (w := (w.alloc (.cells #[.pointer (some ⟨b, 0, none⟩)] 83))) j h1.are hh
  unfold doSt at hL ⊢
  by_cases hj : inSt s j = true
  · rw [if_pos hj] at hL ⊢
    simp only at hL ⊢
    go_enter Tryd.func38, Tryd.ntmps38
    go_wp2
    refine wp_scope_fwd 0 rfl ?_
    go_wp2_with (go_at_call 32; refine hL.mono ?_; rintro e w1 ⟨rfl, hst⟩; have n0 := (h1.step hst).num.1)
    go_step3
    go_wp2
    refine jump_ret ?_
    go_ret2
    exact ⟨rfl, H.out.trans hst⟩
  · rw [if_neg hj] at hL ⊢
    simp only at hL ⊢
    go_enter Tryd.func38, Tryd.ntmps38
    go_wp2
    refine wp_scope_fwd 0 rfl ?_
    go_wp2_with (go_at_call 32; refine hL.mono ?_; rintro e w1 ⟨rfl, hst⟩)
    go_step3
    refine ⟨rfl, ?_⟩
    go_wp2
    (try rw [Exit.noGoto_ret])
    go_ret2
    exact ⟨rfl, H.out.trans hst⟩
end
end Go.Proofs.YthiaaapcbiameaaDoor
