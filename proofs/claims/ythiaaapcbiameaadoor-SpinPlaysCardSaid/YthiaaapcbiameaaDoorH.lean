/- The accesses that are refused: no arena, no such cell. -/
import Derived.Test.YthiaaapcbiameaaDoorM
import Derived.Test.YthiaaapcbiameaaDoorC
namespace Go.Proofs.YthiaaapcbiameaaDoor
open Go.RowKit

/-- No arena: nil, or one that New did not make. -/
def Void (w : World) (v : Value) : Prop := v = .pointer none ∨ ∃ b, v = .pointer (some ⟨b, 0, none⟩) ∧ b < w.heap.size ∧ w.cell? ⟨b, 3, none⟩ = some (.int .i64 0)
theorem Void.alloc {w : World} {v : Value} (h : Void w v) (o : Obj) : Void (w.alloc o) v := by
  rcases h with h | ⟨b, h, hb, hc⟩
  · exact .inl h
  · exact .inr ⟨b, h, by simp; omega, (World.cell?_alloc_lt _ _ _ hb).trans hc⟩
theorem Void.below {w w' : World} {v : Value} (h : Void w v) (hB : Below w.heap.size w w') : Void w' v := by
  rcases h with h | ⟨b, h, hb, hc⟩
  · exact .inl h
  · exact .inr ⟨b, h, Nat.lt_of_lt_of_le hb hB.size, (hB.cell (p := ⟨b, 3, none⟩) hb).trans hc⟩

theorem exists_void (v : Value) (w : World) (h : Void w v) : Calls Tryd.prog 37 #[v] w fun e w' => e = .returned (.bool false) ∧ w = w' := by
  rcases h with rfl | ⟨b, rfl, _, hc⟩
  · exact exists_nil w
  · exact exists_zero b w hc
theorem exists_are {F : Nat → Prop} {b : Nat} {s : St} {w : World} (h : Are F w b s) : Calls Tryd.prog 37 #[.pointer (some ⟨b, 0, none⟩)] w fun e w' => e = .returned (.bool true) ∧ w = w' := by
  have hm := h.most_cell
  obtain ⟨_, _, h⟩ := h
  have := h.pos
  exact exists_yes b _ w hm (by omega)

set_option maxHeartbeats 400000 in
theorem Len_void (v : Value) (w : World) (h : Void w v) : Calls Tryd.prog 30 #[v] w fun e w' => e = .returned (.int .i64 0) ∧ w = w' := by
  go_enter Tryd.func30, Tryd.ntmps30
  go_wp2_with (go_at_call 37; refine (exists_void _ _ h).mono ?_; rintro e w' ⟨rfl, rfl⟩)
  go_ret
  exact ⟨rfl, rfl⟩
set_option maxHeartbeats 400000 in
theorem Most_void (v : Value) (w : World) (h : Void w v) : Calls Tryd.prog 53 #[v] w fun e w' => e = .returned (.int .i64 0) ∧ w = w' := by
  go_enter Tryd.func53, Tryd.ntmps53
  go_wp2_with (go_at_call 37; refine (exists_void _ _ h).mono ?_; rintro e w' ⟨rfl, rfl⟩)
  go_ret
  exact ⟨rfl, rfl⟩
set_option maxHeartbeats 400000 in
theorem Count_void (v : Value) (w : World) (h : Void w v) : Calls Tryd.prog 16 #[v] w fun e w' => e = .returned (.int .u64 0) ∧ w = w' := by
  go_enter Tryd.func16, Tryd.ntmps16
  go_wp2_with (go_at_call 37; refine (exists_void _ _ h).mono ?_; rintro e w' ⟨rfl, rfl⟩)
  go_ret
  exact ⟨rfl, rfl⟩
set_option maxHeartbeats 400000 in
theorem Copy_void (v : Value) (w : World) (h : Void w v) : Calls Tryd.prog 31 #[v] w fun e w' => e = .returned (.pointer none) ∧ w = w' := by
  go_enter Tryd.func31, Tryd.ntmps31
  go_wp2_with (go_at_call 37; refine (exists_void _ _ h).mono ?_; rintro e w' ⟨rfl, rfl⟩)
  go_ret
  exact ⟨rfl, rfl⟩
set_option maxHeartbeats 400000 in
theorem Alloc_void (v : Value) (n : Int) (w : World) (h : Void w v) : Calls Tryd.prog 33 #[v, .int .i64 n] w fun e w' => e = .returned (.tuple #[.int .i64 0, .int .i64 1]) ∧ w = w' := by
  go_enter Tryd.func33, Tryd.ntmps33
  go_wp2
  refine wp_scope_fwd 0 rfl ?_
  go_wp2_with (go_at_call 37; refine (exists_void _ _ h).mono ?_; rintro e w' ⟨rfl, rfl⟩)
  go_step3
  refine ⟨rfl, ?_⟩
  go_wp2
  (try rw [Exit.noGoto_ret])
  go_ret2
  exact ⟨rfl, rfl⟩

set_option maxHeartbeats 400000 in
theorem Len_are {F : Nat → Prop} {b : Nat} {s : St} {w : World} (h : Are F w b s) : Calls Tryd.prog 30 #[.pointer (some ⟨b, 0, none⟩)] w fun e w' => e = .returned (.int .i64 s.cs.length) ∧ w = w' := by
  have he := exists_are h
  obtain ⟨vl, vc, h⟩ := h
  obtain ⟨A, c, rfl, _, _⟩ := h.cells.form
  have h2 := h.blk.cell 2
  simp at h2
  go_enter Tryd.func30, Tryd.ntmps30
  go_wp2_with (go_at_call 37; refine he.mono ?_; rintro e w' ⟨rfl, rfl⟩)
  go_ret
  exact ⟨rfl, rfl⟩
set_option maxHeartbeats 400000 in
theorem Most_are {F : Nat → Prop} {b : Nat} {s : St} {w : World} (h : Are F w b s) : Calls Tryd.prog 53 #[.pointer (some ⟨b, 0, none⟩)] w fun e w' => e = .returned (.int .i64 s.most) ∧ w = w' := by
  have he := exists_are h
  have h2 := h.most_cell
  go_enter Tryd.func53, Tryd.ntmps53
  go_wp2_with (go_at_call 37; refine he.mono ?_; rintro e w' ⟨rfl, rfl⟩)
  go_ret
  exact ⟨rfl, rfl⟩
set_option maxHeartbeats 400000 in
theorem Count_are {F : Nat → Prop} {b : Nat} {s : St} {w : World} (h : Are F w b s) : Calls Tryd.prog 16 #[.pointer (some ⟨b, 0, none⟩)] w fun e w' => e = .returned (.int .u64 s.hist.length) ∧ w = w' := by
  have he := exists_are h
  have h2 := h.count_cell
  go_enter Tryd.func16, Tryd.ntmps16
  go_wp2_with (go_at_call 37; refine he.mono ?_; rintro e w' ⟨rfl, rfl⟩)
  go_ret
  exact ⟨rfl, rfl⟩


set_option maxRecDepth 100000 in
set_option maxHeartbeats 1600000 in
theorem perform40_void (op j : Int) (f : Value) (w : World) (v : Value) (h : Void w v) :
    Calls Tryd.prog 49 #[v, .int .i64 op, .int .i64 j, f] w fun e w' => e = .returned (.tuple #[.int .u64 0, .int .i64 1]) ∧ Below w.heap.size w w' := by
  have h1 : Void _ v := (h.alloc (.cells #[.int .i64 0, .int .i64 0, .int .u64 0, .int .u64 0, .bool false] 98))
  go_enter Tryd.func49, Tryd.ntmps49
  go_wp2
  refine wp_scope_fwd 0 rfl ?_
  go_wp2_with (go_at_call 37; refine (exists_void _ _ h1).mono ?_; rintro e w' ⟨rfl, rfl⟩)
  go_step3
  refine ⟨rfl, ?_⟩
  go_wp2
  (try rw [Exit.noGoto_ret])
  go_ret2
  exact ⟨rfl, ((Below.refl w.heap.size w).alloc (Nat.le_refl _) (.cells #[.int .i64 0, .int .i64 0, .int .u64 0, .int .u64 0, .bool false] 98))⟩

set_option maxRecDepth 100000 in
set_option maxHeartbeats 1600000 in
theorem perform40_range (op j : Int) (f : Value) (w : World) {F : Nat → Prop} {b : Nat} {s : St} (h : Are F w b s) (hj : j < 0 ∨ (s.cs.length : Int) ≤ j) :
    Calls Tryd.prog 49 #[.pointer (some ⟨b, 0, none⟩), .int .i64 op, .int .i64 j, f] w fun e w' => e = .returned (.tuple #[.int .u64 0, .int .i64 4]) ∧ Below w.heap.size w w' := by
  have h0 : Are F _ b s := (h.alloc (.cells #[.int .i64 0, .int .i64 0, .int .u64 0, .int .u64 0, .bool false] 98))
  have h1 := exists_are h0
  obtain ⟨vl, vc, h0⟩ := h0
  have hlen := h0.len
  have hmo := h0.most
  have hn2 : (s.cs.length : Int) ≤ 65536 := by omega
  obtain ⟨A, c, hvc, _, _⟩ := h0.cells.form
  subst hvc
  have h2 := h0.blk.cell 2
  simp at h2
  go_enter Tryd.func49, Tryd.ntmps49
  go_wp2
  refine wp_scope_fwd 0 rfl ?_
  go_wp2_with (first
    | (go_at_call 37; refine h1.mono ?_; rintro e w' ⟨rfl, rfl⟩)
    | (go_at_call 20; refine (inside_no _ _ _ _ (by omega)).mono ?_; rintro e w2 ⟨rfl, hB⟩))
  go_step3
  refine ⟨rfl, ?_⟩
  go_wp2
  (try rw [Exit.noGoto_ret])
  go_ret2
  exact ⟨rfl, (((Below.refl w.heap.size w).alloc (Nat.le_refl _) (.cells #[.int .i64 0, .int .i64 0, .int .u64 0, .int .u64 0, .bool false] 98)).trans (hB.mono (by simp <;> omega)))⟩

set_option maxRecDepth 100000 in
set_option maxHeartbeats 1600000 in
theorem perform33_void (op j : Int) (f : Value) (w : World) (v : Value) (h : Void w v) :
    Calls Tryd.prog 45 #[v, .int .i64 op, .int .i64 j, f] w fun e w' => e = .returned (.tuple #[.agg #[], .int .i64 1]) ∧ Below w.heap.size w w' := by
  have h1 : Void _ v := ((h.alloc (.cells #[] 101)).alloc (.cells #[.int .i64 0, .int .i64 0, .int .u64 0, .int .u64 0, .bool false] 98))
  go_enter Tryd.func45, Tryd.ntmps45
  go_wp2
  refine wp_scope_fwd 0 rfl ?_
  go_wp2_with (go_at_call 37; refine (exists_void _ _ h1).mono ?_; rintro e w' ⟨rfl, rfl⟩)
  go_step3
  refine ⟨rfl, ?_⟩
  go_wp2
  (try rw [Exit.noGoto_ret])
  exact bodyPost_ret (v := .tuple #[.agg #[], .int .i64 1]) (by simp [results, Tryd.results45, go_sem]) rfl ⟨rfl, (((Below.refl w.heap.size w).alloc (Nat.le_refl _) (.cells #[] 101)).alloc (by simp) (.cells #[.int .i64 0, .int .i64 0, .int .u64 0, .int .u64 0, .bool false] 98))⟩

set_option maxRecDepth 100000 in
set_option maxHeartbeats 1600000 in
theorem perform33_range (op j : Int) (f : Value) (w : World) {F : Nat → Prop} {b : Nat} {s : St} (h : Are F w b s) (hj : j < 0 ∨ (s.cs.length : Int) ≤ j) :
    Calls Tryd.prog 45 #[.pointer (some ⟨b, 0, none⟩), .int .i64 op, .int .i64 j, f] w fun e w' => e = .returned (.tuple #[.agg #[], .int .i64 4]) ∧ Below w.heap.size w w' := by
  have h0 : Are F _ b s := ((h.alloc (.cells #[] 101)).alloc (.cells #[.int .i64 0, .int .i64 0, .int .u64 0, .int .u64 0, .bool false] 98))
  have h1 := exists_are h0
  obtain ⟨vl, vc, h0⟩ := h0
  have hlen := h0.len
  have hmo := h0.most
  have hn2 : (s.cs.length : Int) ≤ 65536 := by omega
  obtain ⟨A, c, hvc, _, _⟩ := h0.cells.form
  subst hvc
  have h2 := h0.blk.cell 2
  simp at h2
  go_enter Tryd.func45, Tryd.ntmps45
  go_wp2
  refine wp_scope_fwd 0 rfl ?_
  go_wp2_with (first
    | (go_at_call 37; refine h1.mono ?_; rintro e w' ⟨rfl, rfl⟩)
    | (go_at_call 20; refine (inside_no _ _ _ _ (by omega)).mono ?_; rintro e w2 ⟨rfl, hB⟩))
  go_step3
  refine ⟨rfl, ?_⟩
  go_wp2
  (try rw [Exit.noGoto_ret])
  exact bodyPost_ret (v := .tuple #[.agg #[], .int .i64 4]) (by simp [results, Tryd.results45, go_sem]) rfl ⟨rfl, ((((Below.refl w.heap.size w).alloc (Nat.le_refl _) (.cells #[] 101)).alloc (by simp) (.cells #[.int .i64 0, .int .i64 0, .int .u64 0, .int .u64 0, .bool false] 98)).trans (hB.mono (by simp <;> omega)))⟩

set_option maxRecDepth 100000 in
set_option maxHeartbeats 1600000 in
theorem perform42_void (op j : Int) (f : Value) (w : World) (v : Value) (h : Void w v) :
    Calls Tryd.prog 55 #[v, .int .i64 op, .int .i64 j, f] w fun e w' => e = .returned (.tuple #[.agg #[.int .u64 0, .bool false], .int .i64 1]) ∧ Below w.heap.size w w' := by
  have h1 : Void _ v := ((h.alloc (.cells #[.int .u64 0, .bool false] 117)).alloc (.cells #[.int .i64 0, .int .i64 0, .int .u64 0, .int .u64 0, .bool false] 98))
  go_enter Tryd.func55, Tryd.ntmps55
  go_wp2
  refine wp_scope_fwd 0 rfl ?_
  go_wp2_with (go_at_call 37; refine (exists_void _ _ h1).mono ?_; rintro e w' ⟨rfl, rfl⟩)
  go_step3
  refine ⟨rfl, ?_⟩
  go_wp2
  (try rw [Exit.noGoto_ret])
  exact bodyPost_ret (v := .tuple #[.agg #[.int .u64 0, .bool false], .int .i64 1]) (by simp [results, Tryd.results55, go_sem]) rfl ⟨rfl, (((Below.refl w.heap.size w).alloc (Nat.le_refl _) (.cells #[.int .u64 0, .bool false] 117)).alloc (by simp) (.cells #[.int .i64 0, .int .i64 0, .int .u64 0, .int .u64 0, .bool false] 98))⟩

set_option maxRecDepth 100000 in
set_option maxHeartbeats 1600000 in
theorem perform42_range (op j : Int) (f : Value) (w : World) {F : Nat → Prop} {b : Nat} {s : St} (h : Are F w b s) (hj : j < 0 ∨ (s.cs.length : Int) ≤ j) :
    Calls Tryd.prog 55 #[.pointer (some ⟨b, 0, none⟩), .int .i64 op, .int .i64 j, f] w fun e w' => e = .returned (.tuple #[.agg #[.int .u64 0, .bool false], .int .i64 4]) ∧ Below w.heap.size w w' := by
  have h0 : Are F _ b s := ((h.alloc (.cells #[.int .u64 0, .bool false] 117)).alloc (.cells #[.int .i64 0, .int .i64 0, .int .u64 0, .int .u64 0, .bool false] 98))
  have h1 := exists_are h0
  obtain ⟨vl, vc, h0⟩ := h0
  have hlen := h0.len
  have hmo := h0.most
  have hn2 : (s.cs.length : Int) ≤ 65536 := by omega
  obtain ⟨A, c, hvc, _, _⟩ := h0.cells.form
  subst hvc
  have h2 := h0.blk.cell 2
  simp at h2
  go_enter Tryd.func55, Tryd.ntmps55
  go_wp2
  refine wp_scope_fwd 0 rfl ?_
  go_wp2_with (first
    | (go_at_call 37; refine h1.mono ?_; rintro e w' ⟨rfl, rfl⟩)
    | (go_at_call 20; refine (inside_no _ _ _ _ (by omega)).mono ?_; rintro e w2 ⟨rfl, hB⟩))
  have hR : Blk w2 w.heap.size 117 #[.int .u64 0, .bool false] := ((Blk.new w 117 #[.int .u64 0, .bool false]).alloc _).keep (hB.block _ (by simp; omega))
  have y0 := hR.cell 0
  have y1 := hR.cell 1
  have u0 := hR.frozen 0
  have u1 := hR.frozen 1
  simp at y0 y1
  go_step3
  refine ⟨rfl, ?_⟩
  go_wp2
  (try rw [Exit.noGoto_ret])
  exact bodyPost_ret (v := .tuple #[.agg #[.int .u64 0, .bool false], .int .i64 4]) (by simp [results, Tryd.results55, go_sem, y0, y1]) rfl ⟨rfl, ((((((Below.refl w.heap.size w).alloc (Nat.le_refl _) (.cells #[.int .u64 0, .bool false] 117)).alloc (by simp) (.cells #[.int .i64 0, .int .i64 0, .int .u64 0, .int .u64 0, .bool false] 98)).trans (hB.mono (by simp <;> omega))).setCell (p := ⟨w.heap.size, 0, none⟩) (Nat.le_refl _) _).setCell (p := ⟨w.heap.size, 1, none⟩) (Nat.le_refl _) _)⟩
end Go.Proofs.YthiaaapcbiameaaDoor
