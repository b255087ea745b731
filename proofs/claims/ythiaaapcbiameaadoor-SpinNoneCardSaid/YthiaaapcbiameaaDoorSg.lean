/- SpinNone's walk. -/
import Derived.Test.YthiaaapcbiameaaDoorSf
namespace Go.Proofs.YthiaaapcbiameaaDoor
open Go.RowKit Go.Shelf
attribute [local go_sem] Oper.semAt_some

set_option maxRecDepth 100000 in
set_option maxHeartbeats 800000 in
theorem missing_void (v sl : Value) (w : World) (h : Void w v) : Calls Tryd.prog 39 #[.agg #[v], sl] w fun e w' => e = .returned (.int .i64 1) ∧ Below w.heap.size w w' := by
  have hv := h.alloc (.cells #[v] 83)
  rcases h with rfl | ⟨b0, rfl, _, _⟩
  all_goals
    go_enter Tryd.func39, Tryd.ntmps39
    go_wp2_with (go_at_call 53; refine (Most_void _ _ hv).mono ?_; rintro e w1 ⟨rfl, rfl⟩)
    go_ret
    exact ⟨rfl, (Below.refl _ _).alloc (Nat.le_refl _) _⟩

set_option maxRecDepth 100000 in
set_option maxHeartbeats 800000 in
theorem states_void (v sl : Value) (w : World) (h : Void w v) : Calls Tryd.prog 19 #[v, sl] w fun e w' => e = .returned (.tuple #[.slice none 0 0, .int .i64 1]) ∧ Below w.heap.size w w' := by
  have hm : ∀ W, Below w.heap.size w W → Calls Tryd.prog 39 #[.agg #[v], sl] W fun e w' => e = .returned (.int .i64 1) ∧ Below w.heap.size w w' := fun W hW =>
    (missing_void v sl W (h.below hW)).mono (fun _ _ ⟨he, hb⟩ => ⟨he, hW.trans (hb.mono hW.size)⟩)
  have hB : Below w.heap.size w (w.alloc (.cells #[v] 83)) := (Below.refl _ _).alloc (Nat.le_refl _) _
  have H1 := hm _ hB
  clear hm hB
  rcases h with rfl | ⟨b0, rfl, _, _⟩
  all_goals
    go_enter Tryd.func19, Tryd.ntmps19
    go_wp2
    refine wp_scope_fwd 0 rfl ?_
    go_wp2_with (go_at_call 39; refine H1.mono ?_; rintro e w1 ⟨rfl, hB1⟩)
    go_step3
    refine ⟨rfl, ?_⟩
    go_wp2
    (try rw [Exit.noGoto_ret])
    go_ret2
    exact ⟨rfl, hB1⟩

/-- Since w0 only blocks from B on were written; the result's cell lies at B; there is no arena. -/
structure Nn (B : Nat) (v : Value) (w0 w : World) : Prop where
  below : Below B w0 w
  rb : Blk w B 4 #[.bool false]
  v : Void w v
  num : Num w
theorem Nn.next {B : Nat} {v : Value} {w0 w w' : World} (h : Nn B v w0 w) (hB : Below w.heap.size w w') : Nn B v w0 w' :=
  ⟨h.below.trans (hB.mono (Nat.le_of_lt h.rb.lt)), h.rb.keep (hB.block _ h.rb.lt), h.v.below hB, h.num.below hB⟩

def NoneRes (w0 : World) (B : Nat) (e : Ending) (w' : World) : Prop := e = .returned (.bool true) ∧ Below B w0 w'

set_option maxRecDepth 100000 in
set_option maxHeartbeats 3200000 in
theorem none_nil (at_ most : Int) (w : World) (hn : Num w) : Calls Tryd.prog 5 #[.int .i64 at_, .int .i64 most, .bool false] w (NoneRes w w.heap.size) := by
  have a0 : Nn w.heap.size (.pointer none) w (w.alloc (.cells #[.bool false] 4)) := ⟨(Below.refl _ _).alloc (Nat.le_refl _) _, Blk.new _ _ _, .inl rfl, hn.below ((Below.refl _ _).alloc (Nat.le_refl _) _)⟩
  refine calls_of_wp_marks 5 Tryd.func5 rfl ?_
  simp only [Tryd.ntmps5, List.size_toArray, List.length_cons, List.length_nil, Nat.reduceAdd, Nat.reduceSub, Array.replicate_succ, Array.replicate_zero, List.push_toArray, List.append_toArray, List.nil_append, List.cons_append]
  go_wp2_with fail
  refine (spinNew_void _ a0.v).mono ?_; rintro e w' ⟨rfl, rfl⟩
  go_wp2_with fail
  refine (spinTry_void _ _ a0.num a0.v).mono ?_; rintro e w1 ⟨rfl, hB1⟩
  have a1 := a0.next hB1
  go_wp2_with fail
  refine (spinHeld_void _ _ a1.v).mono ?_; rintro e w2 ⟨rfl, hB2⟩
  have a2 := (a1.next hB2).next ((Below.refl _ _).alloc (Nat.le_refl _) (.cells #[.int .i64 at_, .int .i64 0] 3))
  clear a0 a1 hB1 hB2
  go_wp2_with fail
  refine (states_void _ _ _ a2.v).mono ?_; rintro e w3 ⟨rfl, hB3⟩
  have a3 := a2.next hB3
  clear a2 hB3
  go_wp2_with fail
  refine (Tries_any _ _ _ _).mono ?_; rintro e w' ⟨rfl, rfl⟩
  have hc := capTr_made (.pointer none) at_ most w3 a3.num
  have a4 := a3.next ((((Below.refl w3.heap.size w3).alloc (Nat.le_refl _) (.cells #[.pointer none] 24)).alloc (by simp) (.cells #[.int .i64 at_] 3)).alloc (by simp; omega) (.cells #[.int .i64 most] 3))
  have hnf := eql_nilSeq
  go_wp2_with fail
  clear hnf a3
  revert hc a4
  generalize ((w3.alloc (.cells #[.pointer none] 24)).alloc (.cells #[.int .i64 at_] 3)).alloc (.cells #[.int .i64 most] 3) = w4
  intro hc a4
  have hp : Pair nores nores (capTrVoid most at_ (.pointer none) w3.heap.size (w3.heap.size + 1) (w3.heap.size + 1 + 1)) w4 () () w4 :=
    Pair.start trivial trivial ⟨hc, a4.v⟩ (fun _ h => h.elim) (fun _ _ h => h.elim) (fun _ _ h => h.elim)
  refine wp_rangeQ _ _ _ 4 rfl (enters_of Tryd.func35 (by kernel_rfl) rfl) (tries1_void none most at_ _ _ _) (fun _ => rfl) (fun _ _ => True) (fun _ _ _ => False) () hp trivial (fun _ _ _ _ _ _ _ _ hn => by cases hn) ?done (fun _ _ _ _ _ _ _ _ h => h.elim)
  case done =>
    rintro D pre ⟨⟩ ⟨⟩ X hD hpX _ hn hdef hput
    have hB5 := (hpX.toBelow (B := w4.heap.size) (fun _ h => h.elim) (fun _ h => h.elim) (Nat.le_refl _)).1
    have a5 := a4.next hB5
    have hDlt := (Array.getElem?_eq_some_iff.1 hdef).1
    have hRD : w.heap.size < D := Nat.lt_of_lt_of_le a4.rb.lt hD
    clear a4 hc hp hpX hput hn hB5
    have H6 := spinFree_void at_ _ a5.num a5.v
    go_wp2_with (go_at_call 12; refine (num_any _ _).mono ?_; rintro e w' ⟨rfl, rfl⟩)
    refine H6.mono ?_; rintro e w6 ⟨rfl, hB6⟩
    have a6 := a5.next hB6
    have d6 := (hB6.block D hDlt).trans hdef
    go_wp2_with (go_at_call 12; refine (num_any _ _).mono ?_; rintro e w' ⟨rfl, rfl⟩)
    refine (works_any _ a6.num).mono ?_; rintro e w7 ⟨rfl, hB7⟩
    have a7 := a6.next hB7
    have d7 := (hB7.block D (by have := hB6.size; omega)).trans d6
    clear a5 a6 H6 hB6 hB7 d6 hdef hDlt
    have z0 := a7.rb.cell 0
    have z1 := a7.rb.frozen 0
    simp at z0
    go_wp2_with fail
    have r12 : Blk (w7.setCell ⟨w.heap.size, 0, none⟩ (.bool true)) w.heap.size 4 #[.bool true] := a7.rb.set 0 (.bool true)
    have e1 := (Below.heap_setCell w7 ⟨w.heap.size, 0, none⟩ (.bool true) D (by simp only; omega)).trans d7
    have b12 := a7.below.setCell (p := ⟨w.heap.size, 0, none⟩) (Nat.le_refl _) (.bool true)
    revert r12 e1 b12
    generalize w7.setCell ⟨w.heap.size, 0, none⟩ (.bool true) = w8
    intro r12 e1 b12
    have r14 := blk_put (o' := .deferred none) r12 e1 rfl
    have b15 := below_put (o' := .deferred none) b12 (l := D) (by omega)
    have c14 := r14.cell 0
    simp at c14
    refine ⟨by simp, .inl ⟨_, _, rfl, run_takeDeferred e1, ?_⟩⟩
    exact ⟨_, (by simp [results, Tryd.results5, go_sem, c14]), rfl, b15⟩

set_option maxRecDepth 100000 in
set_option maxHeartbeats 3200000 in
theorem none_zero (at_ most : Int) (w : World) (hn : Num w) : Calls Tryd.prog 5 #[.int .i64 at_, .int .i64 most, .bool true] w (NoneRes w w.heap.size) := by
  have a0 : Nn w.heap.size (.pointer (some ⟨w.heap.size + 1, 0, none⟩)) w ((w.alloc (.cells #[.bool false] 4)).alloc (.cells #[.int .u64 0, .slice none 0 0, .slice none 0 0, .int .i64 0] 55)) := by
    have hB := ((Below.refl w.heap.size w).alloc (Nat.le_refl _) (.cells #[.bool false] 4)).alloc (by simp) (.cells #[.int .u64 0, .slice none 0 0, .slice none 0 0, .int .i64 0] 55)
    have hz := Blk.new (w.alloc (.cells #[.bool false] 4)) 55 #[.int .u64 0, .slice none 0 0, .slice none 0 0, .int .i64 0]
    rw [World.size_alloc] at hz
    exact ⟨hB, (Blk.new _ _ _).alloc _, .inr ⟨_, rfl, hz.lt, by simp⟩, hn.below hB⟩
  refine calls_of_wp_marks 5 Tryd.func5 rfl ?_
  simp only [Tryd.ntmps5, List.size_toArray, List.length_cons, List.length_nil, Nat.reduceAdd, Nat.reduceSub, Array.replicate_succ, Array.replicate_zero, List.push_toArray, List.append_toArray, List.nil_append, List.cons_append]
  go_wp2_with fail
  refine (spinNew_void _ a0.v).mono ?_; rintro e w' ⟨rfl, rfl⟩
  go_wp2_with fail
  refine (spinTry_void _ _ a0.num a0.v).mono ?_; rintro e w1 ⟨rfl, hB1⟩
  have a1 := a0.next hB1
  go_wp2_with fail
  refine (spinHeld_void _ _ a1.v).mono ?_; rintro e w2 ⟨rfl, hB2⟩
  have a2 := (a1.next hB2).next ((Below.refl _ _).alloc (Nat.le_refl _) (.cells #[.int .i64 at_, .int .i64 0] 3))
  clear a0 a1 hB1 hB2
  go_wp2_with fail
  refine (states_void _ _ _ a2.v).mono ?_; rintro e w3 ⟨rfl, hB3⟩
  have a3 := a2.next hB3
  clear a2 hB3
  go_wp2_with fail
  refine (Tries_any _ _ _ _).mono ?_; rintro e w' ⟨rfl, rfl⟩
  have hc := capTr_made (.pointer (some ⟨w.heap.size + 1, 0, none⟩)) at_ most w3 a3.num
  have a4 := a3.next ((((Below.refl w3.heap.size w3).alloc (Nat.le_refl _) (.cells #[.pointer (some ⟨w.heap.size + 1, 0, none⟩)] 24)).alloc (by simp) (.cells #[.int .i64 at_] 3)).alloc (by simp; omega) (.cells #[.int .i64 most] 3))
  have hnf := eql_nilSeq
  go_wp2_with fail
  clear hnf a3
  revert hc a4
  generalize ((w3.alloc (.cells #[.pointer (some ⟨w.heap.size + 1, 0, none⟩)] 24)).alloc (.cells #[.int .i64 at_] 3)).alloc (.cells #[.int .i64 most] 3) = w4
  intro hc a4
  have hp : Pair nores nores (capTrVoid most at_ (.pointer (some ⟨w.heap.size + 1, 0, none⟩)) w3.heap.size (w3.heap.size + 1) (w3.heap.size + 1 + 1)) w4 () () w4 :=
    Pair.start trivial trivial ⟨hc, a4.v⟩ (fun _ h => h.elim) (fun _ _ h => h.elim) (fun _ _ h => h.elim)
  refine wp_rangeQ _ _ _ 4 rfl (enters_of Tryd.func35 (by kernel_rfl) rfl) (tries1_void (some ⟨w.heap.size + 1, 0, none⟩) most at_ _ _ _) (fun _ => rfl) (fun _ _ => True) (fun _ _ _ => False) () hp trivial (fun _ _ _ _ _ _ _ _ hn => by cases hn) ?done (fun _ _ _ _ _ _ _ _ h => h.elim)
  case done =>
    rintro D pre ⟨⟩ ⟨⟩ X hD hpX _ hn hdef hput
    have hB5 := (hpX.toBelow (B := w4.heap.size) (fun _ h => h.elim) (fun _ h => h.elim) (Nat.le_refl _)).1
    have a5 := a4.next hB5
    have hDlt := (Array.getElem?_eq_some_iff.1 hdef).1
    have hRD : w.heap.size < D := Nat.lt_of_lt_of_le a4.rb.lt hD
    clear a4 hc hp hpX hput hn hB5
    have H6 := spinFree_void at_ _ a5.num a5.v
    go_wp2_with (go_at_call 12; refine (num_any _ _).mono ?_; rintro e w' ⟨rfl, rfl⟩)
    refine H6.mono ?_; rintro e w6 ⟨rfl, hB6⟩
    have a6 := a5.next hB6
    have d6 := (hB6.block D hDlt).trans hdef
    go_wp2_with (go_at_call 12; refine (num_any _ _).mono ?_; rintro e w' ⟨rfl, rfl⟩)
    refine (works_any _ a6.num).mono ?_; rintro e w7 ⟨rfl, hB7⟩
    have a7 := a6.next hB7
    have d7 := (hB7.block D (by have := hB6.size; omega)).trans d6
    clear a5 a6 H6 hB6 hB7 d6 hdef hDlt
    have z0 := a7.rb.cell 0
    have z1 := a7.rb.frozen 0
    simp at z0
    go_wp2_with fail
    have r12 : Blk (w7.setCell ⟨w.heap.size, 0, none⟩ (.bool true)) w.heap.size 4 #[.bool true] := a7.rb.set 0 (.bool true)
    have e1 := (Below.heap_setCell w7 ⟨w.heap.size, 0, none⟩ (.bool true) D (by simp only; omega)).trans d7
    have b12 := a7.below.setCell (p := ⟨w.heap.size, 0, none⟩) (Nat.le_refl _) (.bool true)
    revert r12 e1 b12
    generalize w7.setCell ⟨w.heap.size, 0, none⟩ (.bool true) = w8
    intro r12 e1 b12
    have r14 := blk_put (o' := .deferred none) r12 e1 rfl
    have b15 := below_put (o' := .deferred none) b12 (l := D) (by omega)
    have c14 := r14.cell 0
    simp at c14
    refine ⟨by simp, .inl ⟨_, _, rfl, run_takeDeferred e1, ?_⟩⟩
    exact ⟨_, (by simp [results, Tryd.results5, go_sem, c14]), rfl, b15⟩

theorem noneWalk (at_ most : Int) (z : Bool) (w : World) (hn : Num w) : Calls Tryd.prog 5 #[.int .i64 at_, .int .i64 most, .bool z] w (NoneRes w w.heap.size) := by
  cases z
  · exact none_nil at_ most w hn
  · exact none_zero at_ most w hn
end Go.Proofs.YthiaaapcbiameaaDoor
