/- spin's New, Try, Free, Held. -/
import Derived.Test.YthiaaapcbiameaaDoorSa
namespace Go.Proofs.YthiaaapcbiameaaDoor
open Go.RowKit
attribute [local go_sem] Oper.semAt_some


theorem num_any (a : Int) (w : World) : Calls Tryd.prog 12 #[.int .i64 a] w fun e w' => e = .returned (.int .i64 a) ∧ w = w' := by
  go_enter Tryd.func12, Tryd.ntmps12
  go_wp2
  go_ret
  exact ⟨rfl, rfl⟩

section
variable {b : Nat} {s s' : St} {w w' : World}
set_option maxRecDepth 100000 in
set_option maxHeartbeats 800000 in
theorem spinNew_ok (h : Lk b s w) : Calls Tryd.prog 13 #[.pointer (some ⟨b, 0, none⟩)] w fun e w' =>
    e = .returned (.tuple #[.int .i64 (allocSt s 1).2.1, .int .i64 (allocSt s 1).2.2]) ∧ (arena b).Steps (allocSt s 1).1 w w' := by
  have hfld : ∀ (W : World) (u : Value), (Instr.field 83 (.agg #[u]) 0).run Tryd.prog W = .ok u W := fun _ _ => by kernel_rfl
  go_enter Tryd.func13, Tryd.ntmps13
  go_wp2_with (go_at_call 33; refine (Alloc_st 1 h.are).mono ?_; rintro e w1 ⟨rfl, hst⟩)
  go_ret2
  exact ⟨rfl, hst⟩
set_option maxRecDepth 100000 in
set_option maxHeartbeats 800000 in
theorem spinNew_void (v : Value) (h : Void w v) : Calls Tryd.prog 13 #[v] w fun e w' =>
    e = .returned (.tuple #[.int .i64 0, .int .i64 1]) ∧ w = w' := by
  have hv := h
  rcases h with rfl | ⟨b0, rfl, _, _⟩
  all_goals
    have hfld : ∀ (W : World) (u : Value), (Instr.field 83 (.agg #[u]) 0).run Tryd.prog W = .ok u W := fun _ _ => by kernel_rfl
    go_enter Tryd.func13, Tryd.ntmps13
    go_wp2_with (go_at_call 33; refine (Alloc_void _ 1 _ hv).mono ?_; rintro e w1 ⟨rfl, rfl⟩)
    go_ret2
    exact ⟨rfl, rfl⟩
set_option maxRecDepth 100000 in
set_option maxHeartbeats 800000 in
theorem spinTry_ok (j : Int) (h : Lk b s w) (hh : s.hist.length < 1000000000) : Calls Tryd.prog 14 #[.pointer (some ⟨b, 0, none⟩), .int .i64 j] w fun e w' =>
    e = .returned (.tuple #[.bool (doSt s 3 j 0 1).2.1.did, .int .i64 (doSt s 3 j 0 1).2.2]) ∧ (arena b).Steps (doSt s 3 j 0 1).1 w w' := by
  go_enter Tryd.func14, Tryd.ntmps14
  go_wp2_with (go_at_call 34; refine (turn_try j h hh).mono ?_; rintro e w1 ⟨rfl, hst⟩)
  go_ret2
  exact ⟨rfl, hst⟩
set_option maxRecDepth 100000 in
set_option maxHeartbeats 800000 in
theorem spinTry_void (j : Int) (v : Value) (hn : Num w) (h : Void w v) : Calls Tryd.prog 14 #[v, .int .i64 j] w fun e w' =>
    e = .returned (.tuple #[.bool false, .int .i64 1]) ∧ Below w.heap.size w w' := by
  have hv := h
  rcases h with rfl | ⟨b0, rfl, _, _⟩
  all_goals
    go_enter Tryd.func14, Tryd.ntmps14
    go_wp2_with (go_at_call 34; refine (turn_try_void j _ hn hv).mono ?_; rintro e w1 ⟨rfl, hst⟩)
    go_ret2
    exact ⟨rfl, hst⟩
set_option maxRecDepth 100000 in
set_option maxHeartbeats 800000 in
theorem spinHeld_ok (j : Int) (h : Lk b s w) (hh : s.hist.length < 1000000000) : Calls Tryd.prog 18 #[.pointer (some ⟨b, 0, none⟩), .int .i64 j] w fun e w' =>
    e = .returned (.tuple #[.bool ((doSt s 1 j 0 0).2.1.old != 0), .int .i64 (doSt s 1 j 0 0).2.2]) ∧ (arena b).Steps (doSt s 1 j 0 0).1 w w' := by
  go_enter Tryd.func18, Tryd.ntmps18
  go_wp2_with (go_at_call 38; refine (isHeld_ok j h hh).mono ?_; rintro e w1 ⟨rfl, hst⟩)
  go_ret2
  exact ⟨rfl, hst⟩
set_option maxRecDepth 100000 in
set_option maxHeartbeats 800000 in
theorem spinHeld_void (j : Int) (v : Value) (h : Void w v) : Calls Tryd.prog 18 #[v, .int .i64 j] w fun e w' =>
    e = .returned (.tuple #[.bool false, .int .i64 1]) ∧ Below w.heap.size w w' := by
  have hv := h
  rcases h with rfl | ⟨b0, rfl, _, _⟩
  all_goals
    go_enter Tryd.func18, Tryd.ntmps18
    go_wp2_with (go_at_call 38; refine (isHeld_void j _ hv).mono ?_; rintro e w1 ⟨rfl, hst⟩)
    go_ret2
    exact ⟨rfl, hst⟩

/-- What Free tells. -/
def freeErr (s : St) (j : Int) : Int := if inSt s j = true then (if (s.at_ j.toNat == 1) = true then 0 else 30) else 4


set_option maxRecDepth 100000 in
set_option maxHeartbeats 800000 in
theorem spinFree_ok (j : Int) (h : Lk b s w) (hh : s.hist.length < 1000000000) : Calls Tryd.prog 17 #[.pointer (some ⟨b, 0, none⟩), .int .i64 j] w fun e w' =>
    e = .returned (.int .i64 (freeErr s j)) ∧ (arena b).Steps (doSt s 3 j 1 0).1 w w' := by
  have hT := turn_free j h hh
  unfold doSt at hT ⊢
  unfold freeErr
  by_cases hj : inSt s j = true
  · rw [if_pos hj] at hT ⊢
    rw [if_pos hj]
    have hd : (accOf s 3 j 1 0).did = (s.at_ j.toNat == 1) := rfl
    simp only [hd] at hT
    cases hc : (s.at_ j.toNat == 1)
    all_goals
      simp only [hc] at hT
      clear hd hc
      generalize s.step j.toNat (accOf s 3 j 1 0) = s2 at hT ⊢
      go_enter Tryd.func17, Tryd.ntmps17
      go_wp2
      refine wp_scope_fwd 0 rfl ?_
      go_wp2_with (go_at_call 34; refine hT.mono ?_; rintro e w1 ⟨rfl, hst⟩)
      go_step3
      go_wp2
      refine jump_ret ?_
      go_ret
      exact ⟨rfl, hst⟩
  · rw [if_neg hj] at hT ⊢
    rw [if_neg hj]
    simp only [zeroAcc] at hT
    go_enter Tryd.func17, Tryd.ntmps17
    go_wp2
    refine wp_scope_fwd 0 rfl ?_
    go_wp2_with (go_at_call 34; refine hT.mono ?_; rintro e w1 ⟨rfl, hst⟩)
    go_step3
    refine ⟨rfl, ?_⟩
    go_wp2
    (try rw [Exit.noGoto_ret])
    go_ret
    exact ⟨rfl, hst⟩

set_option maxRecDepth 100000 in
set_option maxHeartbeats 800000 in
theorem spinFree_void (j : Int) (v : Value) (hn : Num w) (h : Void w v) : Calls Tryd.prog 17 #[v, .int .i64 j] w fun e w' =>
    e = .returned (.int .i64 1) ∧ Below w.heap.size w w' := by
  have hv := h
  rcases h with rfl | ⟨b0, rfl, _, _⟩
  all_goals
    have hT := turn_free_void j _ hn hv
    go_enter Tryd.func17, Tryd.ntmps17
    go_wp2
    refine wp_scope_fwd 0 rfl ?_
    go_wp2_with (go_at_call 34; refine hT.mono ?_; rintro e w1 ⟨rfl, hst⟩)
    go_step3
    refine ⟨rfl, ?_⟩
    go_wp2
    (try rw [Exit.noGoto_ret])
    go_ret
    exact ⟨rfl, hst⟩
end
end Go.Proofs.YthiaaapcbiameaaDoor
