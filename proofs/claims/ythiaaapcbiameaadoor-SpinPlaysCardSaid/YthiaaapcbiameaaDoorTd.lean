/- SpinPlays: the program's States of two places. -/
import Derived.Test.YthiaaapcbiameaaDoorTe
namespace Go.Proofs.YthiaaapcbiameaaDoor
open Go.RowKit Go.Shelf
attribute [local go_sem] Oper.semAt_some
set_option maxRecDepth 100000 in
set_option maxHeartbeats 3200000 in
theorem spinStates_in {b : Nat} {s : St} (j0 j1 : Int) (p : Nat) (w : World) (h : Lk b s w) (hp : Blk w p 3 #[.int .i64 j0, .int .i64 j1]) (hf : ¬ footA b w p) (hh : s.hist.length < 1000000) (h0 : inSt s j0 = true) (h1 : inSt s j1 = true) :
    Calls Tryd.prog 19 #[.pointer (some ⟨b, 0, none⟩), .slice (some ⟨p, 0, none⟩) 2 2] w fun e w' => ∃ u, e = .returned (.tuple #[u, .int .i64 0]) ∧ Bools w' u (statesSt s j0 j1).2.1 ∧ (arena b).Steps (statesSt s j0 j1).1 w w' := by
  have hst : statesSt s j0 j1 = ((doSt (doSt s 1 j0 0 0).1 1 j1 0 0).1, [(doSt s 1 j0 0 0).2.1.old != 0, (doSt (doSt s 1 j0 0 0).1 1 j1 0 0).2.1.old != 0], 0) := by unfold statesSt; rw [if_pos ⟨h0, h1⟩]
  have B1 : Below w.heap.size w (w.alloc (.cells #[.pointer (some ⟨b, 0, none⟩)] 83)) := (Below.refl _ _).alloc (Nat.le_refl _) _
  have hL := h.below B1
  have hpA := hp.keep (B1.block _ hp.lt)
  have hm := missing_ok j0 j1 p _ hL.are hpA
  rw [hst] at hm
  simp only at hm
  go_enter Tryd.func19, Tryd.ntmps19
  go_wp2
  refine wp_scope_fwd 0 rfl ?_
  go_wp2_with (first
    | (go_at_call 39
       refine hm.mono ?_
       rintro e w1 ⟨rfl, hB1⟩
       have lb1 := (Blk.new w 83 #[.pointer (some ⟨b, 0, none⟩)]).keep (hB1.block _ (by simp))
       have y0 := lb1.cell 0
       simp at y0
       have B01 := B1.trans (hB1.mono B1.size)
       have L1 := h.below B01
       have P1 := hp.keep (B01.block _ hp.lt)
       have S1 := Res.Steps.below (r := arena b) h.are B01
       have F1 := (S1.out hp.lt hf).2)
    | (go_at_call 40
       refine (each_in j0 j1 p _ L1 P1 F1 hh h0 h1).mono ?_
       rintro e w2 ⟨u, rfl, hu, hst2⟩))
  go_step3
  go_wp2
  refine jump_ret ?_
  go_ret2
  rw [hst]
  exact ⟨_, rfl, hu, S1.trans hst2⟩

set_option maxRecDepth 100000 in
set_option maxHeartbeats 3200000 in
theorem spinStates_out {b : Nat} {s : St} (j0 j1 : Int) (p : Nat) (w : World) (h : Lk b s w) (hp : Blk w p 3 #[.int .i64 j0, .int .i64 j1]) (hn : ¬ (inSt s j0 = true ∧ inSt s j1 = true)) :
    Calls Tryd.prog 19 #[.pointer (some ⟨b, 0, none⟩), .slice (some ⟨p, 0, none⟩) 2 2] w fun e w' => ∃ u, e = .returned (.tuple #[u, .int .i64 4]) ∧ Bools w' u (statesSt s j0 j1).2.1 ∧ (arena b).Steps (statesSt s j0 j1).1 w w' := by
  have hst : statesSt s j0 j1 = (s, [], 4) := by unfold statesSt; rw [if_neg hn]
  have B1 : Below w.heap.size w (w.alloc (.cells #[.pointer (some ⟨b, 0, none⟩)] 83)) := (Below.refl _ _).alloc (Nat.le_refl _) _
  have hL := h.below B1
  have hpA := hp.keep (B1.block _ hp.lt)
  have hm := missing_ok j0 j1 p _ hL.are hpA
  rw [hst] at hm
  simp only at hm
  go_enter Tryd.func19, Tryd.ntmps19
  go_wp2
  refine wp_scope_fwd 0 rfl ?_
  go_wp2_with (go_at_call 39; refine hm.mono ?_; rintro e w1 ⟨rfl, hB1⟩; have B01 := B1.trans (hB1.mono B1.size); have S1 := Res.Steps.below (r := arena b) h.are B01)
  go_step3
  refine ⟨rfl, ?_⟩
  go_wp2
  (try rw [Exit.noGoto_ret])
  go_ret2
  rw [hst]
  exact ⟨_, rfl, Bools.nil _, S1⟩
theorem spinStates_ok {b : Nat} {s : St} (j0 j1 : Int) (p : Nat) (w : World) (h : Lk b s w) (hp : Blk w p 3 #[.int .i64 j0, .int .i64 j1]) (hf : ¬ footA b w p) (hh : s.hist.length < 1000000) :
    Calls Tryd.prog 19 #[.pointer (some ⟨b, 0, none⟩), .slice (some ⟨p, 0, none⟩) 2 2] w fun e w' => ∃ u, e = .returned (.tuple #[u, .int .i64 (statesSt s j0 j1).2.2]) ∧ Bools w' u (statesSt s j0 j1).2.1 ∧ (arena b).Steps (statesSt s j0 j1).1 w w' := by
  have hst : (statesSt s j0 j1).2.2 = if inSt s j0 = true ∧ inSt s j1 = true then 0 else 4 := by unfold statesSt; split <;> rfl
  rw [hst]
  by_cases hc : inSt s j0 = true ∧ inSt s j1 = true
  · rw [if_pos hc]; exact spinStates_in j0 j1 p w h hp hf hh hc.1 hc.2
  · rw [if_neg hc]; exact spinStates_out j0 j1 p w h hp hc
end Go.Proofs.YthiaaapcbiameaaDoor
