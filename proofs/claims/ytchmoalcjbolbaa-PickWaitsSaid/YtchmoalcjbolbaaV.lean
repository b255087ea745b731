/- The reference's Round. -/
import Derived.Test.YtchmoalcjbolbaaD
namespace Go.Proofs.Ytchmoalcjbolbaa
open Go.RowKit Go.Shelf
attribute [local go_sem] Oper.semAt_some

theorem ints_of_row {W : World} {v : Value} {xs : List Int} (h : Row W 3 1 v xs.length (xs.map (Value.int .i64))) (hw : ∀ x ∈ xs, W64 x) : Ints W v xs := by
  obtain ⟨A, c, rfl, h1, h2⟩ := h.form
  refine ⟨A, c, rfl, h1, h2, hw, fun hne => ?_⟩
  obtain ⟨g, cap, cur, hv, hg, _⟩ := h.addr (List.length_pos_iff.2 hne)
  simp only [Value.slice.injEq, true_and] at hv
  obtain ⟨rfl, rfl⟩ := hv
  refine ⟨g, 0, rfl, hg.lt, fun i x hx => ?_⟩
  have hi : i < xs.length := (List.getElem?_eq_some_iff.1 hx).1
  have := (h.cells rfl i (by omega)).1
  rw [List.getElem?_map, hx] at this
  rw [Nat.zero_add]
  exact this
theorem turns_of_row {W : World} {v : Value} {l : List Tn} {cs : List Value} (h : Row W 57 2 v l.length cs) (hx : ∀ (i : Nat) (x : Tn), l[i]? = some x → ∃ u, cs[i * 2]? = some u ∧ Ints W u x.runs ∧ cs[i * 2 + 1]? = some (.int .i64 x.took) ∧ W64 x.took) : Turns W v l := by
  obtain ⟨A, c, rfl, h1, h2⟩ := h.form
  refine ⟨A, c, rfl, h1, h2, fun hne => ?_⟩
  obtain ⟨g, cap, cur, hv, hg, _⟩ := h.addr (List.length_pos_iff.2 hne)
  simp only [Value.slice.injEq, true_and] at hv
  obtain ⟨rfl, rfl⟩ := hv
  refine ⟨g, 0, rfl, hg.lt, fun i x hi => ?_⟩
  have hlt : i < l.length := (List.getElem?_eq_some_iff.1 hi).1
  obtain ⟨u, q0, q1, q2, q3⟩ := hx i x hi
  refine ⟨u, ?_, q1, ?_, q3⟩
  · rw [Nat.zero_add]; exact ((h.cells rfl (i * 2) (by omega)).1).trans q0
  · rw [Nat.zero_add]; exact ((h.cells rfl (i * 2 + 1) (by omega)).1).trans q2

structure RR (w0 : World) (n k : Nat) (v : Value) (W : World) : Prop where
  row : ∃ cs, Row W 57 2 v k cs ∧ ∀ i, i < k → ∃ A c, cs[i * 2]? = some (.slice A n c) ∧ Row W 3 1 (.slice A n c) n ((upL n).map (Value.int .i64)) ∧ cs[i * 2 + 1]? = some (.int .i64 ((i : Int) % (n : Int)))
  own : ∀ j, v.ownBlock = some j → w0.heap.size ≤ j
  bl : Below w0.heap.size w0 W
theorem RR.below {w0 W W' : World} {n k : Nat} {v : Value} (h : RR w0 n k v W) (hb : Below W.heap.size W W') : RR w0 n k v W' := by
  obtain ⟨⟨cs, h1, h2⟩, h3, h4⟩ := h
  refine ⟨⟨cs, h1.keep (fun j hj => hb.block _ (h1.lt j hj)), fun i hi => ?_⟩, h3, h4.trans (hb.mono h4.size)⟩
  obtain ⟨A, c, q1, q2, q3⟩ := h2 i hi
  exact ⟨A, c, q1, q2.keep (fun j hj => hb.block _ (q2.lt j hj)), q3⟩
theorem RR.form {w0 W : World} {n k : Nat} {v : Value} (h : RR w0 n k v W) : ∃ A c, v = .slice A k c := by
  obtain ⟨⟨cs, h1, _⟩, _⟩ := h
  obtain ⟨A, c, e, _⟩ := h1.form
  exact ⟨A, c, e⟩
theorem RR.turns {w0 W : World} {n k : Nat} {v : Value} (h : RR w0 n k v W) (hn1 : 1 ≤ n) (hn : n ≤ 4096) : Turns W v (roundL n k) := by
  obtain ⟨⟨cs, h1, h2⟩, h3, h4⟩ := h
  have hl : (roundL n k).length = k := by simp [roundL]
  refine turns_of_row (cs := cs) (by rw [hl]; exact h1) (fun i x hx => ?_)
  have hi : i < k := by have := (List.getElem?_eq_some_iff.1 hx).1; rwa [hl] at this
  obtain ⟨A, c, q1, q2, q3⟩ := h2 i hi
  unfold roundL at hx
  rw [List.getElem?_map, List.getElem?_range hi] at hx
  simp at hx
  subst hx
  refine ⟨_, q1, ints_of_row (by rw [upL_length]; exact q2) (upL_wf hn), by simpa using q3, ?_⟩
  have h0 := Int.emod_nonneg (i : Int) (show (n : Int) ≠ 0 by omega)
  have h1 := Int.emod_lt_of_pos (i : Int) (show (0 : Int) < (n : Int) by omega)
  unfold W64
  simp only
  omega
/-- One turn is appended. -/
theorem RR.next {w0 w1 w2 : World} {n k : Nat} {v v' : Value} {A : Option Addr} {c : Nat} (h : RR w0 n k v w1) (hr : Row w1 3 1 (.slice A n c) n ((upL n).map (Value.int .i64))) (cs : List Value)
    (hcs : Row w1 57 2 v k cs ∧ ∀ i, i < k → ∃ A c, cs[i * 2]? = some (.slice A n c) ∧ Row w1 3 1 (.slice A n c) n ((upL n).map (Value.int .i64)) ∧ cs[i * 2 + 1]? = some (.int .i64 ((i : Int) % (n : Int))))
    {o : Obj} (hr' : Row w2 57 2 v' (k + 1) (cs ++ [.slice A n c, .int .i64 ((k : Int) % (n : Int))])) (hg : (w1.alloc o).grownBy w2 v.ownBlock) (ho : v'.ownBlock = v.ownBlock ∨ v'.ownBlock = some (w1.alloc o).heap.size) : RR w0 n (k + 1) v' w2 := by
  obtain ⟨h1, h2⟩ := hcs
  have keep : ∀ j, j < w1.heap.size → v.ownBlock ≠ some j → w2.heap[j]? = w1.heap[j]? := fun j hj hne =>
    (hg.block j (by simp; omega) (fun e => hne e.symm)).trans (Below.heap_alloc _ _ _ hj)
  have krow : ∀ {A c}, Row w1 3 1 (.slice A n c) n ((upL n).map (Value.int .i64)) → Row w2 3 1 (.slice A n c) n ((upL n).map (Value.int .i64)) := fun q =>
    q.keep fun j hj => keep j (q.lt j hj) (q.ne_row h1 (by decide) j hj)
  have hl : cs.length = k * 2 := h1.1
  refine ⟨⟨_, hr', fun i hi => ?_⟩, ?_, ?_⟩
  · by_cases e : i = k
    · subst e
      exact ⟨A, c, by rw [List.getElem?_append_right (by omega), hl]; simp, krow hr, by rw [List.getElem?_append_right (by omega), hl]; simp⟩
    · obtain ⟨A', c', q1, q2, q3⟩ := h2 i (by omega)
      exact ⟨A', c', by rw [List.getElem?_append_left (by omega)]; exact q1, krow q2, by rw [List.getElem?_append_left (by omega)]; exact q3⟩
  · intro j hj
    rcases ho with ho | ho
    · rw [ho] at hj; exact h.own j hj
    · rw [ho] at hj; injection hj with hj; have := h.bl.size; simp at hj; omega
  · refine ⟨hg.os.trans h.bl.os, hg.tape.trans h.bl.tape, hg.output.trans h.bl.output, Nat.le_trans h.bl.size (Nat.le_trans (by simp) hg.size), fun j hj => ?_⟩
    exact (keep j (by have := h.bl.size; omega) (fun e => by have := h.own j e; omega)).trans (h.bl.block j hj)

set_option maxRecDepth 100000 in
set_option maxHeartbeats 1600000 in
theorem refRound_bad (n turns : Int) (h : n < 1 ∨ turns < 0 ∨ 4096 < n ∨ 4096 < turns) (w : World) : Calls Try.prog 26 #[.int .i64 n, .int .i64 turns] w fun e w' =>
    e = .returned (.tuple #[.slice none 0 0, .int .i64 2]) ∧ w = w' := by
  by_cases h1 : n < 1
  · go_enter Try.func26, Try.ntmps26
    go_wp2_with fail
    go_ret2
    exact ⟨rfl, rfl⟩
  · by_cases h3 : 4096 < n
    · go_enter Try.func26, Try.ntmps26
      go_wp2_with fail
      go_ret2
      exact ⟨rfl, rfl⟩
    · by_cases h2 : turns < 0
      · go_enter Try.func26, Try.ntmps26
        go_wp2_with fail
        go_ret2
        exact ⟨rfl, rfl⟩
      · have h4 : 4096 < turns := by omega
        clear h
        go_enter Try.func26, Try.ntmps26
        go_wp2_with fail
        go_ret2
        exact ⟨rfl, rfl⟩

structure RU (w1 : World) (n t : Nat) (v : Value) (W : World) : Prop where
  row : Row W 3 1 v t (((upL n).take t).map (Value.int .i64))
  own : ∀ j, v.ownBlock = some j → w1.heap.size ≤ j
  bl : Below w1.heap.size w1 W
theorem upL_get {n t : Nat} (h : t < n) : (upL n)[t]? = some (t : Int) := by
  unfold upL
  rw [List.getElem?_map, List.getElem?_range h]
  rfl
theorem RU.next {w1 W w2 : World} {n t : Nat} {v v' : Value} {o : Obj} (h : RU w1 n t v W) (ht : t < n) (hr : Row w2 3 1 v' (t + 1) (((upL n).take t).map (Value.int .i64) ++ [.int .i64 (t : Int)])) (hg : (W.alloc o).grownBy w2 v.ownBlock)
    (ho : v'.ownBlock = v.ownBlock ∨ v'.ownBlock = some (W.alloc o).heap.size) : RU w1 n (t + 1) v' w2 := by
  refine ⟨?_, ?_, ?_⟩
  · rw [(parts_at (upL_get ht)).2, List.map_append]; exact hr
  · intro j hj
    rcases ho with ho | ho
    · rw [ho] at hj; exact h.own j hj
    · rw [ho] at hj; injection hj with hj; have := h.bl.size; simp at hj; omega
  · refine ⟨hg.os.trans h.bl.os, hg.tape.trans h.bl.tape, hg.output.trans h.bl.output, Nat.le_trans h.bl.size (Nat.le_trans (by simp) hg.size), fun j hj => ?_⟩
    exact ((hg.block j (by have := h.bl.size; simp; omega) (fun e => by have := h.own j e.symm; omega)).trans (Below.heap_alloc _ _ _ (by have := h.bl.size; omega))).trans (h.bl.block j hj)

set_option maxRecDepth 100000 in
set_option maxHeartbeats 3200000 in
theorem refRound_ok (n turns : Nat) (hn1 : 1 ≤ n) (hn : n ≤ 4096) (ht : turns ≤ 4096) (w : World) : Calls Try.prog 26 #[.int .i64 (n : Int), .int .i64 (turns : Int)] w fun e w' =>
    ∃ v, e = .returned (.tuple #[v, .int .i64 0]) ∧ Turns w' v (roundL n turns) ∧ Below w.heap.size w w' := by
  obtain ⟨i0, hi0, hz0, hz1, hz2⟩ := info_parts Try.info57
  obtain ⟨i3, hi3, hy0, hy1, hy2⟩ := info_parts Try.info3
  have hR0 : RR w n 0 (.slice none 0 0) w := ⟨⟨[], Row.nil w 57 2, fun i hi => absurd hi (by omega)⟩, by intro j hj; simp [Value.ownBlock] at hj, Below.refl _ w⟩
  have hnI : (n : Int) ≤ 4096 := by omega
  have htI : (turns : Int) ≤ 4096 := by omega
  have hn0 : ¬ (n : Int) = 0 := by omega
  have hn0' : ¬ n = 0 := by omega
  have hn1' : ¬ (n : Int) < 1 := by omega
  have ht0' : ¬ (turns : Int) < 0 := by omega
  have hn2' : ¬ (4096 : Int) < n := by omega
  have ht2' : ¬ (4096 : Int) < turns := by omega
  go_enter Try.func26, Try.ntmps26
  go_wp2_with fail
  go_loopw [6, 7] (fun v p wr => ∃ k : Nat, k ≤ turns ∧ p = .int .i64 (k : Int) ∧ RR w n k v wr) (fun _ p _ => turns - (intOf p).toNat)
  case atStart => exact ⟨0, Nat.zero_le _, rfl, hR0⟩
  case round =>
    obtain ⟨k, hk, rfl, hI⟩ := hrel
    have hk0 : (0 : Int) ≤ (k : Int) := by omega
    obtain ⟨A6, c6, rfl⟩ := hI.form
    by_cases hlt : k < turns
    · have hltI : (k : Int) < (turns : Int) := by omega
      obtain ⟨wk, hwk⟩ : ∃ wk, wk = wr := ⟨_, rfl⟩
      rw [← hwk] at hI
      have hU0 : RU wk n 0 (.slice none 0 0) wr := ⟨by simpa using Row.nil wr 3 1, by intro j hj; simp [Value.ownBlock] at hj, by rw [hwk]; exact Below.refl _ _⟩
      have Hi := Lib.hid hI
      clear hI hwk hR0
      go_wp2_with fail
      go_loopw [8, 9] (fun v p wq => ∃ t : Nat, t ≤ n ∧ p = .int .i64 (t : Int) ∧ RU wk n t v wq) (fun _ p _ => n - (intOf p).toNat)
      case atStart => exact ⟨0, Nat.zero_le _, rfl, hU0⟩
      case round =>
        obtain ⟨t, htn, rfl, hU⟩ := hrel
        have ht0 : (0 : Int) ≤ (t : Int) := by omega
        obtain ⟨A8, c8, rfl, hc1, hc2⟩ := hU.row.form
        clear hU0
        by_cases htl : t < n
        · have htlI : (t : Int) < (n : Int) := by omega
          have HU := Lib.hid hU
          clear hU
          go_wp2_with (at_builtin; refine wpList_append_row _ rfl (.tmp 34) (.tmp 36) 24 rfl 3 3 i3 (.int .i64 0) 1 8 Try.underlying24 hi3 hy0 hy1 hy2 rfl _ t _ rfl (HU.out.row.alloc _) (.slice (some ⟨wr.heap.size, 0, none⟩) 1 1) 1 [.int .i64 (t : Int)] rfl (Row.made_at wr _ rfl 3 1 1 _ _ rfl (by unfold maxLen; omega) rfl) (by intro x hx; simp at hx; subst hx; rfl) (by unfold maxLen; omega) (by omega) ?_; intro v3 w3 hr3 hg3 ho3; obtain ⟨A9, c9, rfl, _, _⟩ := hr3.form)
          exact ⟨⟨t + 1, by omega, by simp, HU.out.next htl hr3 hg3 ho3⟩, by simp [intOf]; omega⟩
        · have htlI : ¬ (t : Int) < (n : Int) := by omega
          obtain rfl : t = n := by omega
          have hrow := hU.row
          rw [List.take_of_length_le (by rw [upL_length]; exact Nat.le_refl _)] at hrow
          have hI := Hi.out.below hU.bl
          obtain ⟨cs, hcs⟩ := hI.row
          have HU := Lib.hid hrow
          have HI := Lib.hid hI
          have HC := Lib.hid hcs
          clear hU hrow hI hcs
          go_wp2_with (at_builtin; refine wpList_append_row _ rfl (.tmp 38) (.tmp 44) 33 rfl 57 57 i0 (.agg #[.slice none 0 0, .int .i64 0]) 2 32 Try.underlying33 hi0 hz0 hz1 hz2 rfl _ k _ rfl (HC.out.1.alloc _) (.slice (some ⟨wr.heap.size, 0, none⟩) 1 1) 1 [.slice A8 t c8, .int .i64 ((k : Int) % (t : Int))] rfl (Row.made_at wr _ rfl 57 2 1 _ _ rfl (by unfold maxLen; omega) rfl) (by intro x hx; simp at hx; rcases hx with rfl | rfl <;> rfl) (by unfold maxLen; omega) (by omega) ?_; intro v3 w3 hr3 hg3 ho3; obtain ⟨A9, c9, rfl, _, _⟩ := hr3.form)
          exact ⟨⟨k + 1, by omega, by simp, HI.out.next HU.out cs HC.out hr3 hg3 ho3⟩, by simp [intOf]; omega⟩
    · have hltI : ¬ (k : Int) < (turns : Int) := by omega
      obtain rfl : k = turns := by omega
      go_wp2_with fail
      go_ret2
      exact ⟨_, rfl, hI.turns hn1 hn, hI.bl⟩
end Go.Proofs.Ytchmoalcjbolbaa
