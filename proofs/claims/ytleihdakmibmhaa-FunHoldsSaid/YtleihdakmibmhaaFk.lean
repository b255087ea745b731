/- The document's own: which numbers and how many nodes an Op may have. -/
import Derived.Test.YtleihdakmibmhaaFb
namespace Go.Proofs.Ytleihdakmibmhaa
open Go.RowKit Go.Shelf
attribute [local go_sem] Oper.semAt_some

theorem rnames_ok (op : Int) (w : World) : Calls Try.prog 48 #[.int .i64 op] w fun e w' => e = .returned (.bool (namesOp op)) ∧ w = w' := by
  by_cases h13 : op = 13
  · subst h13
    go_enter Try.func48, Try.ntmps48
    go_wp2
    go_ret
    exact ⟨rfl, rfl⟩
  by_cases h14 : op = 14
  · subst h14
    go_enter Try.func48, Try.ntmps48
    go_wp2
    go_ret
    exact ⟨rfl, rfl⟩
  by_cases h21 : op = 21
  · subst h21
    go_enter Try.func48, Try.ntmps48
    go_wp2
    go_ret
    exact ⟨rfl, rfl⟩
  by_cases h22 : op = 22
  · subst h22
    go_enter Try.func48, Try.ntmps48
    go_wp2
    go_ret
    exact ⟨rfl, rfl⟩
  by_cases h23 : op = 23
  · subst h23
    go_enter Try.func48, Try.ntmps48
    go_wp2
    go_ret
    exact ⟨rfl, rfl⟩
  have e13 : (op == 13) = false := by simp [h13]
  have e14 : (op == 14) = false := by simp [h14]
  have hE : namesOp op = false := by unfold namesOp; simp [h13, h14, h21, h22, h23]
  by_cases ha : 21 ≤ op
  all_goals
    first
      | (have hb : ¬ op ≤ 23 := by omega)
      | skip
    rw [hE]
    clear hE h13 h14 h21 h22 h23
    go_enter Try.func48, Try.ntmps48
    go_wp2
    go_ret
    exact ⟨rfl, rfl⟩
set_option maxRecDepth 100000 in
set_option maxHeartbeats 6400000 in
theorem beneath_ok (op m : Int) (_hm : 0 ≤ m) (w : World) : Calls Try.prog 56 #[.int .i64 op, .int .i64 m] w fun e w' => e = .returned (.bool (lenOK op m)) ∧ w = w' := by
  by_cases h1 : op = 1
  · subst h1
    go_enter Try.func56, Try.ntmps56
    go_wp2
    go_ret
    exact ⟨ret_bool (by unfold lenOK; first | (simp; done) | (simp; rfl)), rfl⟩
  by_cases h2 : op = 2
  · subst h2
    go_enter Try.func56, Try.ntmps56
    go_wp2
    go_ret
    exact ⟨ret_bool (by unfold lenOK; first | (simp; done) | (simp; rfl)), rfl⟩
  by_cases h3 : op = 3
  · subst h3
    go_enter Try.func56, Try.ntmps56
    go_wp2
    go_ret
    exact ⟨ret_bool (by unfold lenOK; first | (simp; done) | (simp; rfl)), rfl⟩
  by_cases h4 : op = 4
  · subst h4
    go_enter Try.func56, Try.ntmps56
    go_wp2
    go_ret
    exact ⟨ret_bool (by unfold lenOK; first | (simp; done) | (simp; rfl)), rfl⟩
  by_cases h5 : op = 5
  · subst h5
    go_enter Try.func56, Try.ntmps56
    go_wp2
    go_ret
    exact ⟨ret_bool (by unfold lenOK; first | (simp; done) | (simp; rfl)), rfl⟩
  by_cases h6 : op = 6
  · subst h6
    go_enter Try.func56, Try.ntmps56
    go_wp2
    go_ret
    exact ⟨ret_bool (by unfold lenOK; first | (simp; done) | (simp; rfl)), rfl⟩
  by_cases h7 : op = 7
  · subst h7
    go_enter Try.func56, Try.ntmps56
    go_wp2
    go_ret
    exact ⟨ret_bool (by unfold lenOK; first | (simp; done) | (simp; rfl)), rfl⟩
  by_cases h8 : op = 8
  · subst h8
    go_enter Try.func56, Try.ntmps56
    go_wp2
    go_ret
    exact ⟨ret_bool (by unfold lenOK; first | (simp; done) | (simp; rfl)), rfl⟩
  by_cases h9 : op = 9
  · subst h9
    go_enter Try.func56, Try.ntmps56
    go_wp2
    go_ret
    exact ⟨ret_bool (by unfold lenOK; first | (simp; done) | (simp; rfl)), rfl⟩
  by_cases h10 : op = 10
  · subst h10
    go_enter Try.func56, Try.ntmps56
    go_wp2
    go_ret
    exact ⟨ret_bool (by unfold lenOK; first | (simp; done) | (simp; rfl)), rfl⟩
  by_cases h11 : op = 11
  · subst h11
    go_enter Try.func56, Try.ntmps56
    go_wp2
    go_ret
    exact ⟨ret_bool (by unfold lenOK; first | (simp; done) | (simp; rfl)), rfl⟩
  by_cases h12 : op = 12
  · subst h12
    go_enter Try.func56, Try.ntmps56
    go_wp2
    go_ret
    exact ⟨ret_bool (by unfold lenOK; first | (simp; done) | (simp; rfl)), rfl⟩
  by_cases h13 : op = 13
  · subst h13
    go_enter Try.func56, Try.ntmps56
    go_wp2
    go_ret
    exact ⟨ret_bool (by unfold lenOK; first | (simp; done) | (simp; rfl)), rfl⟩
  by_cases h14 : op = 14
  · subst h14
    go_enter Try.func56, Try.ntmps56
    go_wp2
    go_ret
    exact ⟨ret_bool (by unfold lenOK; first | (simp; done) | (simp; rfl)), rfl⟩
  by_cases h15 : op = 15
  · subst h15
    go_enter Try.func56, Try.ntmps56
    go_wp2
    go_ret
    exact ⟨ret_bool (by unfold lenOK; first | (simp; done) | (simp; rfl)), rfl⟩
  by_cases h16 : op = 16
  · subst h16
    go_enter Try.func56, Try.ntmps56
    go_wp2
    go_ret
    exact ⟨ret_bool (by unfold lenOK; first | (simp; done) | (simp; rfl)), rfl⟩
  by_cases h17 : op = 17
  · subst h17
    go_enter Try.func56, Try.ntmps56
    go_wp2
    go_ret
    exact ⟨ret_bool (by unfold lenOK; first | (simp; done) | (simp; rfl)), rfl⟩
  by_cases h18 : op = 18
  · subst h18
    go_enter Try.func56, Try.ntmps56
    go_wp2
    go_ret
    exact ⟨ret_bool (by unfold lenOK; first | (simp; done) | (simp; rfl)), rfl⟩
  by_cases h19 : op = 19
  · subst h19
    go_enter Try.func56, Try.ntmps56
    go_wp2
    go_ret
    exact ⟨ret_bool (by unfold lenOK; first | (simp; done) | (simp; rfl)), rfl⟩
  by_cases h20 : op = 20
  · subst h20
    go_enter Try.func56, Try.ntmps56
    go_wp2
    go_ret
    exact ⟨ret_bool (by unfold lenOK; first | (simp; done) | (simp; rfl)), rfl⟩
  by_cases h21 : op = 21
  · subst h21
    by_cases h1 : 1 ≤ m
    all_goals by_cases h2 : m ≤ 9
    all_goals
      go_enter Try.func56, Try.ntmps56
      go_wp2
      go_ret
      exact ⟨ret_bool (by unfold lenOK; simp; try omega), rfl⟩
  by_cases h22 : op = 22
  · subst h22
    go_enter Try.func56, Try.ntmps56
    go_wp2
    go_ret
    exact ⟨ret_bool (by unfold lenOK; first | (simp; done) | (simp; rfl)), rfl⟩
  by_cases h23 : op = 23
  · subst h23
    go_enter Try.func56, Try.ntmps56
    go_wp2
    go_ret
    exact ⟨ret_bool (by unfold lenOK; first | (simp; done) | (simp; rfl)), rfl⟩
  by_cases h24 : op = 24
  · subst h24
    go_enter Try.func56, Try.ntmps56
    go_wp2
    go_ret
    exact ⟨ret_bool (by unfold lenOK; first | (simp; done) | (simp; rfl)), rfl⟩
  have hE : lenOK op m = false := by unfold lenOK; (repeat' split) <;> first | (exfalso; omega) | rfl
  have e1 : (op == 1) = false := by simp [h1]
  have e2 : (op == 2) = false := by simp [h2]
  have e3 : (op == 3) = false := by simp [h3]
  have e4 : (op == 4) = false := by simp [h4]
  have e5 : (op == 5) = false := by simp [h5]
  have e6 : (op == 6) = false := by simp [h6]
  have e7 : (op == 7) = false := by simp [h7]
  have e8 : (op == 8) = false := by simp [h8]
  have e9 : (op == 9) = false := by simp [h9]
  have e10 : (op == 10) = false := by simp [h10]
  have e11 : (op == 11) = false := by simp [h11]
  have e12 : (op == 12) = false := by simp [h12]
  have e13 : (op == 13) = false := by simp [h13]
  have e14 : (op == 14) = false := by simp [h14]
  have e15 : (op == 15) = false := by simp [h15]
  have e16 : (op == 16) = false := by simp [h16]
  have e17 : (op == 17) = false := by simp [h17]
  have e18 : (op == 18) = false := by simp [h18]
  have e19 : (op == 19) = false := by simp [h19]
  have e20 : (op == 20) = false := by simp [h20]
  have e21 : (op == 21) = false := by simp [h21]
  have e22 : (op == 22) = false := by simp [h22]
  have e23 : (op == 23) = false := by simp [h23]
  have e24 : (op == 24) = false := by simp [h24]
  rw [hE]
  clear hE h1 h2 h3 h4 h5 h6 h7 h8 h9 h10 h11 h12 h13 h14 h15 h16 h17 h18 h19 h20 h21 h22 h23 h24
  go_enter Try.func56, Try.ntmps56
  go_wp2
  go_ret
  exact ⟨rfl, rfl⟩
set_option maxHeartbeats 800000 in
theorem number_ok (op n v : Int) (w : World) (h0 : 0 ≤ v) (h1 : v ≤ 1000000) : Calls Try.prog 57 #[.int .i64 op, .int .i64 n, .int .i64 v] w fun e w' => e = .returned (.bool (numOK op n v)) ∧ w = w' := by
  have hn := Lib.hid (fun W => rnames_ok op W)
  have hv : IntKind.i64.wrap v = v := IntWalk.i64_in _ (by omega)
  by_cases hN : namesOp op = true
  · rw [hN] at hn
    have hE : numOK op n v = funcB n := by unfold numOK funcB; rw [if_pos hN]
    rw [hE]
    clear hE hN hv
    by_cases ha : 0 ≤ n
    · by_cases hb : n ≤ 63
      · go_enter Try.func57, Try.ntmps57
        go_wp2_with (go_at_call 48; (with_reducible refine (hn.out _).mono ?_); rintro e w' ⟨rfl, rfl⟩)
        go_ret
        exact ⟨ret_bool (by unfold funcB; exact (decide_eq_true (by omega)).symm), rfl⟩
      · go_enter Try.func57, Try.ntmps57
        go_wp2_with (go_at_call 48; (with_reducible refine (hn.out _).mono ?_); rintro e w' ⟨rfl, rfl⟩)
        go_ret
        exact ⟨ret_bool (by unfold funcB; rw [Bool.eq_iff_iff]; simp only [decide_eq_true_eq]; omega), rfl⟩
    · go_enter Try.func57, Try.ntmps57
      go_wp2_with (go_at_call 48; (with_reducible refine (hn.out _).mono ?_); rintro e w' ⟨rfl, rfl⟩)
      go_ret
      exact ⟨ret_bool (by unfold funcB; exact (decide_eq_false (by omega)).symm), rfl⟩
  · have hN' : namesOp op = false := by simpa using hN
    rw [hN'] at hn
    by_cases h3 : op = 3
    · have hE : numOK op n v = varB n v := by unfold numOK varB; rw [if_neg hN, if_pos h3]
      rw [hE]
      have e3 : (op == 3) = true := by simp [h3]
      clear hE hN hN' h3
      by_cases ha : 0 ≤ n
      · by_cases hb : n < v
        · go_enter Try.func57, Try.ntmps57
          go_wp2_with (go_at_call 48; (with_reducible refine (hn.out _).mono ?_); rintro e w' ⟨rfl, rfl⟩)
          go_ret
          exact ⟨ret_bool (by unfold varB; clear hv; exact (decide_eq_true (by omega)).symm), rfl⟩
        · go_enter Try.func57, Try.ntmps57
          go_wp2_with (go_at_call 48; (with_reducible refine (hn.out _).mono ?_); rintro e w' ⟨rfl, rfl⟩)
          go_ret
          exact ⟨ret_bool (by unfold varB; clear hv; rw [Bool.eq_iff_iff]; simp only [decide_eq_true_eq]; omega), rfl⟩
      · go_enter Try.func57, Try.ntmps57
        go_wp2_with (go_at_call 48; (with_reducible refine (hn.out _).mono ?_); rintro e w' ⟨rfl, rfl⟩)
        go_ret
        exact ⟨ret_bool (by unfold varB; clear hv; exact (decide_eq_false (by omega)).symm), rfl⟩
    · have hE : numOK op n v = decide (op = 1 ∨ n = 0) := by unfold numOK; rw [if_neg hN, if_neg h3]
      have HE := Lib.hid hE
      have e3 : (op == 3) = false := by simp [h3]
      clear hE hN hN' h3 hv
      by_cases ha : op = 1
      · have e1 : (op == 1) = true := by simp [ha]
        have HA := Lib.hid ha
        clear ha
        go_enter Try.func57, Try.ntmps57
        go_wp2_with (go_at_call 48; (with_reducible refine (hn.out _).mono ?_); rintro e w' ⟨rfl, rfl⟩)
        go_ret
        exact ⟨ret_bool (by rw [HE.out]; exact (decide_eq_true (.inl HA.out)).symm), rfl⟩
      · have e1 : (op == 1) = false := by simp [ha]
        have HA := Lib.hid ha
        clear ha
        go_enter Try.func57, Try.ntmps57
        go_wp2_with (go_at_call 48; (with_reducible refine (hn.out _).mono ?_); rintro e w' ⟨rfl, rfl⟩)
        go_ret
        exact ⟨ret_bool (by rw [HE.out, Bool.eq_iff_iff]; have := HA.out; simp [this]), rfl⟩
end Go.Proofs.Ytleihdakmibmhaa
