/- The document's own event and shape. -/
import Derived.Test.YtmfcecfcfihgaaaNa
import Derived.BigQuiet
import Derived.Deep.QuietTactic
import Derived.WalkSmall
namespace Go.Proofs.Ytmfcecfcfihgaaa
open Go.RowKit Go.Shelf
attribute [local go_sem] Oper.semAt_some

set_option maxRecDepth 100000 in
theorem rEvent_ok (k : Int) (w : World) : Says Try.prog 188 #[.int .i64 k] w (evB k) := by
  unfold Says
  go_enter Try.func188, Try.ntmps188
  go_wp2_with fail
  all_goals
    go_ret
    exact ⟨says_end (by unfold evB; first | rfl | (rw [Bool.eq_iff_iff]; simp; done) | (rw [Bool.eq_iff_iff]; simp; omega) | (rw [Bool.eq_iff_iff]; simp_all; done) | (rw [Bool.eq_iff_iff]; simp_all; omega)), rfl⟩
theorem belowN {w W : World} (h : Below w.heap.size w W) (n : Nat) : Below w.heap.size w (W.drewN n) := below_drewN h n
theorem below_box (w : World) (o : Obj) (n : Nat) : Below w.heap.size w ((w.alloc o).drewN n) := below_drewN ((Below.refl _ w).alloc (Nat.le_refl _) _) n


set_option maxRecDepth 100000 in
set_option maxHeartbeats 1600000 in
theorem shape_1 (n : Int) (A : Option Addr) (c : Nat) (l : List V) (w : World) :
    Calls Try.prog 164 #[.agg #[.int .i64 1, .int .i64 n, .slice A l.length c]] w fun e w' => e = .returned (.bool (shapeOf 1 n l)) ∧ Below w.heap.size w w' := by
  go_enter Try.func164, Try.ntmps164
  go_wp2_with fail
  go_quiet (fail)
  go_wp2_with fail
  all_goals
    go_ret
    exact ⟨says_end (by unfold shapeOf; first | rfl | (rw [Bool.eq_iff_iff]; simp; done) | (rw [Bool.eq_iff_iff]; simp; omega) | (rw [Bool.eq_iff_iff]; simp_all; done) | (rw [Bool.eq_iff_iff]; simp_all; omega)), below_box w _ _⟩

set_option maxRecDepth 100000 in
set_option maxHeartbeats 1600000 in
theorem shape_2 (n : Int) (A : Option Addr) (c : Nat) (l : List V) (w : World) :
    Calls Try.prog 164 #[.agg #[.int .i64 2, .int .i64 n, .slice A l.length c]] w fun e w' => e = .returned (.bool (shapeOf 2 n l)) ∧ Below w.heap.size w w' := by
  go_enter Try.func164, Try.ntmps164
  go_wp2_with fail
  go_quiet (fail)
  go_wp2_with fail
  all_goals
    go_ret
    exact ⟨says_end (by unfold shapeOf; first | rfl | (rw [Bool.eq_iff_iff]; simp; done) | (rw [Bool.eq_iff_iff]; simp; omega) | (rw [Bool.eq_iff_iff]; simp_all; done) | (rw [Bool.eq_iff_iff]; simp_all; omega)), below_box w _ _⟩

set_option maxRecDepth 100000 in
set_option maxHeartbeats 1600000 in
theorem shape_3 (n : Int) (A : Option Addr) (c : Nat) (l : List V) (w : World) :
    Calls Try.prog 164 #[.agg #[.int .i64 3, .int .i64 n, .slice A l.length c]] w fun e w' => e = .returned (.bool (shapeOf 3 n l)) ∧ Below w.heap.size w w' := by
  go_enter Try.func164, Try.ntmps164
  go_wp2_with fail
  go_quiet (fail)
  go_wp2_with fail
  all_goals
    go_ret
    exact ⟨says_end (by unfold shapeOf; first | rfl | (rw [Bool.eq_iff_iff]; simp; done) | (rw [Bool.eq_iff_iff]; simp; omega) | (rw [Bool.eq_iff_iff]; simp_all; done) | (rw [Bool.eq_iff_iff]; simp_all; omega)), below_box w _ _⟩

set_option maxRecDepth 100000 in
set_option maxHeartbeats 1600000 in
theorem shape_4 (n : Int) (A : Option Addr) (c : Nat) (l : List V) (w : World) :
    Calls Try.prog 164 #[.agg #[.int .i64 4, .int .i64 n, .slice A l.length c]] w fun e w' => e = .returned (.bool (shapeOf 4 n l)) ∧ Below w.heap.size w w' := by
  go_enter Try.func164, Try.ntmps164
  go_wp2_with fail
  go_quiet (fail)
  go_wp2_with fail
  all_goals
    go_ret
    exact ⟨says_end (by unfold shapeOf; first | rfl | (rw [Bool.eq_iff_iff]; simp; done) | (rw [Bool.eq_iff_iff]; simp; omega) | (rw [Bool.eq_iff_iff]; simp_all; done) | (rw [Bool.eq_iff_iff]; simp_all; omega)), below_box w _ _⟩

set_option maxRecDepth 100000 in
set_option maxHeartbeats 1600000 in
theorem shape_7 (n : Int) (A : Option Addr) (c : Nat) (l : List V) (w : World) :
    Calls Try.prog 164 #[.agg #[.int .i64 7, .int .i64 n, .slice A l.length c]] w fun e w' => e = .returned (.bool (shapeOf 7 n l)) ∧ Below w.heap.size w w' := by
  go_enter Try.func164, Try.ntmps164
  go_wp2_with fail
  go_quiet (fail)
  go_wp2_with fail
  all_goals
    go_ret
    exact ⟨says_end (by unfold shapeOf; first | rfl | (rw [Bool.eq_iff_iff]; simp; done) | (rw [Bool.eq_iff_iff]; simp; omega) | (rw [Bool.eq_iff_iff]; simp_all; done) | (rw [Bool.eq_iff_iff]; simp_all; omega)), below_box w _ _⟩

set_option maxRecDepth 100000 in
set_option maxHeartbeats 1600000 in
theorem shape_8 (n : Int) (A : Option Addr) (c : Nat) (l : List V) (w : World) :
    Calls Try.prog 164 #[.agg #[.int .i64 8, .int .i64 n, .slice A l.length c]] w fun e w' => e = .returned (.bool (shapeOf 8 n l)) ∧ Below w.heap.size w w' := by
  go_enter Try.func164, Try.ntmps164
  go_wp2_with fail
  go_quiet (fail)
  go_wp2_with fail
  all_goals
    go_ret
    exact ⟨says_end (by unfold shapeOf; first | rfl | (rw [Bool.eq_iff_iff]; simp; done) | (rw [Bool.eq_iff_iff]; simp; omega) | (rw [Bool.eq_iff_iff]; simp_all; done) | (rw [Bool.eq_iff_iff]; simp_all; omega)), below_box w _ _⟩

set_option maxRecDepth 100000 in
set_option maxHeartbeats 1600000 in
theorem shape_11 (n : Int) (A : Option Addr) (c : Nat) (l : List V) (w : World) :
    Calls Try.prog 164 #[.agg #[.int .i64 11, .int .i64 n, .slice A l.length c]] w fun e w' => e = .returned (.bool (shapeOf 11 n l)) ∧ Below w.heap.size w w' := by
  go_enter Try.func164, Try.ntmps164
  go_wp2_with fail
  go_quiet (fail)
  go_wp2_with fail
  all_goals
    go_ret
    exact ⟨says_end (by unfold shapeOf; first | rfl | (rw [Bool.eq_iff_iff]; simp; done) | (rw [Bool.eq_iff_iff]; simp; omega) | (rw [Bool.eq_iff_iff]; simp_all; done) | (rw [Bool.eq_iff_iff]; simp_all; omega)), below_box w _ _⟩

set_option maxRecDepth 100000 in
set_option maxHeartbeats 1600000 in
theorem shape_12 (n : Int) (A : Option Addr) (c : Nat) (l : List V) (w : World) :
    Calls Try.prog 164 #[.agg #[.int .i64 12, .int .i64 n, .slice A l.length c]] w fun e w' => e = .returned (.bool (shapeOf 12 n l)) ∧ Below w.heap.size w w' := by
  go_enter Try.func164, Try.ntmps164
  go_wp2_with fail
  go_quiet (fail)
  go_wp2_with fail
  all_goals
    go_ret
    exact ⟨says_end (by unfold shapeOf; first | rfl | (rw [Bool.eq_iff_iff]; simp; done) | (rw [Bool.eq_iff_iff]; simp; omega) | (rw [Bool.eq_iff_iff]; simp_all; done) | (rw [Bool.eq_iff_iff]; simp_all; omega)), below_box w _ _⟩

set_option maxRecDepth 100000 in
set_option maxHeartbeats 1600000 in
theorem shape_13 (n : Int) (A : Option Addr) (c : Nat) (l : List V) (w : World) :
    Calls Try.prog 164 #[.agg #[.int .i64 13, .int .i64 n, .slice A l.length c]] w fun e w' => e = .returned (.bool (shapeOf 13 n l)) ∧ Below w.heap.size w w' := by
  go_enter Try.func164, Try.ntmps164
  go_wp2_with fail
  go_quiet (fail)
  go_wp2_with fail
  all_goals
    go_ret
    exact ⟨says_end (by unfold shapeOf; first | rfl | (rw [Bool.eq_iff_iff]; simp; done) | (rw [Bool.eq_iff_iff]; simp; omega) | (rw [Bool.eq_iff_iff]; simp_all; done) | (rw [Bool.eq_iff_iff]; simp_all; omega)), below_box w _ _⟩

set_option maxRecDepth 100000 in
set_option maxHeartbeats 1600000 in
theorem shape_5 {hi : Nat} (n : Int) {A : Option Addr} {c : Nat} {l : List V} (w : World) (h : Ls w 0 hi (.slice A l.length c) l) :
    Calls Try.prog 164 #[.agg #[.int .i64 5, .int .i64 n, .slice A l.length c]] w fun e w' => e = .returned (.bool (shapeOf 5 n l)) ∧ Below w.heap.size w w' := by
  obtain ⟨_, hc1, hc2⟩ := h.len
  have hE : shapeOf 5 n l = ((n == 0) && chan1B l) := by unfold shapeOf; simp
  rw [hE]
  clear hE
  by_cases hl : l.length = 2
  · obtain ⟨x, y, rfl⟩ : ∃ x y, l = [x, y] := by
      match l, hl with
      | [x, y], _ => exact ⟨x, y, rfl⟩
    obtain ⟨b, o, s, rfl, hb, _, _, q0, q1, q2, _⟩ := h.at_ (i := 0) (x := x) rfl
    simp at q0 hc1
    have hbn : ¬ b = w.heap.size := by omega
    have hcI : (1 : Int) ≤ (c : Int) := by omega
    have hcI2 : (2 : Int) ≤ (c : Int) := by omega
    have hE : chan1B [x, y] = (x.k == 4) := rfl
    rw [hE]
    clear hE h
    simp only [List.length_cons, List.length_nil, Nat.zero_add, Nat.reduceAdd] at hc1 ⊢
    by_cases hn : n = 0
    · subst hn
      go_enter Try.func164, Try.ntmps164
      go_wp2_with fail
      go_quiet (fail)
      go_wp2_with fail
      all_goals
        go_ret
        exact ⟨says_end (by first | rfl | (rw [Bool.eq_iff_iff]; simp; done) | (rw [Bool.eq_iff_iff]; simp_all; done)), below_box w _ _⟩
    · have hnb : (n == 0) = false := by simp [hn]
      rw [hnb]
      go_enter Try.func164, Try.ntmps164
      go_wp2_with fail
      go_quiet (fail)
      go_wp2_with fail
      all_goals
        go_ret
        exact ⟨says_end (by first | rfl | (rw [Bool.eq_iff_iff]; simp; done) | (rw [Bool.eq_iff_iff]; simp_all; done)), below_box w _ _⟩
  · have hE : chan1B l = false := by
      match l, hl with
      | [], _ => rfl
      | [x], _ => rfl
      | [x, y], hl => simp at hl
      | _ :: _ :: _ :: _, _ => rfl
    rw [hE]
    have hl' : ((l.length : Int) == 2) = false := by simp; omega
    have hlI : ¬ (l.length : Int) = 2 := by omega
    clear h hE hl
    go_enter Try.func164, Try.ntmps164
    go_wp2_with fail
    go_quiet (fail)
    go_wp2_with fail
    all_goals
      go_ret
      exact ⟨says_end (by first | rfl | (rw [Bool.eq_iff_iff]; simp; done) | (rw [Bool.eq_iff_iff]; simp_all; done)), below_box w _ _⟩

set_option maxRecDepth 100000 in
set_option maxHeartbeats 1600000 in
theorem shape_6 {hi : Nat} (n : Int) {A : Option Addr} {c : Nat} {l : List V} (w : World) (h : Ls w 0 hi (.slice A l.length c) l) :
    Calls Try.prog 164 #[.agg #[.int .i64 6, .int .i64 n, .slice A l.length c]] w fun e w' => e = .returned (.bool (shapeOf 6 n l)) ∧ Below w.heap.size w w' := by
  obtain ⟨_, hc1, hc2⟩ := h.len
  have hE : shapeOf 6 n l = ((n == 0) && chanB l) := by unfold shapeOf; simp
  rw [hE]
  clear hE
  by_cases hl : l.length = 1
  · obtain ⟨x, rfl⟩ : ∃ x, l = [x] := by
      match l, hl with
      | [x], _ => exact ⟨x, rfl⟩
    obtain ⟨b, o, s, rfl, hb, _, _, q0, q1, q2, _⟩ := h.at_ (i := 0) (x := x) rfl
    simp at q0 hc1
    have hbn : ¬ b = w.heap.size := by omega
    have hcI : (1 : Int) ≤ (c : Int) := by omega
    have hcI2 : (1 : Int) ≤ (c : Int) := by omega
    have hE : chanB [x] = (x.k == 4) := rfl
    rw [hE]
    clear hE h
    simp only [List.length_cons, List.length_nil, Nat.zero_add] at hc1 ⊢
    by_cases hn : n = 0
    · subst hn
      go_enter Try.func164, Try.ntmps164
      go_wp2_with fail
      go_quiet (fail)
      go_wp2_with fail
      all_goals
        go_ret
        exact ⟨says_end (by first | rfl | (rw [Bool.eq_iff_iff]; simp; done) | (rw [Bool.eq_iff_iff]; simp_all; done)), below_box w _ _⟩
    · have hnb : (n == 0) = false := by simp [hn]
      rw [hnb]
      go_enter Try.func164, Try.ntmps164
      go_wp2_with fail
      go_quiet (fail)
      go_wp2_with fail
      all_goals
        go_ret
        exact ⟨says_end (by first | rfl | (rw [Bool.eq_iff_iff]; simp; done) | (rw [Bool.eq_iff_iff]; simp_all; done)), below_box w _ _⟩
  · have hE : chanB l = false := by
      match l, hl with
      | [], _ => rfl
      | [x], hl => simp at hl
      | _ :: _ :: _, _ => rfl
    rw [hE]
    have hl' : ((l.length : Int) == 1) = false := by simp; omega
    have hlI : ¬ (l.length : Int) = 1 := by omega
    clear h hE hl
    go_enter Try.func164, Try.ntmps164
    go_wp2_with fail
    go_quiet (fail)
    go_wp2_with fail
    all_goals
      go_ret
      exact ⟨says_end (by first | rfl | (rw [Bool.eq_iff_iff]; simp; done) | (rw [Bool.eq_iff_iff]; simp_all; done)), below_box w _ _⟩

set_option maxRecDepth 100000 in
set_option maxHeartbeats 1600000 in
theorem shape_10 {hi : Nat} (n : Int) {A : Option Addr} {c : Nat} {l : List V} (w : World) (h : Ls w 0 hi (.slice A l.length c) l) :
    Calls Try.prog 164 #[.agg #[.int .i64 10, .int .i64 n, .slice A l.length c]] w fun e w' => e = .returned (.bool (shapeOf 10 n l)) ∧ Below w.heap.size w w' := by
  obtain ⟨_, hc1, hc2⟩ := h.len
  have hE : shapeOf 10 n l = ((decide (0 ≤ n) && decide (n < 64)) && evArgB l) := by unfold shapeOf; simp
  rw [hE]
  clear hE
  match l, h, hc1 with
  | [], h, hc1 =>
    have hE : evArgB [] = false := rfl
    rw [hE]
    clear h hE
    simp only [List.length_nil, Bool.and_false] at hc1 ⊢
    go_enter Try.func164, Try.ntmps164
    go_wp2_with fail
    go_quiet (fail)
    go_wp2_with fail
    all_goals
      go_ret
      exact ⟨says_end (by first | rfl | (rw [Bool.eq_iff_iff]; simp; done) | (rw [Bool.eq_iff_iff]; simp_all; done)), below_box w _ _⟩
  | x :: xs, h, hc1 =>
    obtain ⟨b, o, s, rfl, hb, _, _, q0, q1, q2, _⟩ := h.at_ (i := 0) (x := x) rfl
    simp at q0 hc1
    have hbn : ¬ b = w.heap.size := by omega
    have hcI : (1 : Int) ≤ (c : Int) := by omega
    have hpos : (0 : Int) < (xs.length : Int) + 1 := by omega
    have hev := rEvent_ok x.k
    unfold Says at hev
    have hE : evArgB (x :: xs) = (evB x.k && decide (xs.length ≤ 8)) := rfl
    rw [hE]
    generalize evB x.k = z at hev ⊢
    clear hE h
    simp only [List.length_cons] at hc1 ⊢
    have h1 : decide ((1 : Int) ≤ (xs.length : Int) + 1) = true := by simp; omega
    by_cases hn : 0 ≤ n
    · by_cases hn2 : n < 64
      · have hn3 : n ≤ 63 := by omega
        have e1 : (decide (0 ≤ n) && decide (n < 64)) = true := by simp [hn, hn2]
        rw [e1, Bool.true_and]
        by_cases hx : xs.length ≤ 8
        · have hxI : (xs.length : Int) + 1 ≤ 9 := by omega
          have e2 : decide (xs.length ≤ 8) = true := by simp [hx]
          rw [e2, Bool.and_true]
          clear e1 e2
          go_enter Try.func164, Try.ntmps164
          go_wp2_with fail
          go_quiet (fail)
          go_wp2_with (go_at_call 188; refine (hev _).mono ?_; rintro e w' ⟨rfl, rfl⟩)
          go_ret
          exact ⟨rfl, below_box w _ _⟩
        · have hxI : ¬ (xs.length : Int) + 1 ≤ 9 := by omega
          have e2 : decide (xs.length ≤ 8) = false := by simp [hx]
          rw [e2, Bool.and_false]
          clear e1 e2
          go_enter Try.func164, Try.ntmps164
          go_wp2_with fail
          go_quiet (fail)
          go_wp2_with fail
          go_ret
          exact ⟨rfl, below_box w _ _⟩
      · have hn3 : ¬ n ≤ 63 := by omega
        have e1 : (decide (0 ≤ n) && decide (n < 64)) = false := by simp [hn2]
        rw [e1, Bool.false_and]
        clear e1
        go_enter Try.func164, Try.ntmps164
        go_wp2_with fail
        go_quiet (fail)
        go_wp2_with fail
        go_ret
        exact ⟨rfl, below_box w _ _⟩
    · have e1 : (decide (0 ≤ n) && decide (n < 64)) = false := by simp [hn]
      rw [e1, Bool.false_and]
      clear e1
      go_enter Try.func164, Try.ntmps164
      go_wp2_with fail
      go_quiet (fail)
      go_wp2_with fail
      go_ret
      exact ⟨rfl, below_box w _ _⟩


set_option maxRecDepth 100000 in
set_option maxHeartbeats 3200000 in
theorem shape_9 {hi : Nat} (n : Int) {A : Option Addr} {c : Nat} {l : List V} (w : World) (h : Ls w 0 hi (.slice A l.length c) l) (hh : hi ≤ w.heap.size) :
    Calls Try.prog 164 #[.agg #[.int .i64 9, .int .i64 n, .slice A l.length c]] w fun e w' => e = .returned (.bool (shapeOf 9 n l)) ∧ Below w.heap.size w w' := by
  obtain ⟨_, hc1, hc2⟩ := h.len
  unfold maxLen at hc2
  have hE : shapeOf 9 n l = ((n == 0) && choB l) := by unfold shapeOf; simp
  obtain ⟨z, hz⟩ : ∃ z, shapeOf 9 n l = z := ⟨_, rfl⟩
  rw [hz]
  have HZ := Lib.hid (hz.symm.trans hE)
  clear hE hz
  go_enter Try.func164, Try.ntmps164
  go_wp2_with fail
  go_quiet (fail)
  go_wp2_with fail
  go_loopw [5] (fun p wr => ∃ k : Nat, k ≤ l.length ∧ p = .int .i64 (k : Int) ∧ Hid (wr = (w.alloc (.cells #[.int .i64 9, .int .i64 n, .slice A l.length c] 36)).drewN nq) ∧ AllEv l k) (fun p _ => l.length - (intOf p).toNat)
  case atStart => exact ⟨0, Nat.zero_le _, rfl, Lib.hid rfl, by intro i x hi; omega⟩
  case round =>
    obtain ⟨k, hk, rfl, hwr, hN⟩ := hrel
    have hk0 : (0 : Int) ≤ (k : Int) := by omega
    have hB : Below w.heap.size w wr := by rw [hwr.out]; exact below_box w _ _
    have hbx : Cells3 wr w.heap.size (.int .i64 9) (.int .i64 n) (.slice A l.length c) := by rw [hwr.out]; exact (Blk.new w 36 #[.int .i64 9, .int .i64 n, .slice A l.length c]).cells3
    obtain ⟨c0, c1, c2⟩ := hbx
    by_cases hlt : k < l.length
    · have hltI : (k : Int) < (l.length : Int) := by omega
      obtain ⟨x, hx⟩ : ∃ x, l[k]? = some x := ⟨_, List.getElem?_eq_getElem hlt⟩
      obtain ⟨b, o, s, rfl, hb, _, _, q0, q1, q2, _⟩ := (h.after (hB.mono hh)).at_ hx
      have hcall := rEvent_ok x.k wr
      unfold Says at hcall
      cases he : evB x.k
      · rw [he] at hcall
        have hE : ((n == 0) && choB l) = false := by unfold choB; rw [not_all hx he]; simp
        have HE := Lib.hid hE
        have HB := Lib.hid hB
        clear hx he hE hB h hN
        go_wp2_with (go_at_call 188; refine hcall.mono ?_; rintro e w' ⟨rfl, rfl⟩)
        go_ret
        exact ⟨by rw [HZ.out, HE.out]; rfl, HB.out⟩
      · rw [he] at hcall
        have hN' := Lib.hid (allEv_next hN hx he)
        have HB := Lib.hid hB
        clear hx he hB h hN
        go_wp2_with (go_at_call 188; refine hcall.mono ?_; rintro e w' ⟨rfl, rfl⟩)
        exact ⟨⟨k + 1, by omega, by go_num, hwr, hN'.out⟩, by simp [intOf]; omega⟩
    · have hltI : ¬ (k : Int) < (l.length : Int) := by omega
      have hE : ((n == 0) && choB l) = ((n == 0) && decide (l.length ≤ 16)) := by
        obtain rfl : k = l.length := by omega
        unfold choB; rw [allEv_all hN]; simp
      have HB := Lib.hid hB
      have HE := Lib.hid hE
      clear hE hN h hB
      go_wp2_with fail
      all_goals
        go_ret
        refine ⟨?_, HB.out⟩
        rw [HZ.out, HE.out]
        exact (says_end (by first | rfl | (rw [Bool.eq_iff_iff]; simp; done) | (rw [Bool.eq_iff_iff]; simp; omega) | (rw [Bool.eq_iff_iff]; simp_all; done) | (rw [Bool.eq_iff_iff]; simp_all; omega)))


set_option maxRecDepth 100000 in
set_option maxHeartbeats 1600000 in
theorem shape_off (k n : Int) (A : Option Addr) (c : Nat) (l : List V) (w : World) (hk : k ≤ 0 ∨ 14 ≤ k) :
    Calls Try.prog 164 #[.agg #[.int .i64 k, .int .i64 n, .slice A l.length c]] w fun e w' => e = .returned (.bool false) ∧ Below w.heap.size w w' := by
  have e1 : (k == 1) = false := by simp; omega
  have e2 : (k == 2) = false := by simp; omega
  have e3 : (k == 3) = false := by simp; omega
  have e4 : (k == 4) = false := by simp; omega
  have e5 : (k == 5) = false := by simp; omega
  have e6 : (k == 6) = false := by simp; omega
  have e7 : (k == 7) = false := by simp; omega
  have e8 : (k == 8) = false := by simp; omega
  have e9 : (k == 9) = false := by simp; omega
  have e10 : (k == 10) = false := by simp; omega
  have e11 : (k == 11) = false := by simp; omega
  have e12 : (k == 12) = false := by simp; omega
  have e13 : (k == 13) = false := by simp; omega
  clear hk
  go_enter Try.func164, Try.ntmps164
  go_wp2_with fail
  go_quiet (fail)
  go_wp2_with fail
  go_ret
  exact ⟨rfl, below_box w _ _⟩
/-- The document's own shape. -/
theorem rShape_ok {hi : Nat} {v : Value} {T : V} (w : World) (h : In w 0 hi v T) (hh : hi ≤ w.heap.size) :
    Calls Try.prog 164 #[v] w fun e w' => e = .returned (.bool (shapeB T)) ∧ Below w.heap.size w w' := by
  obtain ⟨A, c, rfl, hc1, hc2, hl⟩ := h.val
  unfold shapeB
  by_cases hk : T.k ≤ 0 ∨ 14 ≤ T.k
  · rw [shapeOf_off hk]
    exact shape_off T.k T.n A c T.l w hk
  · have hc : T.k = 1 ∨ T.k = 2 ∨ T.k = 3 ∨ T.k = 4 ∨ T.k = 5 ∨ T.k = 6 ∨ T.k = 7 ∨ T.k = 8 ∨ T.k = 9 ∨ T.k = 10 ∨ T.k = 11 ∨ T.k = 12 ∨ T.k = 13 := by omega
    rcases hc with hc | hc | hc | hc | hc | hc | hc | hc | hc | hc | hc | hc | hc <;> rw [hc]
    · exact shape_1 T.n A c T.l w
    · exact shape_2 T.n A c T.l w
    · exact shape_3 T.n A c T.l w
    · exact shape_4 T.n A c T.l w
    · exact shape_5 T.n w hl
    · exact shape_6 T.n w hl
    · exact shape_7 T.n A c T.l w
    · exact shape_8 T.n A c T.l w
    · exact shape_9 T.n w hl hh
    · exact shape_10 T.n w hl
    · exact shape_11 T.n A c T.l w
    · exact shape_12 T.n A c T.l w
    · exact shape_13 T.n A c T.l w
end Go.Proofs.Ytmfcecfcfihgaaa
