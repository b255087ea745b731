/- The reference's Wait and Went. -/
import Derived.Test.YtchmoalcjbolbaaFa
import Derived.Test.YtchmoalcjbolbaaMa
namespace Go.Proofs.Ytchmoalcjbolbaa
open Go.RowKit Go.Shelf
attribute [local go_sem] Oper.semAt_some

theorem bestTo_le (l : List Tn) (t : Int) : ∀ j, waitTo l t j ≤ j ∧ bestTo l t j ≤ j
  | 0 => ⟨Nat.le_refl _, Nat.le_refl _⟩
  | j + 1 => by
    obtain ⟨h1, h2⟩ := bestTo_le l t j
    have h3 : waitTo l t (j + 1) ≤ j + 1 := by
      cases hx : l[j]? with
      | none =>
        have : waitTo l t (j + 1) = 0 := by show (match l[j]? with | some x => if t ∈ x.runs ∧ x.took ≠ t then waitTo l t j + 1 else 0 | none => 0) = _; rw [hx]
        omega
      | some x =>
        rw [waitTo_some hx]
        split <;> omega
    exact ⟨h3, by rw [bestTo_succ]; omega⟩
theorem wentTo_le (l : List Tn) (t : Int) : ∀ j, wentTo l t j ≤ j
  | 0 => Nat.le_refl _
  | j + 1 => by
    have h1 := wentTo_le l t j
    cases hx : l[j]? with
    | none =>
      have : wentTo l t (j + 1) = wentTo l t j := by show (match l[j]? with | some x => if x.took = t then wentTo l t j + 1 else wentTo l t j | none => wentTo l t j) = _; rw [hx]
      omega
    | some x =>
      rw [wentTo_some hx]
      split <;> omega

set_option maxRecDepth 100000 in
set_option maxHeartbeats 1600000 in
theorem refWent_ok (t : Int) (v : Value) (l : List Tn) (w : World) (hl : Turns w v l) (hle : l.length ≤ 1000) : Calls Try.prog 24 #[v, .int .i64 t] w fun e w' =>
    e = .returned (.int .i64 (wentTo l t l.length : Int)) ∧ w = w' := by
  obtain ⟨A, c, rfl, hc1, hc2⟩ := hl.form
  go_enter Try.func24, Try.ntmps24
  go_wp2_with fail
  go_loopw [5, 6] (fun q p wr => ∃ (k : Nat), k ≤ l.length ∧ q = .int .i64 (wentTo l t k : Int) ∧ p = .int .i64 (k : Int) ∧ w = wr) (fun _ p _ => l.length - (intOf p).toNat)
  case atStart => exact ⟨0, Nat.zero_le _, rfl, rfl, rfl⟩
  case round =>
    obtain ⟨k, hk, rfl, rfl, rfl⟩ := hrel
    have hk0 : (0 : Int) ≤ (k : Int) := by omega
    have hwl := wentTo_le l t k
    by_cases hlt : k < l.length
    · have hltI : (k : Int) < (l.length : Int) := by omega
      obtain ⟨x, hx⟩ : ∃ x, l[k]? = some x := ⟨_, List.getElem?_eq_getElem hlt⟩
      obtain ⟨b, o, B, m, d, rfl, hbl, q0, q1, q2, q3⟩ := hl.at_ hx
      have hN := wentTo_some (t := t) hx
      by_cases ht : x.took = t
      · rw [if_pos ht] at hN
        have htI : (x.took == t) = true := by simp [ht]
        have HN := Lib.hid hN
        clear hx hN ht
        go_wp2_with fail
        exact ⟨⟨k + 1, by omega, by rw [HN.out]; go_num, by go_num, trivial⟩, by simp [intOf]; omega⟩
      · rw [if_neg ht] at hN
        have htI : (x.took == t) = false := by simp [ht]
        have HN := Lib.hid hN
        clear hx hN ht
        go_wp2_with fail
        exact ⟨⟨k + 1, by omega, by rw [HN.out], by go_num, trivial⟩, by simp [intOf]; omega⟩
    · have hltI : ¬ (k : Int) < (l.length : Int) := by omega
      obtain rfl : k = l.length := by omega
      go_wp2_with fail
      go_ret
      exact ⟨rfl, rfl⟩

set_option maxRecDepth 100000 in
set_option maxHeartbeats 1600000 in
theorem refWait_ok (t : Int) (v : Value) (l : List Tn) (w : World) (hl : Turns w v l) (hle : l.length ≤ 1000) : Calls Try.prog 23 #[v, .int .i64 t] w fun e w' =>
    e = .returned (.int .i64 (bestTo l t l.length : Int)) ∧ w = w' := by
  obtain ⟨A, c, rfl, hc1, hc2⟩ := hl.form
  go_enter Try.func23, Try.ntmps23
  go_wp2_with fail
  go_loopw [5, 6, 7] (fun q r p wr => ∃ (k : Nat), k ≤ l.length ∧ q = .int .i64 (bestTo l t k : Int) ∧ r = .int .i64 (waitTo l t k : Int) ∧ p = .int .i64 (k : Int) ∧ w = wr) (fun _ _ p _ => l.length - (intOf p).toNat)
  case atStart => exact ⟨0, Nat.zero_le _, rfl, rfl, rfl, rfl⟩
  case round =>
    obtain ⟨k, hk, rfl, rfl, rfl, rfl⟩ := hrel
    have hk0 : (0 : Int) ≤ (k : Int) := by omega
    obtain ⟨hwl1, hwl2⟩ := bestTo_le l t k
    by_cases hlt : k < l.length
    · have hltI : (k : Int) < (l.length : Int) := by omega
      obtain ⟨x, hx⟩ : ∃ x, l[k]? = some x := ⟨_, List.getElem?_eq_getElem hlt⟩
      obtain ⟨b, o, B, m, d, rfl, hbl, q0, q1, q2, q3⟩ := hl.at_ hx
      have hW := waitTo_some (t := t) hx
      have hb := bestTo_succ l t k
      have hI := in_ok t _ x.runs w q1
      by_cases hm : hasB x.runs t = true
      · by_cases ht : x.took = t
        · rw [if_neg (fun h => h.2 ht)] at hW
          rw [hm] at hI
          have htI : (x.took != t) = false := by simp [ht]
          have HW := Lib.hid hW
          have HB := Lib.hid hb
          clear hx hW hb ht
          go_wp2_with (go_at_call 38; refine hI.mono ?_; rintro e w' ⟨rfl, rfl⟩)
          exact ⟨⟨k + 1, by omega, by rw [HB.out, HW.out]; go_num, by rw [HW.out]; go_num, by go_num, trivial⟩, by simp [intOf]; omega⟩
        · have hm' : t ∈ x.runs := by unfold hasB at hm; simpa using hm
          rw [if_pos ⟨hm', ht⟩] at hW
          rw [hm] at hI
          have htI : (x.took != t) = true := by simp [ht]
          have HW := Lib.hid hW
          have HB := Lib.hid hb
          clear hx hW hb ht
          go_wp2_with (go_at_call 38; refine hI.mono ?_; rintro e w' ⟨rfl, rfl⟩)
          exact ⟨⟨k + 1, by omega, by rw [HB.out, HW.out]; go_num, by rw [HW.out]; go_num, by go_num, trivial⟩, by simp [intOf]; omega⟩
      · have hm' : ¬ t ∈ x.runs := by unfold hasB at hm; simpa using hm
        have hmF : hasB x.runs t = false := by simpa using hm
        rw [if_neg (fun h => hm' h.1)] at hW
        rw [hmF] at hI
        have HW := Lib.hid hW
        have HB := Lib.hid hb
        clear hx hW hb hm
        go_wp2_with (go_at_call 38; refine hI.mono ?_; rintro e w' ⟨rfl, rfl⟩)
        exact ⟨⟨k + 1, by omega, by rw [HB.out, HW.out]; go_num, by rw [HW.out]; go_num, by go_num, trivial⟩, by simp [intOf]; omega⟩
    · have hltI : ¬ (k : Int) < (l.length : Int) := by omega
      obtain rfl : k = l.length := by omega
      go_wp2_with fail
      go_ret
      exact ⟨rfl, rfl⟩
end Go.Proofs.Ytchmoalcjbolbaa
