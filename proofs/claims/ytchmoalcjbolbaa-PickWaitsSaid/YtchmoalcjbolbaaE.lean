/- What it takes to tell which turns may be: Index, Contains, in, valid, Right. -/
import Derived.Test.YtchmoalcjbolbaaD
namespace Go.Proofs.Ytchmoalcjbolbaa
open Go.RowKit Go.Shelf
attribute [local go_sem] Oper.semAt_some

def hasB (xs : List Int) (t : Int) : Bool := xs.contains t
def NonNeg (i : Int) : Bool := decide (0 ≤ i)
def NotIn (xs : List Int) (t : Int) (k : Nat) : Prop := t ∉ xs.take k
theorem notIn_next {xs : List Int} {t s : Int} {k : Nat} (h : NotIn xs t k) (hx : xs[k]? = some s) (hs : s ≠ t) : NotIn xs t (k + 1) := by
  unfold NotIn at h ⊢
  rw [(parts_at hx).2]
  intro hm
  rcases List.mem_append.1 hm with hm | hm
  · exact h hm
  · simp at hm; exact hs hm.symm

set_option maxRecDepth 100000 in
set_option maxHeartbeats 1600000 in
theorem sIndex_ok (t : Int) (v : Value) (xs : List Int) (w : World) (hv : Ints w v xs) : Calls Try.prog 53 #[v, .int .i64 t] w fun e w' =>
    (∃ i : Int, e = .returned (.int .i64 i) ∧ (NonNeg i = hasB xs t)) ∧ w = w' := by
  obtain ⟨A, c, rfl, hc1, hc2⟩ := hv.form
  have hm : xs.length ≤ maxLen := Nat.le_trans hc1 hc2
  unfold maxLen at hm
  go_enter Try.func53, Try.ntmps53
  go_wp2_with fail
  go_loopw [8] (fun p wr => ∃ k : Nat, k ≤ xs.length ∧ p = .int .i64 (k : Int) ∧ wr = w ∧ NotIn xs t k) (fun p _ => xs.length - (intOf p).toNat)
  case atStart => exact ⟨0, Nat.zero_le _, rfl, rfl, by simp [NotIn]⟩
  case round =>
    obtain ⟨k, hk, rfl, rfl, hN⟩ := hrel
    have hk0 : (0 : Int) ≤ (k : Int) := by omega
    by_cases hlt : k < xs.length
    · have hltI : (k : Int) < (xs.length : Int) := by omega
      obtain ⟨x, hx⟩ : ∃ x, xs[k]? = some x := ⟨_, List.getElem?_eq_getElem hlt⟩
      obtain ⟨b, o, rfl, hb, q0⟩ := hv.at_ hx
      by_cases hl : x = t
      · have hl' : (t == x) = true := by simp [hl]
        have hE : NonNeg (k : Int) = hasB xs t := by
          unfold NonNeg hasB
          have hmem := List.mem_of_getElem? hx
          rw [hl] at hmem
          simp [hk0, hmem]
        have HE := Lib.hid hE
        clear hx hl hE
        go_wp2_with fail
        go_ret
        exact ⟨⟨_, rfl, HE.out⟩, rfl⟩
      · have hl' : (t == x) = false := by simp; exact fun e => hl e.symm
        have hN' := notIn_next hN hx hl
        clear hx hl
        go_wp2_with fail
        exact ⟨⟨k + 1, by omega, by go_num, trivial, hN'⟩, by simp [intOf]; omega⟩
    · have hltI : ¬ (k : Int) < (xs.length : Int) := by omega
      have hE : NonNeg (-1 : Int) = hasB xs t := by
        unfold NonNeg hasB
        unfold NotIn at hN
        rw [List.take_of_length_le (by omega)] at hN
        simp [hN]
      have HE := Lib.hid hE
      clear hE hN
      go_wp2_with fail
      go_ret
      exact ⟨⟨_, rfl, HE.out⟩, rfl⟩

set_option maxRecDepth 100000 in
set_option maxHeartbeats 1600000 in
theorem Contains_ok (t : Int) (v : Value) (xs : List Int) (w : World) (hv : Ints w v xs) : Calls Try.prog 50 #[v, .int .i64 t] w fun e w' =>
    e = .returned (.bool (hasB xs t)) ∧ w = w' := by
  obtain ⟨A, c, rfl, hc1, hc2⟩ := hv.form
  have hI := sIndex_ok t _ xs w hv
  go_enter Try.func50, Try.ntmps50
  go_wp2_with (go_at_call 53; refine hI.mono ?_; rintro e w' ⟨⟨i, rfl, hi⟩, rfl⟩)
  go_ret
  exact ⟨by rw [← hi]; rfl, rfl⟩

set_option maxRecDepth 100000 in
set_option maxHeartbeats 1600000 in
theorem in_ok (t : Int) (v : Value) (xs : List Int) (w : World) (hv : Ints w v xs) : Calls Try.prog 38 #[v, .int .i64 t] w fun e w' =>
    e = .returned (.bool (hasB xs t)) ∧ w = w' := by
  obtain ⟨A, c, rfl, hc1, hc2⟩ := hv.form
  have hm : xs.length ≤ maxLen := Nat.le_trans hc1 hc2
  unfold maxLen at hm
  go_enter Try.func38, Try.ntmps38
  go_wp2_with fail
  go_loopw [5] (fun p wr => ∃ k : Nat, k ≤ xs.length ∧ p = .int .i64 (k : Int) ∧ wr = w ∧ NotIn xs t k) (fun p _ => xs.length - (intOf p).toNat)
  case atStart => exact ⟨0, Nat.zero_le _, rfl, rfl, by simp [NotIn]⟩
  case round =>
    obtain ⟨k, hk, rfl, rfl, hN⟩ := hrel
    have hk0 : (0 : Int) ≤ (k : Int) := by omega
    by_cases hlt : k < xs.length
    · have hltI : (k : Int) < (xs.length : Int) := by omega
      obtain ⟨x, hx⟩ : ∃ x, xs[k]? = some x := ⟨_, List.getElem?_eq_getElem hlt⟩
      obtain ⟨b, o, rfl, hb, q0⟩ := hv.at_ hx
      by_cases hl : x = t
      · have hl' : (x == t) = true := by simp [hl]
        have hE : hasB xs t = true := by
          unfold hasB
          have hmem := List.mem_of_getElem? hx
          rw [hl] at hmem
          simp [hmem]
        have HE := Lib.hid hE
        clear hx hl hE
        go_wp2_with fail
        exact bodyPost_ret (v := .bool true) (by simp [results, Try.results38, go_sem]) rfl ⟨by rw [HE.out], rfl⟩
      · have hl' : (x == t) = false := by simp; exact hl
        have hN' := notIn_next hN hx hl
        clear hx hl
        go_wp2_with fail
        exact ⟨⟨k + 1, by omega, by go_num, trivial, hN'⟩, by simp [intOf]; omega⟩
    · have hltI : ¬ (k : Int) < (xs.length : Int) := by omega
      have hE : hasB xs t = false := by
        unfold hasB
        unfold NotIn at hN
        rw [List.take_of_length_le (by omega)] at hN
        simp [hN]
      have HE := Lib.hid hE
      clear hE hN
      go_wp2_with fail
      exact bodyPost_ret (v := .bool false) (by simp [results, Try.results38, go_sem]) rfl ⟨by rw [HE.out], rfl⟩

/-- Rising from a number on: the last one. -/
def riseTo : Int → List Int → Option Int
  | l, [] => some l
  | l, t :: r => if t ≤ l then none else riseTo t r
theorem riseTo_append (l : Int) (a b : List Int) : riseTo l (a ++ b) = (riseTo l a).bind fun m => riseTo m b := by
  induction a generalizing l with
  | nil => rfl
  | cons t r ih =>
    simp only [List.cons_append, riseTo]
    split
    · rfl
    · exact ih t
def validB (x : Tn) : Bool := (riseTo (-1) x.runs).isSome && hasB x.runs x.took

theorem rise_bad {xs : List Int} {k : Nat} {t l : Int} (h : riseTo (-1) (xs.take k) = some l) (hx : xs[k]? = some t) (ht : t ≤ l) : riseTo (-1) xs = none := by
  rw [(parts_at hx).1, riseTo_append, h]
  simp [riseTo, ht]
theorem rise_good {xs : List Int} {k : Nat} {t l : Int} (h : riseTo (-1) (xs.take k) = some l) (hx : xs[k]? = some t) (ht : ¬ t ≤ l) : riseTo (-1) (xs.take (k + 1)) = some t := by
  rw [(parts_at hx).2, riseTo_append, h]
  simp [riseTo, ht]
theorem rise_last {xs : List Int} {k : Nat} {l : Int} (hk : k ≤ xs.length) (h : riseTo (-1) (xs.take k) = some l) : -1 ≤ l ∧ ((k = 0 ∧ l = -1) ∨ (0 < k ∧ xs[k - 1]? = some l ∧ 0 ≤ l)) := by
  induction k generalizing l with
  | zero => simp [riseTo] at h; omega
  | succ k ih =>
    obtain ⟨x, hx⟩ : ∃ x, xs[k]? = some x := ⟨_, List.getElem?_eq_getElem (by omega)⟩
    rw [(parts_at hx).2, riseTo_append] at h
    cases hr : riseTo (-1) (xs.take k) with
    | none => rw [hr] at h; simp at h
    | some m =>
      rw [hr] at h
      simp only [Option.bind_some, riseTo] at h
      split at h
      · cases h
      · simp only [Option.some.injEq] at h
        subst h
        have := ih (by omega) hr
        exact ⟨by omega, .inr ⟨by omega, by simpa using hx, by omega⟩⟩

theorem drewN_trans (w : World) (n m : Nat) : (w.drewN n).drewN m = w.drewN (n + m) := by simp

set_option maxRecDepth 100000 in
set_option maxHeartbeats 3200000 in
theorem valid_ok (bv : Nat) (x : Tn) (u a r : Value) (w : World) (hb : Blk w bv 63 #[u, .int .i64 x.took, a, r]) (hi : Ints w u x.runs) : Calls Try.prog 45 #[.pointer (some ⟨bv, 0, none⟩)] w fun e w' =>
    e = .returned (.bool (validB x)) ∧ ∃ n, w' = w.drewN n := by
  obtain ⟨A, c, rfl, hc1, hc2⟩ := hi.form
  have hm : x.runs.length ≤ maxLen := Nat.le_trans hc1 hc2
  unfold maxLen at hm
  have z0 := hb.cell 0
  have z1 := hb.cell 1
  simp at z0 z1
  have HC := Lib.hid (fun n => (Contains_ok x.took _ x.runs (w.drewN n) (hi.kept (drewN_kept w n))))
  go_enter Try.func45, Try.ntmps45
  go_wp2_with fail
  go_loopw [3, 12] (fun l p wr => ∃ (k : Nat) (m : Int), k ≤ x.runs.length ∧ l = .int .i64 m ∧ p = .int .i64 (k : Int) ∧ wr = w ∧ riseTo (-1) (x.runs.take k) = some m) (fun _ p _ => x.runs.length - (intOf p).toNat)
  case atStart => exact ⟨0, -1, Nat.zero_le _, rfl, rfl, rfl, by simp [riseTo]⟩
  case round =>
    obtain ⟨k, m, hk, rfl, rfl, rfl, hN⟩ := hrel
    have hk0 : (0 : Int) ≤ (k : Int) := by omega
    have Hn := Lib.hid hN
    clear hN
    by_cases hlt : k < x.runs.length
    · have hltI : (k : Int) < (x.runs.length : Int) := by omega
      obtain ⟨t, hx⟩ : ∃ t, x.runs[k]? = some t := ⟨_, List.getElem?_eq_getElem hlt⟩
      obtain ⟨b, o, rfl, hbl, q0⟩ := hi.at_ hx
      by_cases hl : t ≤ m
      · have hE : validB x = false := by unfold validB; rw [rise_bad Hn.out hx hl]; rfl
        have HE := Lib.hid hE
        clear hx hE
        go_wp2_with fail
        exact bodyPost_ret (v := .bool false) (by simp [results, Try.results45, go_sem]) rfl ⟨by rw [HE.out], 0, rfl⟩
      · have hN' := rise_good Hn.out hx hl
        have Hn' := Lib.hid hN'
        clear hx hN'
        go_wp2_with fail
        exact ⟨⟨k + 1, t, by omega, rfl, by go_num, trivial, Hn'.out⟩, by simp [intOf]; omega⟩
    · have hltI : ¬ (k : Int) < (x.runs.length : Int) := by omega
      have hE : validB x = hasB x.runs x.took := by
        have := Hn.out
        rw [List.take_of_length_le (by omega)] at this
        unfold validB
        rw [this]
        rfl
      have HE := Lib.hid hE
      clear hE
      go_wp2_with fail
      go_quiet ((go_at_call 50; exact (HC.out _).mono (by rintro e w' ⟨rfl, rfl⟩; exact ⟨rfl, _, rfl⟩)))
      go_wp2_with fail
      exact bodyPost_ret (v := .bool (hasB x.runs x.took)) (by simp [results, Try.results45, go_sem]) rfl ⟨by rw [HE.out], _, rfl⟩
end Go.Proofs.Ytchmoalcjbolbaa
