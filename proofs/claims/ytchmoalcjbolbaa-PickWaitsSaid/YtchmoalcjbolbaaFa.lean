/- The reference's Check, and few. -/
import Derived.Test.YtchmoalcjbolbaaH
namespace Go.Proofs.Ytchmoalcjbolbaa
open Go.RowKit Go.Shelf
attribute [local go_sem] Oper.semAt_some

theorem belowN {n : Nat} {w W : World} (h : Below n w W) (m : Nat) : Below n w (W.drewN m) := ⟨h.os, h.tape, h.output, h.size, h.block⟩

def FewTo (l : List Tn) (k : Nat) : Prop := ∀ x ∈ l.take k, x.runs.length ≤ 12
theorem FewTo.next {l : List Tn} {k : Nat} {x : Tn} (h : FewTo l k) (hx : l[k]? = some x) (hl : x.runs.length ≤ 12) : FewTo l (k + 1) := by
  unfold FewTo at h ⊢
  rw [(parts_at hx).2]
  intro y hy
  rcases List.mem_append.1 hy with hy | hy
  · exact h y hy
  · simp at hy; rw [hy]; exact hl

def FewPost (l : List Tn) (e : Ending) : Prop := ∃ b, e = .returned (.bool b) ∧ (b = true → l.length ≤ 25 ∧ ∀ x ∈ l, x.runs.length ≤ 12)

set_option maxRecDepth 100000 in
set_option maxHeartbeats 3200000 in
theorem few_ok (v : Value) (l : List Tn) (w : World) (hl : Turns w v l) : Calls Try.prog 14 #[v, .int .i64 25] w fun e w' =>
    FewPost l e ∧ w = w' := by
  obtain ⟨A, c, rfl, hc1, hc2⟩ := hl.form
  have hm : l.length ≤ maxLen := Nat.le_trans hc1 hc2
  unfold maxLen at hm
  go_enter Try.func14, Try.ntmps14
  go_wp2_with fail
  go_loopw [5] (fun p wr => ∃ (k : Nat), k ≤ l.length ∧ k ≤ 26 ∧ p = .int .i64 (k : Int) ∧ wr = w ∧ FewTo l k) (fun p _ => l.length - (intOf p).toNat)
  case atStart => exact ⟨0, Nat.zero_le _, by omega, rfl, rfl, by simp [FewTo]⟩
  case round =>
    obtain ⟨k, hk, hk26, rfl, rfl, hF⟩ := hrel
    have hk0 : (0 : Int) ≤ (k : Int) := by omega
    by_cases hlt : k < l.length
    · have hltI : (k : Int) < (l.length : Int) := by omega
      by_cases h25 : k ≤ 25
      · have h25I : (k : Int) ≤ 25 := by omega
        obtain ⟨x, hx⟩ : ∃ x, l[k]? = some x := ⟨_, List.getElem?_eq_getElem hlt⟩
        obtain ⟨b, o, B, m, d, rfl, hbl, q0, q1, q2, q3⟩ := hl.at_ hx
        obtain ⟨rfl, hxl, hxm⟩ := q1.len
        by_cases h12 : 12 < x.runs.length
        · have h12I : (12 : Int) < (x.runs.length : Int) := by omega
          clear hx
          go_wp2_with fail
          go_ret
          exact ⟨⟨false, rfl, by intro h; cases h⟩, rfl⟩
        · have h12I : ¬ (12 : Int) < (x.runs.length : Int) := by omega
          have hN := hF.next hx (by omega)
          clear hx hF
          go_wp2_with fail
          exact ⟨⟨k + 1, by omega, by omega, by go_num, trivial, hN⟩, by simp [intOf]; omega⟩
      · have h25I : ¬ (k : Int) ≤ 25 := by omega
        have hlI : ¬ (l.length : Int) ≤ 25 := by omega
        clear hF
        go_wp2_with fail
        go_ret
        exact ⟨⟨false, rfl, by intro h; cases h⟩, rfl⟩
    · have hltI : ¬ (k : Int) < (l.length : Int) := by omega
      have hR : l.length ≤ 25 → ∀ x ∈ l, x.runs.length ≤ 12 := by
        intro _
        unfold FewTo at hF
        rwa [List.take_of_length_le (by omega)] at hF
      have HR := Lib.hid hR
      clear hR hF
      by_cases hl25 : l.length ≤ 25
      · have hlI : (l.length : Int) ≤ 25 := by omega
        go_wp2_with fail
        go_ret
        exact ⟨⟨true, rfl, fun _ => ⟨hl25, HR.out hl25⟩⟩, rfl⟩
      · have hlI : ¬ (l.length : Int) ≤ 25 := by omega
        go_wp2_with fail
        go_ret
        exact ⟨⟨false, rfl, by intro h; cases h⟩, rfl⟩

set_option maxRecDepth 100000 in
set_option maxHeartbeats 3200000 in
theorem Right_ok (x : Tn) (u : Value) (w : World) (hi : Ints w u x.runs) : Calls Try.prog 34 #[.agg #[u, .int .i64 x.took]] w fun e w' =>
    e = .returned (.bool (validB x)) ∧ Below w.heap.size w w' := by
  obtain ⟨A, c, rfl, hc1, hc2⟩ := hi.form
  have hm : x.runs.length ≤ maxLen := Nat.le_trans hc1 hc2
  unfold maxLen at hm
  go_enter Try.func34, Try.ntmps34
  go_wp2_with fail
  obtain ⟨g, hg⟩ : ∃ g, w.heap.size = g := ⟨_, rfl⟩
  have hB1 : Below w.heap.size w (w.alloc (.cells #[.slice A x.runs.length c, .int .i64 x.took] 57)) := (Below.refl _ w).alloc (Nat.le_refl _) _
  have hi1 := hi.alloc (.cells #[.slice A x.runs.length c, .int .i64 x.took] 57)
  have hk1 := Blk.new w 57 #[.slice A x.runs.length c, .int .i64 x.took]
  rw [hg] at hk1
  try rw [hg]
  have z0 := hk1.cell 0
  have z1 := hk1.cell 1
  simp at z0 z1
  generalize w.alloc (.cells #[.slice A x.runs.length c, .int .i64 x.took] 57) = w1 at *
  have HB := Lib.hid hB1
  have HC := Lib.hid (fun n => (in_ok x.took _ x.runs (w1.drewN n) (hi1.kept (drewN_kept w1 n))))
  clear hk1 hB1
  go_loopw [3] (fun p wr => ∃ (k n : Nat) (m : Int), k ≤ x.runs.length ∧ p = .int .i64 (k : Int) ∧ wr = w1.drewN n ∧ riseTo (-1) (x.runs.take k) = some m) (fun p _ => x.runs.length - (intOf p).toNat)
  case atStart => exact ⟨0, 0, -1, Nat.zero_le _, rfl, rfl, by simp [riseTo]⟩
  case round =>
    obtain ⟨k, n, m, hk, rfl, rfl, hN⟩ := hrel
    have hk0 : (0 : Int) ≤ (k : Int) := by omega
    have Hn := Lib.hid hN
    have hlast := rise_last hk hN
    clear hN
    by_cases hlt : k < x.runs.length
    · have hltI : (k : Int) < (x.runs.length : Int) := by omega
      obtain ⟨t, hx⟩ : ∃ t, x.runs[k]? = some t := ⟨_, List.getElem?_eq_getElem hlt⟩
      obtain ⟨b, o, rfl, hbl, q0⟩ := hi1.at_ hx
      by_cases ht0 : t < 0
      · have hE : validB x = false := by unfold validB; rw [rise_bad Hn.out hx (by omega)]; rfl
        have HE := Lib.hid hE
        clear hx hE hlast
        go_wp2_with fail
        go_quiet (fail)
        go_wp2_with fail
        exact bodyPost_ret (v := .bool false) (by simp [results, Try.results34, go_sem]) rfl ⟨by rw [HE.out], by first | exact belowN HB.out _ | exact belowN (belowN HB.out _) _⟩
      · rcases hlast with ⟨_, ⟨hk00, hm1⟩ | ⟨hkp, hprev, hm0⟩⟩
        · have hd1 : decide (t < 0) = false := by simp; omega
          have hd2 : decide (0 < k) = false := by simp; omega
          have hN' := rise_good Hn.out hx (by omega)
          have Hn' := Lib.hid hN'
          clear hx hN' hk00 hm1
          go_wp2_with fail
          go_quiet (fail)
          go_wp2_with fail
          exact ⟨⟨k + 1, n + nq, t, by omega, by go_num, by simp, Hn'.out⟩, by simp [intOf]; omega⟩
        · have hkp1 : (0 : Int) < (k : Int) := by omega
          have hk1 : (0 : Int) ≤ (k : Int) - 1 := by omega
          have hk3 : (1 : Int) ≤ (k : Int) := by omega
          have hk4 : ¬ (k : Int) < 1 := by omega
          have hk5 : ¬ (k : Int) - 1 < 0 := by omega
          have hk2 : (k : Int) - 1 < (x.runs.length : Int) := by omega
          have hwr : IntKind.i64.wrap ((k : Int) - 1) = (k : Int) - 1 := wrap_small _ (by omega) (by omega)
          obtain ⟨b', o', e, hbl', q1⟩ := hi1.at_ hprev
          simp only [Option.some.injEq, Addr.mk.injEq, and_true] at e
          obtain ⟨rfl, rfl⟩ := e
          by_cases hl : t ≤ m
          · have hE : validB x = false := by unfold validB; rw [rise_bad Hn.out hx hl]; rfl
            have HE := Lib.hid hE
            clear hx hE hprev
            go_wp2_with fail
            go_quiet (fail)
            go_wp2_with fail
            exact bodyPost_ret (v := .bool false) (by simp [results, Try.results34, go_sem]) rfl ⟨by rw [HE.out], by first | exact belowN HB.out _ | exact belowN (belowN HB.out _) _⟩
          · have hN' := rise_good Hn.out hx hl
            have Hn' := Lib.hid hN'
            clear hx hN' hprev
            go_wp2_with fail
            go_quiet (fail)
            go_wp2_with fail
            exact ⟨⟨k + 1, n + nq, t, by omega, by go_num, by simp, Hn'.out⟩, by simp [intOf]; omega⟩
    · have hltI : ¬ (k : Int) < (x.runs.length : Int) := by omega
      have hE : validB x = hasB x.runs x.took := by
        have := Hn.out
        rw [List.take_of_length_le (by omega)] at this
        unfold validB
        rw [this]
        rfl
      have HE := Lib.hid hE
      clear hE hlast
      go_wp2_with (go_at_call 38; refine (HC.out _).mono ?_; rintro e w' ⟨rfl, rfl⟩)
      exact bodyPost_ret (v := .bool (hasB x.runs x.took)) (by simp [results, Try.results34, go_sem]) rfl ⟨by rw [HE.out], by first | exact belowN HB.out _ | exact belowN (belowN HB.out _) _⟩

def BadPost (l : List Tn) (w : World) (e : Ending) (w' : World) : Prop := e = .returned (.tuple #[.int .i64 (checkOf l).1, .int .i64 (checkOf l).2]) ∧ Below w.heap.size w w'
def GoodTo (l : List Tn) (k : Nat) : Prop := ∀ x ∈ l.take k, validB x = true
theorem GoodTo.next {l : List Tn} {k : Nat} {x : Tn} (h : GoodTo l k) (hx : l[k]? = some x) (hl : validB x = true) : GoodTo l (k + 1) := by
  unfold GoodTo at h ⊢
  rw [(parts_at hx).2]
  intro y hy
  rcases List.mem_append.1 hy with hy | hy
  · exact h y hy
  · simp at hy; rw [hy]; exact hl
theorem GoodTo.bad {l : List Tn} {k : Nat} {x : Tn} (h : GoodTo l k) (hx : l[k]? = some x) (hl : validB x = false) : checkOf l = ((k : Int), 2) := by
  have hb : badAt l = some k := by
    unfold badAt
    rw [List.findIdx?_eq_some_iff_getElem]
    have hlt : k < l.length := (List.getElem?_eq_some_iff.1 hx).1
    refine ⟨hlt, ?_, fun j hj => ?_⟩
    · rw [(List.getElem?_eq_some_iff.1 hx).2, hl]; rfl
    · have := h (l[j]'(by omega)) (by
        refine List.mem_iff_getElem?.2 ⟨j, ?_⟩
        rw [List.getElem?_take_of_lt hj]
        exact List.getElem?_eq_getElem (by omega))
      simp [this]
  unfold checkOf
  rw [hb]
theorem GoodTo.all {l : List Tn} {k : Nat} (h : GoodTo l k) (hk : l.length ≤ k) : checkOf l = (0, 0) := by
  unfold GoodTo at h
  rw [List.take_of_length_le hk] at h
  unfold checkOf
  rw [badAt_none h]

set_option maxRecDepth 100000 in
set_option maxHeartbeats 3200000 in
theorem refCheck_ok (v : Value) (l : List Tn) (w : World) (hl : Turns w v l) : Calls Try.prog 16 #[v] w (BadPost l w) := by
  obtain ⟨A, c, rfl, hc1, hc2⟩ := hl.form
  have hm : l.length ≤ maxLen := Nat.le_trans hc1 hc2
  unfold maxLen at hm
  go_enter Try.func16, Try.ntmps16
  go_wp2_with fail
  go_loopw [4] (fun p wr => ∃ (k : Nat), k ≤ l.length ∧ p = .int .i64 (k : Int) ∧ Below w.heap.size w wr ∧ GoodTo l k) (fun p _ => l.length - (intOf p).toNat)
  case atStart => exact ⟨0, Nat.zero_le _, rfl, Below.refl _ _, by simp [GoodTo]⟩
  case round =>
    obtain ⟨k, hk, rfl, hB, hG⟩ := hrel
    have hk0 : (0 : Int) ≤ (k : Int) := by omega
    have HB := Lib.hid hB
    have hl1 := hl.below hB
    clear hB
    by_cases hlt : k < l.length
    · have hltI : (k : Int) < (l.length : Int) := by omega
      obtain ⟨x, hx⟩ : ∃ x, l[k]? = some x := ⟨_, List.getElem?_eq_getElem hlt⟩
      obtain ⟨b, o, B, m, d, rfl, hbl, q0, q1, q2, q3⟩ := hl1.at_ hx
      have hR := Right_ok x _ wr q1
      cases hv : validB x
      · rw [hv] at hR
        have HE := Lib.hid (hG.bad hx hv)
        clear hx hG hv
        go_wp2_with (go_at_call 34; refine hR.mono ?_; rintro e w1 ⟨rfl, hb1⟩)
        exact bodyPost_ret (v := .tuple #[.int .i64 (k : Int), .int .i64 2]) (by simp [results, Try.results16, go_sem]) rfl ⟨by rw [HE.out], HB.out.trans (hb1.mono HB.out.size)⟩
      · rw [hv] at hR
        have HG := Lib.hid (hG.next hx hv)
        clear hx hG hv
        go_wp2_with (go_at_call 34; refine hR.mono ?_; rintro e w1 ⟨rfl, hb1⟩)
        exact ⟨⟨k + 1, by omega, by go_num, HB.out.trans (hb1.mono HB.out.size), HG.out⟩, by simp [intOf]; omega⟩
    · have hltI : ¬ (k : Int) < (l.length : Int) := by omega
      have HE := Lib.hid (hG.all (by omega))
      clear hG
      go_wp2_with fail
      exact bodyPost_ret (v := .tuple #[.int .i64 0, .int .i64 0]) (by simp [results, Try.results16, go_sem]) rfl ⟨by rw [HE.out], HB.out⟩
end Go.Proofs.Ytchmoalcjbolbaa
