/- The reference's Fair. -/
import Derived.Test.YtchmoalcjbolbaaFa
import Derived.Test.YtchmoalcjbolbaaMa
namespace Go.Proofs.Ytchmoalcjbolbaa
open Go.RowKit Go.Shelf
attribute [local go_sem] Oper.semAt_some

/-- A thread waits in a turn. -/
def Idle (l : List Tn) (t : Int) (k : Nat) : Prop := ∃ x, l[k]? = some x ∧ t ∈ x.runs ∧ x.took ≠ t
/-- A thread waits in w turns, from turn i on. -/
def Stays (l : List Tn) (t : Int) (i w : Nat) : Prop := ∀ m, m < w → Idle l t (i + m)

theorem waitTo_ge (l : List Tn) (t : Int) : ∀ (j w : Nat), w ≤ waitTo l t j ↔ w ≤ j ∧ Stays l t (j - w) w
  | 0, w => by
    constructor
    · intro h
      have h0 : w = 0 := by simpa [waitTo] using h
      subst h0
      exact ⟨Nat.le_refl _, fun m hm => absurd hm (by omega)⟩
    · rintro ⟨h, _⟩
      omega
  | j + 1, 0 => ⟨fun _ => ⟨by omega, fun m hm => absurd hm (by omega)⟩, fun _ => by omega⟩
  | j + 1, w + 1 => by
    have ih := waitTo_ge l t j w
    have e : j + 1 - (w + 1) = j - w := by omega
    rw [e]
    constructor
    · intro h
      have hi : Idle l t j ∧ w ≤ waitTo l t j := by
        cases hx : l[j]? with
        | none =>
          exfalso
          have : waitTo l t (j + 1) = 0 := by show (match l[j]? with | some x => if t ∈ x.runs ∧ x.took ≠ t then waitTo l t j + 1 else 0 | none => 0) = _; rw [hx]
          omega
        | some x =>
          rw [waitTo_some hx] at h
          split at h
          · rename_i hc
            exact ⟨⟨x, hx, hc⟩, by omega⟩
          · omega
      obtain ⟨h1, h2⟩ := ih.1 hi.2
      refine ⟨by omega, fun m hm => ?_⟩
      rcases Nat.lt_or_ge m w with h3 | h3
      · exact h2 m h3
      · have : j - w + m = j := by omega
        rw [this]; exact hi.1
    · rintro ⟨h1, h2⟩
      have h3 : w ≤ waitTo l t j := ih.2 ⟨by omega, fun m hm => h2 m (by omega)⟩
      obtain ⟨x, hx, hc⟩ := h2 w (by omega)
      have : j - w + w = j := by omega
      rw [this] at hx
      rw [waitTo_some hx, if_pos hc]
      omega

theorem stays_lt {l : List Tn} {t : Int} {i w : Nat} (h : Stays l t i w) (hw : 1 ≤ w) : i + w ≤ l.length := by
  obtain ⟨x, hx, _⟩ := h (w - 1) (by omega)
  have := (List.getElem?_eq_some_iff.1 hx).1
  omega

theorem fairOf_iff {l : List Tn} (hv : AllValid l) (n : Nat) (hn : 1 ≤ n) : fairOf (n : Int) l = true ↔ ∀ i t, ¬ Stays l t i n := by
  have hu := unfair_iff hv (n : Int) (by omega)
  have hb := badAt_none hv
  have e1 : decide ((1 : Int) ≤ (n : Int)) = true := by simp; omega
  unfold fairOf
  rw [hb, e1]
  simp only [Option.isNone_none, Bool.and_self, Bool.true_and, Bool.not_eq_true', decide_eq_false_iff_not]
  rw [hu]
  constructor
  · intro h i t hs
    refine h ⟨i + n, t, stays_lt hs hn, ?_⟩
    have := (waitTo_ge l t (i + n) n).2 ⟨by omega, by rw [Nat.add_sub_cancel]; exact hs⟩
    omega
  · rintro h ⟨j, t, hj, hw⟩
    have := (waitTo_ge l t j n).1 (by omega)
    exact h _ _ this.2

theorem fairOf_bad {l : List Tn} (w : Int) (h : w < 1 ∨ badAt l ≠ none) : fairOf w l = false := by
  unfold fairOf
  rcases h with h | h
  · have : decide (1 ≤ w) = false := by simp; omega
    rw [this]; rfl
  · have : (badAt l).isNone = false := by cases hb : badAt l with
      | none => exact absurd hb h
      | some k => rfl
    rw [this]; simp

theorem badAt_all {l : List Tn} (h : badAt l = none) : AllValid l := by
  unfold badAt at h
  rw [List.findIdx?_eq_none_iff] at h
  intro x hx
  have := h x hx
  simpa using this

def FairPost (wd : Int) (l : List Tn) (w : World) (e : Ending) (w' : World) : Prop := e = .returned (.bool (fairOf wd l)) ∧ Below w.heap.size w w'
def NoWin (l : List Tn) (n i : Nat) : Prop := ∀ i' t, i' < i → ¬ Stays l t i' n
def NoneIn (l : List Tn) (n i k : Nat) (x : Tn) : Prop := ∀ t ∈ x.runs.take k, ¬ Stays l t i n
def AllIn (l : List Tn) (t : Int) (i m : Nat) (a : Bool) : Prop := a = true ↔ ∀ m', m' < m → ∃ x, l[i + m']? = some x ∧ t ∈ x.runs
def SomeTook (l : List Tn) (t : Int) (i m : Nat) (a : Bool) : Prop := a = true ↔ ∃ m', m' < m ∧ ∃ x, l[i + m']? = some x ∧ x.took = t

theorem AllIn.next {l : List Tn} {t : Int} {i m : Nat} {a : Bool} {y : Tn} (h : AllIn l t i m a) (hy : l[i + m]? = some y) : AllIn l t i (m + 1) (a && hasB y.runs t) := by
  unfold AllIn at h ⊢
  rw [Bool.and_eq_true, h]
  constructor
  · rintro ⟨h1, h2⟩ m' hm'
    rcases Nat.lt_or_ge m' m with h3 | h3
    · exact h1 m' h3
    · have : m' = m := by omega
      subst this
      exact ⟨y, hy, by unfold hasB at h2; simpa using h2⟩
  · intro h1
    refine ⟨fun m' hm' => h1 m' (by omega), ?_⟩
    obtain ⟨x, hx, ht⟩ := h1 m (by omega)
    rw [hy] at hx
    cases hx
    unfold hasB
    simpa using ht
theorem SomeTook.next {l : List Tn} {t : Int} {i m : Nat} {a : Bool} {y : Tn} (h : SomeTook l t i m a) (hy : l[i + m]? = some y) : SomeTook l t i (m + 1) (a || (y.took == t)) := by
  unfold SomeTook at h ⊢
  rw [Bool.or_eq_true, h]
  constructor
  · rintro (⟨m', h1, h2⟩ | h2)
    · exact ⟨m', by omega, h2⟩
    · exact ⟨m, by omega, y, hy, by simpa using h2⟩
  · rintro ⟨m', h1, x, hx, ht⟩
    rcases Nat.lt_or_ge m' m with h3 | h3
    · exact .inl ⟨m', h3, x, hx, ht⟩
    · have : m' = m := by omega
      subst this
      rw [hy] at hx
      cases hx
      exact .inr (by simpa using ht)
theorem stays_iff {l : List Tn} {t : Int} {i n : Nat} {a k : Bool} (h1 : AllIn l t i n a) (h2 : SomeTook l t i n k) : Stays l t i n ↔ (a && !k) = true := by
  unfold AllIn at h1
  unfold SomeTook at h2
  rw [Bool.and_eq_true, h1]
  have h3 : (!k) = true ↔ ¬ ∃ m', m' < n ∧ ∃ x, l[i + m']? = some x ∧ x.took = t := by rw [← h2]; cases k <;> simp
  rw [h3]
  constructor
  · intro h
    refine ⟨fun m hm => ?_, ?_⟩
    · obtain ⟨x, hx, h4, _⟩ := h m hm
      exact ⟨x, hx, h4⟩
    · rintro ⟨m, hm, x, hx, h4⟩
      obtain ⟨y, hy, _, h5⟩ := h m hm
      rw [hx] at hy
      cases hy
      exact h5 h4
  · rintro ⟨h4, h5⟩ m hm
    obtain ⟨x, hx, h6⟩ := h4 m hm
    exact ⟨x, hx, h6, fun e => h5 ⟨m, hm, x, hx, e⟩⟩
theorem NoneIn.next {l : List Tn} {n i k : Nat} {x : Tn} {t : Int} (h : NoneIn l n i k x) (ht : x.runs[k]? = some t) (hs : ¬ Stays l t i n) : NoneIn l n i (k + 1) x := by
  unfold NoneIn at h ⊢
  rw [(parts_at ht).2]
  intro s hm
  rcases List.mem_append.1 hm with hm | hm
  · exact h s hm
  · simp at hm; rw [hm]; exact hs
theorem NoWin.next {l : List Tn} {n i : Nat} {x : Tn} (hn : 1 ≤ n) (h : NoWin l n i) (hx : l[i]? = some x) (hk : NoneIn l n i x.runs.length x) : NoWin l n (i + 1) := by
  intro i' t hi' hs
  rcases Nat.lt_or_ge i' i with h3 | h3
  · exact h i' t h3 hs
  · have : i' = i := by omega
    subst this
    obtain ⟨y, hy, h4, _⟩ := hs 0 (by omega)
    rw [Nat.add_zero, hx] at hy
    cases hy
    unfold NoneIn at hk
    rw [List.take_of_length_le (Nat.le_refl _)] at hk
    exact hk t h4 hs
theorem NoWin.all {l : List Tn} {n i : Nat} (hn : 1 ≤ n) (h : NoWin l n i) (hi : ¬ i + n ≤ l.length) : ∀ i' t, ¬ Stays l t i' n := by
  intro i' t hs
  rcases Nat.lt_or_ge i' i with h3 | h3
  · exact h i' t h3 hs
  · have := stays_lt hs hn; omega

set_option maxRecDepth 100000 in
set_option maxHeartbeats 3200000 in
theorem refFair_ok (wd : Int) (v : Value) (l : List Tn) (w : World) (hl : Turns w v l) : Calls Try.prog 19 #[.int .i64 wd, v] w (FairPost wd l w) := by
  obtain ⟨A, c, rfl, hc1, hc2⟩ := hl.form
  have hm : l.length ≤ maxLen := Nat.le_trans hc1 hc2
  unfold maxLen at hm
  have hck := refCheck_ok _ l w hl
  cases hbad : badAt l with
  | some k =>
    have hE : fairOf wd l = false := fairOf_bad wd (.inr (by rw [hbad]; simp))
    have hcE : checkOf l = ((k : Int), 2) := by unfold checkOf; rw [hbad]
    unfold BadPost at hck
    rw [hcE] at hck
    have HE := Lib.hid hE
    clear hE hcE hbad
    go_enter Try.func19, Try.ntmps19
    go_wp2_with (go_at_call 16; refine hck.mono ?_; rintro e w1 ⟨rfl, hb1⟩)
    exact bodyPost_ret (v := .bool false) (by simp [results, Try.results19, go_sem]) rfl ⟨by rw [HE.out], hb1⟩
  | none =>
    have hcE : checkOf l = (0, 0) := by unfold checkOf; rw [hbad]
    unfold BadPost at hck
    rw [hcE] at hck
    clear hcE
    by_cases hw1 : wd < 1
    · have HE := Lib.hid (fairOf_bad (l := l) wd (.inl hw1))
      go_enter Try.func19, Try.ntmps19
      go_wp2_with (go_at_call 16; refine hck.mono ?_; rintro e w1 ⟨rfl, hb1⟩)
      exact bodyPost_ret (v := .bool false) (by simp [results, Try.results19, go_sem]) rfl ⟨by rw [HE.out], hb1⟩
    · obtain ⟨n, rfl⟩ : ∃ n : Nat, wd = (n : Int) := ⟨wd.toNat, by omega⟩
      have hn : 1 ≤ n := by omega
      have hn1 : (1 : Int) ≤ (n : Int) := by omega
      have hv : AllValid l := badAt_all hbad
      have HF := Lib.hid (fairOf_iff hv n hn)
      clear hv hbad hw1
      go_enter Try.func19, Try.ntmps19
      go_wp2_with (go_at_call 16; refine hck.mono ?_; rintro e w1 ⟨rfl, hb1⟩)
      have HB := Lib.hid hb1
      have hl1 := hl.below hb1
      clear hb1 hl hck
      go_loopw [7] (fun p wr => ∃ (i : Nat), i ≤ l.length ∧ p = .int .i64 (i : Int) ∧ w1 = wr ∧ NoWin l n i) (fun p _ => l.length - (intOf p).toNat)
      case atStart => exact ⟨0, Nat.zero_le _, rfl, rfl, fun i' t h => absurd h (by omega)⟩
      case round =>
        obtain ⟨i, hi, rfl, rfl, hN⟩ := hrel
        have hi0 : (0 : Int) ≤ (i : Int) := by omega
        by_cases hlt : i < l.length
        · have hltI : (i : Int) < (l.length : Int) := by omega
          have hwr1 : IntKind.i64.wrap ((l.length : Int) - (i : Int)) = (l.length : Int) - (i : Int) := wrap_small _ (by omega) (by omega)
          by_cases hfit : i + n ≤ l.length
          · have hfitI : (n : Int) ≤ (l.length : Int) - (i : Int) := by omega
            have hwr2 : IntKind.i64.wrap ((i : Int) + (n : Int)) = (i : Int) + (n : Int) := wrap_small _ (by omega) (by omega)
            have hs1 : (i : Int) + (n : Int) ≤ (c : Int) := by omega
            have hs2 : (0 : Int) ≤ (i : Int) + (n : Int) := by omega
            obtain ⟨x, hx⟩ : ∃ x, l[i]? = some x := ⟨_, List.getElem?_eq_getElem hlt⟩
            obtain ⟨b, o, B, m, d, rfl, hbl, q0, q1, q2, q3⟩ := hl1.at_ hx
            obtain ⟨rfl, hxl, hxm⟩ := q1.len
            have Hx := Lib.hid hx
            have HN := Lib.hid hN
            clear hx hN
            have q0' : w1.cell? ⟨b, o + i * 2, none⟩ = some (.slice B x.runs.length d) := q0
            go_wp2_with fail
            rw [Nat.add_sub_cancel_left]
            have hmx : x.runs.length ≤ maxLen := Nat.le_trans hxl hxm
            unfold maxLen at hmx
            go_loopw [9] (fun p wr => ∃ (k : Nat), k ≤ x.runs.length ∧ p = .int .i64 (k : Int) ∧ w1 = wr ∧ NoneIn l n i k x) (fun p _ => x.runs.length - (intOf p).toNat)
            case atStart => exact ⟨0, Nat.zero_le _, rfl, rfl, by simp [NoneIn]⟩
            case round =>
              obtain ⟨k, hk, rfl, rfl, hI⟩ := hrel
              have hk0 : (0 : Int) ≤ (k : Int) := by omega
              by_cases hkl : k < x.runs.length
              · have hklI : (k : Int) < (x.runs.length : Int) := by omega
                obtain ⟨t, ht⟩ : ∃ t, x.runs[k]? = some t := ⟨_, List.getElem?_eq_getElem hkl⟩
                obtain ⟨b2, o2, rfl, hb2, q4⟩ := q1.at_ ht
                have Ht := Lib.hid ht
                have HI := Lib.hid hI
                clear ht hI
                go_wp2_with fail
                have hA0 : AllIn l t i 0 true := by simp [AllIn]
                have hT0 : SomeTook l t i 0 false := by simp [SomeTook]
                go_loopw [11, 12, 13] (fun a q p wr => ∃ (m : Nat) (av tv : Bool), m ≤ n ∧ a = .bool av ∧ q = .bool tv ∧ p = .int .i64 (m : Int) ∧ w1 = wr ∧ AllIn l t i m av ∧ SomeTook l t i m tv) (fun _ _ p _ => n - (intOf p).toNat)
                case atStart => exact ⟨0, true, false, Nat.zero_le _, rfl, rfl, rfl, rfl, hA0, hT0⟩
                case round =>
                  obtain ⟨m, av, tv, hmn, rfl, rfl, rfl, rfl, hA, hT⟩ := hrel
                  clear hA0 hT0
                  have hm0 : (0 : Int) ≤ (m : Int) := by omega
                  by_cases hml : m < n
                  · have hmlI : (m : Int) < (n : Int) := by omega
                    obtain ⟨y, hy⟩ : ∃ y, l[i + m]? = some y := ⟨_, List.getElem?_eq_getElem (by omega)⟩
                    obtain ⟨b', o', B', m', d', e, hbl', p0, p1, p2, p3⟩ := hl1.at_ hy
                    simp only [Option.some.injEq, Addr.mk.injEq, and_true] at e
                    obtain ⟨rfl, rfl⟩ := e
                    have e1 : o + (i + m) * 2 = o + i * 2 + m * 2 := by omega
                    rw [e1] at p0 p2
                    obtain ⟨rfl, hyl, hym⟩ := p1.len
                    have HA := Lib.hid (hA.next hy)
                    have HT := Lib.hid (hT.next hy)
                    have hI := in_ok t _ y.runs w1 p1
                    clear hA hT hy
                    cases av
                    · cases tv
                      · go_wp2_with (go_at_call 38; refine hI.mono ?_; rintro e w' ⟨rfl, rfl⟩)
                        exact ⟨⟨m + 1, _, _, by omega, rfl, rfl, by go_num, trivial, HA.out, HT.out⟩, by simp [intOf]; omega⟩
                      · go_wp2_with (go_at_call 38; refine hI.mono ?_; rintro e w' ⟨rfl, rfl⟩)
                        exact ⟨⟨m + 1, _, _, by omega, rfl, rfl, by go_num, trivial, HA.out, HT.out⟩, by simp [intOf]; omega⟩
                    · cases tv
                      · go_wp2_with (go_at_call 38; refine hI.mono ?_; rintro e w' ⟨rfl, rfl⟩)
                        exact ⟨⟨m + 1, _, _, by omega, rfl, rfl, by go_num, trivial, HA.out, HT.out⟩, by simp [intOf]; omega⟩
                      · go_wp2_with (go_at_call 38; refine hI.mono ?_; rintro e w' ⟨rfl, rfl⟩)
                        exact ⟨⟨m + 1, _, _, by omega, rfl, rfl, by go_num, trivial, HA.out, HT.out⟩, by simp [intOf]; omega⟩
                  · have hmlI : ¬ (m : Int) < (n : Int) := by omega
                    obtain rfl : m = n := by omega
                    have hS := stays_iff hA hT
                    clear hA hT
                    cases av
                    · have HK := Lib.hid (HI.out.next Ht.out (fun h => by have := hS.1 h; simp at this))
                      clear hS
                      go_wp2_with fail
                      exact ⟨⟨k + 1, by omega, by go_num, trivial, HK.out⟩, by simp [intOf]; omega⟩
                    · cases tv
                      · have hE : fairOf (m : Int) l = false := by
                          cases h : fairOf (m : Int) l with
                          | false => rfl
                          | true => exact absurd (hS.2 rfl) (HF.out.1 h i t)
                        have HE := Lib.hid hE
                        clear hS hE
                        go_wp2_with fail
                        exact bodyPost_ret (v := .bool false) (by simp [results, Try.results19, go_sem]) rfl ⟨by rw [HE.out], HB.out⟩
                      · have HK := Lib.hid (HI.out.next Ht.out (fun h => by have := hS.1 h; simp at this))
                        clear hS
                        go_wp2_with fail
                        exact ⟨⟨k + 1, by omega, by go_num, trivial, HK.out⟩, by simp [intOf]; omega⟩
              · have hklI : ¬ (k : Int) < (x.runs.length : Int) := by omega
                obtain rfl : k = x.runs.length := by omega
                have HW := Lib.hid (HN.out.next hn Hx.out hI)
                clear hI
                go_wp2_with fail
                exact ⟨⟨i + 1, by omega, by go_num, trivial, HW.out⟩, by simp [intOf]; omega⟩
          · have hfitI : ¬ (n : Int) ≤ (l.length : Int) - (i : Int) := by omega
            have HE := Lib.hid (HF.out.2 (hN.all hn hfit))
            clear hN
            go_wp2_with fail
            exact bodyPost_ret (v := .bool true) (by simp [results, Try.results19, go_sem]) rfl ⟨by rw [HE.out], HB.out⟩
        · have hltI : ¬ (i : Int) < (l.length : Int) := by omega
          have HE := Lib.hid (HF.out.2 (hN.all hn (by omega)))
          clear hN
          go_wp2_with fail
          exact bodyPost_ret (v := .bool true) (by simp [results, Try.results19, go_sem]) rfl ⟨by rw [HE.out], HB.out⟩
end Go.Proofs.Ytchmoalcjbolbaa
