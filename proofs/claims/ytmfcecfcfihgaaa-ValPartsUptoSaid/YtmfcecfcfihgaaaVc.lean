/- choices, eventAndArguments. -/
import Derived.Test.YtmfcecfcfihgaaaVb
namespace Go.Proofs.Ytmfcecfcfihgaaa
open Go.RowKit Go.Shelf
attribute [local go_sem] Oper.semAt_some

def intOf : Value → Int
  | .int _ n => n
  | _ => 0
theorem below_step {w w' wr : World} (h : Below w.heap.size w wr) (h' : Below wr.heap.size wr w') : Below w.heap.size w w' := h.trans (h'.mono h.size)
def NonNeg (i : Int) : Bool := decide (0 ≤ i)
def AllEv (l : List V) (k : Nat) : Prop := ∀ i x, i < k → l[i]? = some x → evB x.k = true
theorem allEv_next {l : List V} {k : Nat} {x : V} (h : AllEv l k) (hx : l[k]? = some x) (he : evB x.k = true) : AllEv l (k + 1) := by
  intro i y hi hy
  rcases Nat.lt_or_eq_of_le (Nat.le_of_lt_succ hi) with h1 | h1
  · exact h i y h1 hy
  · subst h1; rw [hx] at hy; cases hy; exact he
theorem allEv_all {l : List V} (h : AllEv l l.length) : (l.all fun x => evB x.k) = true := by
  rw [List.all_eq_true]
  intro x hx
  obtain ⟨i, hi, rfl⟩ := List.mem_iff_getElem.1 hx
  exact h i _ hi (List.getElem?_eq_getElem hi)
theorem not_all {l : List V} {k : Nat} {x : V} (hx : l[k]? = some x) (he : evB x.k = false) : (l.all fun x => evB x.k) = false := by
  rw [List.all_eq_false]
  exact ⟨x, List.mem_of_getElem? hx, by simp [he]⟩

set_option maxRecDepth 100000 in
set_option maxHeartbeats 1600000 in
theorem IndexFunc_ok {lo hi : Nat} {A : Option Addr} {n c : Nat} {l : List V} (w : World) (h : Ls w lo hi (.slice A n c) l) (hh : hi ≤ w.heap.size) :
    Calls Try.prog 209 #[.slice A n c, .func (.func 197) #[] #[]] w fun e w' => (∃ i : Int, e = .returned (.int .i64 i) ∧ NonNeg i = !(l.all fun x => evB x.k)) ∧ Below w.heap.size w w' := by
  obtain ⟨rfl, hc1, hc2⟩ := h.len
  have hm : l.length ≤ maxLen := Nat.le_trans hc1 hc2
  unfold maxLen at hm
  go_enter Try.func209, Try.ntmps209
  go_wp2_with fail
  go_loopw [8] (fun p wr => ∃ k : Nat, k ≤ l.length ∧ p = .int .i64 (k : Int) ∧ Below w.heap.size w wr ∧ AllEv l k) (fun p _ => l.length - (intOf p).toNat)
  case atStart => exact ⟨0, Nat.zero_le _, rfl, Below.refl _ w, by intro i x hi; omega⟩
  case round =>
    obtain ⟨k, hk, rfl, hB, hN⟩ := hrel
    have hk0 : (0 : Int) ≤ (k : Int) := by omega
    by_cases hlt : k < l.length
    · have hltI : (k : Int) < (l.length : Int) := by omega
      obtain ⟨x, hx⟩ : ∃ x, l[k]? = some x := ⟨_, List.getElem?_eq_getElem hlt⟩
      obtain ⟨b, o, s, rfl, hb, _, _, q0, q1, q2, _⟩ := (h.after (hB.mono hh)).at_ hx
      have hcall := choices1_ok x.k x.n s wr
      cases he : evB x.k
      · rw [he] at hcall
        have hE : NonNeg (k : Int) = !(l.all fun x => evB x.k) := by
          rw [not_all hx he]; unfold NonNeg; simp
        have HE := Lib.hid hE
        have HB := Lib.hid hB
        clear hx he hE hB h hN
        go_wp2_with (go_at_call 197; refine hcall.mono ?_; rintro e w' ⟨rfl, hB'⟩)
        go_ret
        exact ⟨⟨_, rfl, HE.out⟩, below_step HB.out hB'⟩
      · rw [he] at hcall
        have hN' := Lib.hid (allEv_next hN hx he)
        have HB := Lib.hid hB
        clear hx he hB h hN
        go_wp2_with (go_at_call 197; refine hcall.mono ?_; rintro e w' ⟨rfl, hB'⟩)
        exact ⟨⟨k + 1, by omega, by go_num, below_step HB.out hB', hN'.out⟩, by simp [intOf]; omega⟩
    · have hltI : ¬ (k : Int) < (l.length : Int) := by omega
      have hE : NonNeg (-1 : Int) = !(l.all fun x => evB x.k) := by
        obtain rfl : k = l.length := by omega
        rw [allEv_all hN]; rfl
      have HE := Lib.hid hE
      have HB := Lib.hid hB
      clear hE hN h hB
      go_wp2_with fail
      go_ret
      exact ⟨⟨_, rfl, HE.out⟩, HB.out⟩

set_option maxRecDepth 100000 in
set_option maxHeartbeats 1600000 in
theorem ContainsFunc_ok {lo hi : Nat} {A : Option Addr} {n c : Nat} {l : List V} (w : World) (h : Ls w lo hi (.slice A n c) l) (hh : hi ≤ w.heap.size) :
    Calls Try.prog 196 #[.slice A n c, .func (.func 197) #[] #[]] w fun e w' => e = .returned (.bool (!(l.all fun x => evB x.k))) ∧ Below w.heap.size w w' := by
  have h1 := IndexFunc_ok w h hh
  generalize (!(l.all fun x => evB x.k)) = z at h1 ⊢
  go_enter Try.func196, Try.ntmps196
  go_wp2_with (go_at_call 209; refine h1.mono ?_; rintro e w' ⟨⟨i, rfl, hi⟩, hB⟩)
  go_ret
  exact ⟨says_end hi, hB⟩

set_option maxRecDepth 100000 in
set_option maxHeartbeats 1600000 in
theorem choices_ok {lo hi : Nat} {A : Option Addr} {n c : Nat} {l : List V} (w : World) (h : Ls w lo hi (.slice A n c) l) (hh : hi ≤ w.heap.size) :
    Calls Try.prog 183 #[.slice A n c] w fun e w' => e = .returned (.bool (choB l)) ∧ Below w.heap.size w w' := by
  have h1 := ContainsFunc_ok w h hh
  obtain ⟨rfl, hc1, hc2⟩ := h.len
  unfold choB
  generalize hz : (l.all fun x => evB x.k) = z at h1 ⊢
  by_cases hl : l.length ≤ 16
  · have hlI : (l.length : Int) ≤ 16 := by omega
    simp only [hl, decide_true, Bool.true_and]
    clear hz h hl
    go_enter Try.func183, Try.ntmps183
    go_wp2_with (go_at_call 196; refine h1.mono ?_; rintro e w' ⟨rfl, hB⟩)
    go_ret
    exact ⟨says_end (by simp), hB⟩
  · have hlI : ¬ (l.length : Int) ≤ 16 := by omega
    simp only [hl, decide_false, Bool.false_and]
    clear hz h hl
    go_enter Try.func183, Try.ntmps183
    go_wp2_with fail
    go_ret
    exact ⟨rfl, Below.refl _ w⟩

set_option maxRecDepth 100000 in
set_option maxHeartbeats 1600000 in
theorem eventAndArguments_ok {lo hi : Nat} {A : Option Addr} {n c : Nat} {l : List V} (w : World) (h : Ls w lo hi (.slice A n c) l) (_hh : hi ≤ w.heap.size) :
    Calls Try.prog 185 #[.slice A n c] w fun e w' => e = .returned (.bool (evArgB l)) ∧ Below w.heap.size w w' := by
  obtain ⟨rfl, hc1, hc2⟩ := h.len
  unfold maxLen at hc2
  cases l with
  | nil =>
    have hE : evArgB [] = false := rfl
    rw [hE]
    clear hE h
    simp only [List.length_nil]
    go_enter Try.func185, Try.ntmps185
    go_wp2_with fail
    go_ret
    exact ⟨rfl, Below.refl _ w⟩
  | cons x xs =>
    obtain ⟨b, o, s, rfl, hb, _, _, q0, q1, q2, _⟩ := h.at_ (i := 0) (x := x) rfl
    simp at q0 q1 q2
    have h1 := event_ok x.k x.n s
    have hE : evArgB (x :: xs) = (evB x.k && decide (xs.length ≤ 8)) := rfl
    rw [hE]
    clear hE h
    generalize evB x.k = z at h1 ⊢
    simp only [List.length_cons] at hc1 ⊢
    obtain ⟨m, hm⟩ : ∃ m, xs.length = m := ⟨_, rfl⟩
    rw [hm] at hc1 ⊢
    clear hm
    have hmI : (0 : Int) < (m : Int) + 1 := by omega
    have hcI : (m : Int) + 1 ≤ (c : Int) := by omega
    have hm1 : (1 : Int) ≤ (m : Int) + 1 := by omega
    go_enter Try.func185, Try.ntmps185
    cases z
    · go_wp2_with (first | (go_at_call 124; refine (h1 _).mono ?_; rintro e w' ⟨rfl, hB⟩))
      go_ret
      exact ⟨rfl, hB⟩
    · have h2 := arguments_ok
      unfold Says at h2
      go_wp2_with (first | (go_at_call 124; refine (h1 _).mono ?_; rintro e w' ⟨rfl, hB⟩) | (go_at_call 186; refine (h2 _ _ _ _).mono ?_; rintro e w' ⟨rfl, rfl⟩))
      all_goals
        go_ret
        exact ⟨rfl, hB⟩
end Go.Proofs.Ytmfcecfcfihgaaa
