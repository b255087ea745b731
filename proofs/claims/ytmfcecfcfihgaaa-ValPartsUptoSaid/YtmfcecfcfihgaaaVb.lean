/- The shapes' small functions. -/
import Derived.Test.YtmfcecfcfihgaaaVa
import Derived.BigRegion
import Derived.BigQuiet
import Derived.WalkSmall
import Derived.Recover
import Derived.Defers
import Derived.Tactics2
namespace Go.Proofs.Ytmfcecfcfihgaaa
open Go.RowKit Go.Shelf
attribute [local go_sem] Oper.semAt_some

/-- A function that answers a bool and turns nothing. -/
def Says (P : Program) (f : Nat) (args : Array Value) (w : World) (b : Bool) : Prop := Calls P f args w fun e w' => e = .returned (.bool b) ∧ w = w'




theorem says_end {a b : Bool} (h : a = b) : Ending.returned (.bool a) = Ending.returned (.bool b) := by rw [h]

set_option maxRecDepth 100000 in
theorem zero_ok (n : Int) (w : World) : Says Try.prog 175 #[.int .i64 n] w (n == 0) := by
  unfold Says
  go_enter Try.func175, Try.ntmps175
  go_wp2_with fail
  all_goals
    go_ret
    exact ⟨says_end (by first | rfl | (rw [Bool.eq_iff_iff]; simp; done) | (rw [Bool.eq_iff_iff]; simp; omega) | (rw [Bool.eq_iff_iff]; simp_all; done) | (rw [Bool.eq_iff_iff]; simp_all; omega)), rfl⟩

set_option maxRecDepth 100000 in
theorem whatever_ok (n : Int) (w : World) : Says Try.prog 177 #[.int .i64 n] w (true) := by
  unfold Says
  go_enter Try.func177, Try.ntmps177
  go_wp2_with fail
  all_goals
    go_ret
    exact ⟨says_end (by first | rfl | (rw [Bool.eq_iff_iff]; simp; done) | (rw [Bool.eq_iff_iff]; simp; omega) | (rw [Bool.eq_iff_iff]; simp_all; done) | (rw [Bool.eq_iff_iff]; simp_all; omega)), rfl⟩

set_option maxRecDepth 100000 in
theorem natural_ok (n : Int) (w : World) : Says Try.prog 179 #[.int .i64 n] w (decide (0 ≤ n)) := by
  unfold Says
  go_enter Try.func179, Try.ntmps179
  go_wp2_with fail
  all_goals
    go_ret
    exact ⟨says_end (by first | rfl | (rw [Bool.eq_iff_iff]; simp; done) | (rw [Bool.eq_iff_iff]; simp; omega) | (rw [Bool.eq_iff_iff]; simp_all; done) | (rw [Bool.eq_iff_iff]; simp_all; omega)), rfl⟩

set_option maxRecDepth 100000 in
theorem function_ok (n : Int) (w : World) : Says Try.prog 184 #[.int .i64 n] w (decide (0 ≤ n) && decide (n < 64)) := by
  unfold Says
  go_enter Try.func184, Try.ntmps184
  go_wp2_with fail
  all_goals
    go_ret
    exact ⟨says_end (by first | rfl | (rw [Bool.eq_iff_iff]; simp; done) | (rw [Bool.eq_iff_iff]; simp; omega) | (rw [Bool.eq_iff_iff]; simp_all; done) | (rw [Bool.eq_iff_iff]; simp_all; omega)), rfl⟩

set_option maxRecDepth 100000 in
theorem none_ok (A : Option Addr) (n c : Nat) (w : World) : Says Try.prog 176 #[.slice A n c] w (n == 0) := by
  unfold Says
  go_enter Try.func176, Try.ntmps176
  go_wp2_with fail
  all_goals
    go_ret
    exact ⟨says_end (by first | rfl | (rw [Bool.eq_iff_iff]; simp; done) | (rw [Bool.eq_iff_iff]; simp; omega) | (rw [Bool.eq_iff_iff]; simp_all; done) | (rw [Bool.eq_iff_iff]; simp_all; omega)), rfl⟩

set_option maxRecDepth 100000 in
theorem one_ok (A : Option Addr) (n c : Nat) (w : World) : Says Try.prog 182 #[.slice A n c] w (n == 1) := by
  unfold Says
  go_enter Try.func182, Try.ntmps182
  go_wp2_with fail
  all_goals
    go_ret
    exact ⟨says_end (by first | rfl | (rw [Bool.eq_iff_iff]; simp; done) | (rw [Bool.eq_iff_iff]; simp; omega) | (rw [Bool.eq_iff_iff]; simp_all; done) | (rw [Bool.eq_iff_iff]; simp_all; omega)), rfl⟩

set_option maxRecDepth 100000 in
theorem two_ok (A : Option Addr) (n c : Nat) (w : World) : Says Try.prog 178 #[.slice A n c] w (n == 2) := by
  unfold Says
  go_enter Try.func178, Try.ntmps178
  go_wp2_with fail
  all_goals
    go_ret
    exact ⟨says_end (by first | rfl | (rw [Bool.eq_iff_iff]; simp; done) | (rw [Bool.eq_iff_iff]; simp; omega) | (rw [Bool.eq_iff_iff]; simp_all; done) | (rw [Bool.eq_iff_iff]; simp_all; omega)), rfl⟩

set_option maxRecDepth 100000 in
theorem arguments_ok (A : Option Addr) (n c : Nat) (w : World) : Says Try.prog 186 #[.slice A n c] w (decide (n ≤ 8)) := by
  unfold Says
  go_enter Try.func186, Try.ntmps186
  go_wp2_with fail
  all_goals
    go_ret
    exact ⟨says_end (by first | rfl | (rw [Bool.eq_iff_iff]; simp; done) | (rw [Bool.eq_iff_iff]; simp; omega) | (rw [Bool.eq_iff_iff]; simp_all; done) | (rw [Bool.eq_iff_iff]; simp_all; omega)), rfl⟩


/-! ### The shapes, on data -/
def evB (k : Int) : Bool := decide (5 ≤ k) && decide (k ≤ 13)
def chanB : List V → Bool
  | [x] => x.k == 4
  | _ => false
def chan1B : List V → Bool
  | [x, _] => x.k == 4
  | _ => false
def choB (l : List V) : Bool := decide (l.length ≤ 16) && l.all fun x => evB x.k
def evArgB : List V → Bool
  | x :: xs => evB x.k && decide (xs.length ≤ 8)
  | [] => false

section
variable {W W' : World} {lo hi lo' hi' : Nat} {v s : Value} {T : V} {l : List V}
theorem Ls.take {A : Option Addr} {n c : Nat} (h : Ls W lo hi (.slice A n c) l) (m d : Nat) (hm : m ≤ n) (hd : m ≤ d) (hdc : d ≤ c) : Ls W lo hi (.slice A m d) (l.take m) := by
  obtain ⟨rfl, _, _⟩ := h.len
  obtain ⟨A', c', b, o, f, hv, h1, h2, hA, hc, hR⟩ := h.ex
  simp only [Value.slice.injEq] at hv
  obtain ⟨rfl, _, rfl⟩ := hv
  have e : (l.take m).length = m := by rw [List.length_take]; omega
  refine ⟨A, d, b, o, f, by rw [e], by omega, by omega, fun hne => hA (by rintro rfl; simp at hne), fun i hi' => hc i (by omega), fun i x hx => ?_⟩
  rw [List.getElem?_take] at hx
  split at hx
  · exact hR i x hx
  · cases hx
end

set_option maxRecDepth 100000 in
theorem event_ok (k n : Int) (s : Value) (w : World) : Calls Try.prog 124 #[.agg #[.int .i64 k, .int .i64 n, s]] w fun e w' => e = .returned (.bool (evB k)) ∧ Below w.heap.size w w' := by
  go_enter Try.func124, Try.ntmps124
  go_wp2_with fail
  all_goals
    go_ret
    exact ⟨says_end (by unfold evB; first | rfl | (rw [Bool.eq_iff_iff]; simp; done) | (rw [Bool.eq_iff_iff]; simp; omega) | (rw [Bool.eq_iff_iff]; simp_all; done) | (rw [Bool.eq_iff_iff]; simp_all; omega)), (Below.refl _ w).alloc (Nat.le_refl _) _⟩

set_option maxRecDepth 100000 in
theorem channel_ok {lo hi : Nat} {A : Option Addr} {n c : Nat} {l : List V} (w : World) (h : Ls w lo hi (.slice A n c) l) : Says Try.prog 181 #[.slice A n c] w (chanB l) := by
  unfold Says
  obtain ⟨rfl, hc1, hc2⟩ := h.len
  have h1 := one_ok A l.length c
  unfold Says at h1
  by_cases hl : l.length = 1
  · obtain ⟨x, rfl⟩ : ∃ x, l = [x] := by
      match l, hl with
      | [x], _ => exact ⟨x, rfl⟩
    obtain ⟨b, o, s, rfl, hb, _, _, q0, q1, q2, _⟩ := h.at_ (i := 0) (x := x) rfl
    simp at q0 hc1
    have hcI : (1 : Int) ≤ (c : Int) := by omega
    have hE : chanB [x] = (x.k == 4) := rfl
    rw [hE]
    clear hE
    simp only [List.length_cons, List.length_nil, Nat.zero_add] at h1 ⊢
    go_enter Try.func181, Try.ntmps181
    go_wp2_with (go_at_call 182; refine (h1 _).mono ?_; rintro e w' ⟨rfl, rfl⟩)
    go_ret
    exact ⟨rfl, rfl⟩
  · have hE : chanB l = false := by
      match l, hl with
      | [], _ => rfl
      | [x], hl => simp at hl
      | _ :: _ :: _, _ => rfl
    rw [hE]
    have hl' : (l.length == 1) = false := by simp [hl]
    rw [hl'] at h1
    clear h hE hl hl'
    go_enter Try.func181, Try.ntmps181
    go_wp2_with (go_at_call 182; refine (h1 _).mono ?_; rintro e w' ⟨rfl, rfl⟩)
    go_ret
    exact ⟨rfl, rfl⟩

set_option maxRecDepth 100000 in
theorem channelAndOne_ok {lo hi : Nat} {A : Option Addr} {n c : Nat} {l : List V} (w : World) (h : Ls w lo hi (.slice A n c) l) : Says Try.prog 180 #[.slice A n c] w (chan1B l) := by
  unfold Says
  obtain ⟨rfl, hc1, hc2⟩ := h.len
  have h1 := two_ok A l.length c
  unfold Says at h1
  by_cases hl : l.length = 2
  · obtain ⟨x, y, rfl⟩ : ∃ x y, l = [x, y] := by
      match l, hl with
      | [x, y], _ => exact ⟨x, y, rfl⟩
    have h2 := channel_ok w (h.take 1 1 (by simp) (by omega) (by simp at hc1; omega))
    unfold Says at h2
    have hE : chan1B [x, y] = chanB (List.take 1 [x, y]) := rfl
    rw [hE]
    simp at hc1
    have hcI : (1 : Int) ≤ (c : Int) := by omega
    have hcI2 : (2 : Int) ≤ (c : Int) := by omega
    obtain ⟨b, o, s, rfl, _⟩ := h.at_ (i := 0) (x := x) rfl
    generalize chanB (List.take 1 [x, y]) = z at h2 ⊢
    clear hE h
    simp only [List.length_cons, List.length_nil, Nat.zero_add] at h1 ⊢
    go_enter Try.func180, Try.ntmps180
    go_wp2_with (first | (go_at_call 178; refine (h1 _).mono ?_; rintro e w' ⟨rfl, rfl⟩) | (go_at_call 181; refine h2.mono ?_; rintro e w' ⟨rfl, rfl⟩))
    go_ret
    exact ⟨rfl, rfl⟩
  · have hE : chan1B l = false := by
      match l, hl with
      | [], _ => rfl
      | [x], _ => rfl
      | [x, y], hl => simp at hl
      | _ :: _ :: _ :: _, _ => rfl
    rw [hE]
    have hl' : (l.length == 2) = false := by simp [hl]
    rw [hl'] at h1
    clear h hE hl hl'
    go_enter Try.func180, Try.ntmps180
    go_wp2_with (go_at_call 178; refine (h1 _).mono ?_; rintro e w' ⟨rfl, rfl⟩)
    go_ret
    exact ⟨rfl, rfl⟩

set_option maxRecDepth 100000 in
theorem choices1_ok (k n : Int) (s : Value) (w : World) : Calls Try.prog 197 #[.agg #[.int .i64 k, .int .i64 n, s]] w fun e w' => e = .returned (.bool (!evB k)) ∧ Below w.heap.size w w' := by
  have h1 := event_ok k n s
  generalize evB k = z at h1 ⊢
  go_enter Try.func197, Try.ntmps197
  go_wp2_with (go_at_call 124; refine (h1 _).mono ?_; rintro e w' ⟨rfl, hB⟩)
  go_ret
  exact ⟨rfl, ((Below.refl _ w).alloc (Nat.le_refl _) _).trans (hB.mono (by simp))⟩

end Go.Proofs.Ytmfcecfcfihgaaa
