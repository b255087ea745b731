/- equal, Same. -/
import Derived.Test.YtmfcecfcfihgaaaWs
namespace Go.Proofs.Ytmfcecfcfihgaaa
open Go.RowKit Go.Shelf
attribute [local go_sem] Oper.semAt_some

mutual
def V.same : V → V → Bool
  | .mk k n l, .mk k' n' l' => (k == k') && ((n == n') && V.sameL l l')
def V.sameL : List V → List V → Bool
  | [], [] => true
  | x :: xs, y :: ys => V.same x y && V.sameL xs ys
  | [], _ :: _ => false
  | _ :: _, [] => false
end
theorem V.same_parts (a b : V) : V.same a b = ((a.k == b.k) && ((a.n == b.n) && V.sameL a.l b.l)) := by
  cases a; cases b; simp [V.same, V.k, V.n, V.l]
theorem sameL_len {l m : List V} (h : l.length ≠ m.length) : V.sameL l m = false := by
  induction l generalizing m with
  | nil => cases m with
    | nil => exact absurd rfl h
    | cons y ys => simp [V.sameL]
  | cons x xs ih => cases m with
    | nil => simp [V.sameL]
    | cons y ys =>
      simp only [V.sameL]
      rw [ih (fun e => h (by simp [e]))]
      simp
theorem sameL_bad {l m : List V} {i : Nat} {x y : V} (hx : l[i]? = some x) (hy : m[i]? = some y) (h : V.same x y = false) : V.sameL l m = false := by
  induction l generalizing m i with
  | nil => simp at hx
  | cons a la ih => cases m with
    | nil => simp at hy
    | cons b lb =>
      cases i with
      | zero =>
        simp at hx hy; subst hx; subst hy
        simp [V.sameL, h]
      | succ i =>
        simp only [List.getElem?_cons_succ] at hx hy
        simp [V.sameL, ih hx hy]
theorem sameL_all {l m : List V} (hl : l.length = m.length) (h : ∀ (i : Nat) (x y : V), l[i]? = some x → m[i]? = some y → V.same x y = true) : V.sameL l m = true := by
  induction l generalizing m with
  | nil => cases m with
    | nil => simp [V.sameL]
    | cons y ys => simp at hl
  | cons a la ih => cases m with
    | nil => simp at hl
    | cons b lb =>
      simp only [V.sameL]
      rw [h 0 a b rfl rfl, ih (by simpa using hl) (fun i x y hx hy => h (i + 1) x y (by simpa using hx) (by simpa using hy))]
      rfl
def SameTo (l m : List V) (k : Nat) : Prop := ∀ (i : Nat) (x y : V), i < k → l[i]? = some x → m[i]? = some y → V.same x y = true
theorem sameTo_next {l m : List V} {k : Nat} {x y : V} (h : SameTo l m k) (hx : l[k]? = some x) (hy : m[k]? = some y) (he : V.same x y = true) : SameTo l m (k + 1) := by
  intro i a b hi ha hb
  rcases Nat.lt_or_eq_of_le (Nat.le_of_lt_succ hi) with h1 | h1
  · exact h i a b h1 ha hb
  · subst h1; rw [hx] at ha; rw [hy] at hb; cases ha; cases hb; exact he

theorem In.val {W : World} {lo hi : Nat} {v : Value} {T : V} (h : In W lo hi v T) : ∃ A c, v = .agg #[.int .i64 T.k, .int .i64 T.n, .slice A T.l.length c] ∧ T.l.length ≤ c ∧ c ≤ maxLen ∧ Ls W lo hi (.slice A T.l.length c) T.l := by
  obtain ⟨s, rfl, _, _, h⟩ := h.parts
  obtain ⟨A, c, rfl, h1, h2⟩ := h.form
  exact ⟨A, c, rfl, h1, h2, h⟩

/-- Of two values that lie in memory the function f says whether they are the same. -/
def Equals (f : Nat) (hi : Nat) (x : V) : Prop :=
  ∀ (y : V) (u v : Value) (w : World), In w 0 hi u x → In w 0 hi v y → hi ≤ w.heap.size → Calls Try.prog f #[u, v] w fun e w' => e = .returned (.bool (V.same x y)) ∧ Below w.heap.size w w'

set_option maxRecDepth 100000 in
set_option maxHeartbeats 3200000 in
theorem EqualFunc_ok {hi : Nat} {l m : List V} (ih : ∀ x ∈ l, Equals 163 hi x) (s t : Value) (w : World) (hs : Ls w 0 hi s l) (ht : Ls w 0 hi t m) (hh : hi ≤ w.heap.size) :
    Calls Try.prog 187 #[s, t, .func (.func 163) #[] #[]] w fun e w' => e = .returned (.bool (V.sameL l m)) ∧ Below w.heap.size w w' := by
  obtain ⟨A, c, rfl, hc1, hc2⟩ := hs.form
  obtain ⟨A', c', rfl, hd1, hd2⟩ := ht.form
  unfold maxLen at hc2 hd2
  by_cases hlen : l.length = m.length
  · have hlI : (l.length : Int) = (m.length : Int) := by omega
    have hlB : ((m.length : Int) != (m.length : Int)) = false := by simp
    rw [hlen] at hc1 hs ⊢
    go_enter Try.func187, Try.ntmps187
    go_wp2_with fail
    go_loopw [17] (fun p wr => ∃ k : Nat, k ≤ m.length ∧ p = .int .i64 (k : Int) ∧ Below w.heap.size w wr ∧ SameTo l m k) (fun p _ => m.length - (intOf p).toNat)
    case atStart => exact ⟨0, Nat.zero_le _, rfl, Below.refl _ w, by intro i x y hi; omega⟩
    case round =>
      obtain ⟨k, hk, rfl, hB, hN⟩ := hrel
      have hk0 : (0 : Int) ≤ (k : Int) := by omega
      by_cases hlt : k < m.length
      · have hltI : (k : Int) < (m.length : Int) := by omega
        obtain ⟨x, hx⟩ : ∃ x, l[k]? = some x := ⟨_, List.getElem?_eq_getElem (by omega)⟩
        obtain ⟨y, hy⟩ : ∃ y, m[k]? = some y := ⟨_, List.getElem?_eq_getElem hlt⟩
        have hB' := hB.mono hh
        rw [← hlen] at hs
        obtain ⟨b, o, sx, rfl, hb, hbh, _, q0, q1, q2, hix⟩ := (hs.after hB').at_ hx
        obtain ⟨b', o', sy, rfl, hb', hbh', _, r0, r1, r2, hiy⟩ := (ht.after hB').at_ hy
        obtain ⟨X, cx, rfl, _, _, _⟩ := hix.slice
        obtain ⟨Y, cy, rfl, _, _, _⟩ := hiy.slice
        have hcall : ∀ w2, Below wr.heap.size wr w2 → Calls Try.prog 163 #[.agg #[.int .i64 x.k, .int .i64 x.n, .slice X x.l.length cx], .agg #[.int .i64 y.k, .int .i64 y.n, .slice Y y.l.length cy]] w2
            fun e w' => e = .returned (.bool (V.same x y)) ∧ Below w2.heap.size w2 w' := fun w2 h2 => by
          have h3 := h2.mono (Nat.le_trans hh hB.size)
          exact ih x (List.mem_of_getElem? hx) y _ _ w2 (hix.after h3) (hiy.after h3) (Nat.le_trans hh (Nat.le_trans hB.size h2.size))
        have HB := Lib.hid hB
        have HN := Lib.hid hN
        have HX := Lib.hid hx
        have HY := Lib.hid hy
        have hlenN : l.length = m.length := hlen
        have HL := Lib.hid hlenN
        clear hB hN hx hy hs ht hix hiy hB' ih hlen hlI hlenN
        cases he : V.same x y
        · rw [he] at hcall
          have HE := Lib.hid he
          clear he
          go_wp2_with (go_at_call 163; refine (hcall _ (below2 wr _ _)).mono ?_; rintro e w' ⟨rfl, hB2⟩)
          go_ret
          exact ⟨by rw [sameL_bad HX.out HY.out HE.out]; rfl, below_step HB.out ((below2 wr _ _).trans (hB2.mono (by simp; omega)))⟩
        · rw [he] at hcall
          have HE := Lib.hid he
          clear he
          go_wp2_with (go_at_call 163; refine (hcall _ (below2 wr _ _)).mono ?_; rintro e w' ⟨rfl, hB2⟩)
          exact ⟨⟨k + 1, by omega, by go_num, below_step HB.out ((below2 wr _ _).trans (hB2.mono (by simp; omega))), sameTo_next HN.out HX.out HY.out HE.out⟩, by simp [intOf]; omega⟩
      · have hltI : ¬ (k : Int) < (m.length : Int) := by omega
        have hE : V.sameL l m = true := sameL_all hlen (fun i x y hx hy => hN i x y (by have := (List.getElem?_eq_some_iff.1 hy).1; omega) hx hy)
        have HE := Lib.hid hE
        have HB := Lib.hid hB
        clear hE hB hN hs ht ih hlI hlen
        go_wp2_with fail
        go_ret
        exact ⟨by rw [HE.out]; rfl, HB.out⟩
  · have hlI : ((l.length : Int) != (m.length : Int)) = true := by simp; omega
    rw [sameL_len hlen]
    clear hs ht ih hlen
    go_enter Try.func187, Try.ntmps187
    go_wp2_with fail
    go_ret
    exact ⟨rfl, Below.refl _ w⟩

set_option maxRecDepth 100000 in
set_option maxHeartbeats 3200000 in
theorem equal_ok (hi : Nat) (x : V) : Equals 163 hi x := by
  induction x using V.ind with
  | h k n l ih =>
    intro y u v w hu hv hh
    obtain ⟨yk, yn, yl⟩ := y
    obtain ⟨A, c, rfl, hc1, hc2, hl⟩ := hu.val
    obtain ⟨A', c', rfl, hd1, hd2, hm⟩ := hv.val
    have hl' : Ls w 0 hi (.slice A l.length c) l := hl
    have hcall : ∀ w2, Below w.heap.size w w2 → Calls Try.prog 187 #[.slice A l.length c, .slice A' yl.length c', .func (.func 163) #[] #[]] w2
        fun e w' => e = .returned (.bool (V.sameL l yl)) ∧ Below w2.heap.size w2 w' := fun w2 h2 => by
      have h3 := h2.mono hh
      exact EqualFunc_ok ih _ _ w2 (hl'.after h3) (hm.after h3) (Nat.le_trans hh h2.size)
    rw [V.same_parts]
    simp only [V.k, V.n, V.l]
    generalize V.sameL l yl = z at hcall ⊢
    clear hu hv hl hl' hm ih
    by_cases hk : k = yk
    · subst hk
      by_cases hn : n = yn
      · subst hn
        have h1 : (k == k) = true := by simp
        have h2 : (n == n) = true := by simp
        rw [h1, h2]
        go_enter Try.func163, Try.ntmps163
        go_wp2_with (go_at_call 187; refine (hcall _ (below2 w _ _)).mono ?_; rintro e w' ⟨rfl, hB2⟩)
        go_ret
        exact ⟨says_end (by simp), (below2 w _ _).trans (hB2.mono (by simp; omega))⟩
      · have h1 : (k == k) = true := by simp
        have h2 : (n == yn) = false := by simp [hn]
        rw [h1, h2]
        clear hn
        go_enter Try.func163, Try.ntmps163
        go_wp2_with fail
        go_ret
        exact ⟨says_end (by simp), below2 w _ _⟩
    · have h1 : (k == yk) = false := by simp [hk]
      rw [h1]
      clear hk
      go_enter Try.func163, Try.ntmps163
      go_wp2_with fail
      go_ret
      exact ⟨says_end (by simp), below2 w _ _⟩
end Go.Proofs.Ytmfcecfcfihgaaa
