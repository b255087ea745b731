/- ValMakes' walk. -/
import Derived.Test.YthfmbeecpjeegaaUf
import Derived.Test.YthfmbeecpjeegaaEg
namespace Go.Proofs.Ythfmbeecpjeegaa
open Go.RowKit Go.Shelf
attribute [local go_sem] Oper.semAt_some

theorem size_mem {l : List V} {i : Nat} {x : V} (hx : l[i]? = some x) : x.size ≤ V.sizeL l := by
  induction l generalizing i with
  | nil => simp at hx
  | cons y l ih =>
    rw [V.sizeL_cons]
    cases i with
    | zero => simp at hx; subst hx; omega
    | succ i => have := ih (i := i) (by simpa using hx); omega
theorem makeV_size {T X : V} {err : Int} (h : makeV T = (X, err)) : X.size ≤ 256 := by
  unfold makeV at h
  split at h
  · rename_i hr
    cases h
    exact (right_root hr).1
  · cases h
    unfold zeroV; rw [leaf_size]; omega
section
variable {w W : World} {L : List Box} {X : V} {err k n : Int} {s : Value} {l : List V}
theorem use_MakeT (he : makeV (.mk k n l) = (X, err)) (hk : W64 k) (hn : W64 n) (h : Hid (St w W L)) (hl : Ls w 0 w.heap.size s l) : Calls Try.prog 24 #[.int .i64 k, .int .i64 n, s] W (Puts w L X err) :=
  puts_of he h (Make_ok k n hk hn W (hl.after h.out.1) h.out.1.size)
theorem use_rMake (he : makeV (.mk k n l) = (X, err)) (hk : W64 k) (hn : W64 n) (h : Hid (St w W L)) (hl : Ls w 0 w.heap.size s l) (h2 : l.length ≤ 1000) (h3 : (V.mk k n l).size ≤ 1000000000000) : Calls Try.prog 25 #[.int .i64 k, .int .i64 n, s] W (Puts w L X err) :=
  putsR_of he h (rMake_ok k n hk hn W (hl.after h.out.1) h.out.1.size h2 h3)
end

set_option maxRecDepth 100000 in
set_option maxHeartbeats 6400000 in
theorem makes_walk (k n : Int) (hk : W64 k) (hn : W64 n) (l : List V) (s : Value) (w : World) (h : Ls w 0 w.heap.size s l) (hs : V.sizeL l ≤ 1048576) :
    Calls Try.prog 7 #[.int .i64 k, .int .i64 n, s] w fun e w' => e = .returned (.bool true) ∧ Below w.heap.size w w' := by
  obtain ⟨A, c, rfl, hc1, hc2⟩ := h.form
  unfold maxLen at hc2
  have HL := Lib.hid h
  have HS := Lib.hid hs
  clear h hs
  have hst0 : Hid (St w w []) := Lib.hid ⟨Below.refl _ w, trivial⟩
  go_enter Try.func7, Try.ntmps7
  by_cases hlen : l.length ≤ 20
  · have hlenI : ¬ (20 : Int) < (l.length : Int) := by omega
    have hlI2 : (l.length : Int) ≤ 20 := by omega
    go_wp2_with fail
    go_loopw [7] (fun p wr => ∃ j : Nat, j ≤ l.length ∧ p = .int .i64 (j : Int) ∧ Hid (St w wr [])) (fun p _ => l.length - (intOf p).toNat)
    case atStart => exact ⟨0, Nat.zero_le _, rfl, hst0⟩
    case round =>
      obtain ⟨j, hj, rfl, hst⟩ := hrel
      clear hst0
      have hj0 : (0 : Int) ≤ (j : Int) := by omega
      by_cases hlt : j < l.length
      · have hltI : (j : Int) < (l.length : Int) := by omega
        obtain ⟨x, hx⟩ : ∃ x, l[j]? = some x := ⟨_, List.getElem?_eq_getElem hlt⟩
        obtain ⟨b, o, sx, rfl, hb, hbh, _, q0, q1, q2, hix⟩ := (HL.out.after hst.out.1).at_ hx
        obtain ⟨X, cx, rfl, _, _, _⟩ := hix.slice
        have hcall := (rSize_ok wr hix hst.out.1.size (Nat.le_trans (size_mem hx) (Nat.le_trans HS.out (by omega)))).mono
          (R' := fun e w' => e = .returned (.int .i64 (x.sz : Int)) ∧ Hid (St w w' [])) (fun e w' q => ⟨q.1, Lib.hid (hst.out.below q.2)⟩)
        have HC := Lib.hid hcall
        clear hcall hix hx hst
        rcases sz_cases x with ⟨_, h1⟩ | ⟨_, h1⟩
        · go_wp2_with (go_at_call 15; refine HC.out.mono ?_; rintro e w1 ⟨rfl, hst⟩)
          exact ⟨⟨j + 1, by omega, by go_num, hst⟩, by simp [intOf]; omega⟩
        · go_wp2_with (first | (go_at_call 15; refine HC.out.mono ?_; rintro e w1 ⟨rfl, hst⟩) | (go_at_call 18; (with_reducible refine (use_works hst).mono ?_); rintro e wi ⟨rfl, hst⟩))
          go_ret
          exact ⟨rfl, hst.out.1⟩
      · have hltI : ¬ (j : Int) < (l.length : Int) := by omega
        obtain ⟨X, err, he⟩ : ∃ X err, makeV (.mk k n l) = (X, err) := ⟨_, _, rfl⟩
        have hX := Lib.hid (makeV_size he)
        have HE := Lib.hid he
        have h2 : l.length ≤ 1000 := by omega
        have h3 : (V.mk k n l).size ≤ 1000000000000 := by rw [V.size_mk]; have := HS.out; omega
        have H2 := Lib.hid h2
        have H3 := Lib.hid h3
        clear he h2 h3
        go_wp2_with (first
          | (go_at_call 24; (with_reducible refine (use_MakeT HE.out hk hn hst HL.out).mono ?_); rintro e wA ⟨SA, cA, rfl, hst⟩)
          | (go_at_call 25; (with_reducible refine (use_rMake HE.out hk hn hst HL.out H2.out H3.out).mono ?_); rintro e wB ⟨SB, cB, rfl, hst⟩; obtain ⟨⟨y0, y1, y2⟩, ⟨x0, x1, x2⟩, _⟩ := hst.out.cells)
          | (go_at_call 21; (with_reducible refine (use_rSelf hst hst.out.tail.head hst.out.head hX.out).mono ?_); rintro e wi ⟨rfl, hst⟩)
          | (go_at_call 12; (with_reducible refine (use_num _ hst).mono ?_); rintro e wi ⟨rfl, hst⟩)
          | (go_at_call 18; (with_reducible refine (use_works hst).mono ?_); rintro e wi ⟨rfl, hst⟩))
        go_ret
        exact ⟨rfl, hst.out.1⟩
  · have hlenI : (20 : Int) < (l.length : Int) := by omega
    go_wp2_with (go_at_call 18; (with_reducible refine (use_works hst0).mono ?_); rintro e wi ⟨rfl, hst⟩)
    go_ret
    exact ⟨rfl, hst.out.1⟩
end Go.Proofs.Ythfmbeecpjeegaa
