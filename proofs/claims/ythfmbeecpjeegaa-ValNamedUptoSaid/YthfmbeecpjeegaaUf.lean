/- The calls that hand values back, from boxes to boxes, for any values. -/
import Derived.Test.YthfmbeecpjeegaaUe
import Derived.Test.YthfmbeecpjeegaaEe
namespace Go.Proofs.Ythfmbeecpjeegaa
open Go.RowKit Go.Shelf

theorem putsR_of {w W : World} {L : List Box} {T : V} {err : Int} {f : Nat} {args : Array Value} {p : V × Int} (hp : p = (T, err)) (h : Hid (St w W L)) (hc : Calls Try.prog f args W (MadeR W p.1 p.2)) : Calls Try.prog f args W (Puts w L T err) := by
  subst hp
  refine hc.mono ?_
  rintro e w' ⟨S, c, rfl, hi, hb⟩
  exact ⟨S, c, rfl, Lib.hid ((h.out.below hb).push hi)⟩
theorem halfV_0 (T : V) : halfV0 T = halfV 0 T := rfl
theorem halfV_1 (T : V) : halfV1 T = halfV 1 T := rfl
section
variable {w W : World} {L : List Box} {T U X : V} {err : Int} {b b' : Nat} {S S' : Option Addr} {c c' : Nat}
theorem use_AddT (he : numV T U (.mk 2 (wrap64 (T.n + U.n)) []) = (X, err)) (h : Hid (St w W L)) (hm : BoxV W b T S c) (hm' : BoxV W b' U S' c') : Calls Try.prog 41 #[.agg #[.int .i64 T.k, .int .i64 T.n, .slice S T.l.length c], .agg #[.int .i64 U.k, .int .i64 U.n, .slice S' U.l.length c']] W (Puts w L X err) :=
  puts_of he h (Add_ok W hm.2 hm'.2 (Nat.le_refl _))
theorem use_rAdd (he : numV T U (.mk 2 (wrap64 (T.n + U.n)) []) = (X, err)) (h : Hid (St w W L)) (hm : BoxV W b T S c) (hm' : BoxV W b' U S' c') (hT : T.size ≤ 1000000000000) (hU : U.size ≤ 1000000000000) : Calls Try.prog 48 #[.agg #[.int .i64 T.k, .int .i64 T.n, .slice S T.l.length c], .agg #[.int .i64 U.k, .int .i64 U.n, .slice S' U.l.length c']] W (Puts w L X err) :=
  putsR_of he h (rAdd_ok W hm.2 hm'.2 (Nat.le_refl _) hT hU)
theorem use_SubT (he : numV T U (.mk 2 (wrap64 (T.n - U.n)) []) = (X, err)) (h : Hid (St w W L)) (hm : BoxV W b T S c) (hm' : BoxV W b' U S' c') : Calls Try.prog 42 #[.agg #[.int .i64 T.k, .int .i64 T.n, .slice S T.l.length c], .agg #[.int .i64 U.k, .int .i64 U.n, .slice S' U.l.length c']] W (Puts w L X err) :=
  puts_of he h (Sub_ok W hm.2 hm'.2 (Nat.le_refl _))
theorem use_rSub (he : numV T U (.mk 2 (wrap64 (T.n - U.n)) []) = (X, err)) (h : Hid (St w W L)) (hm : BoxV W b T S c) (hm' : BoxV W b' U S' c') (hT : T.size ≤ 1000000000000) (hU : U.size ≤ 1000000000000) : Calls Try.prog 49 #[.agg #[.int .i64 T.k, .int .i64 T.n, .slice S T.l.length c], .agg #[.int .i64 U.k, .int .i64 U.n, .slice S' U.l.length c']] W (Puts w L X err) :=
  putsR_of he h (rSub_ok W hm.2 hm'.2 (Nat.le_refl _) hT hU)
theorem use_LessT (he : numV T U (.mk 2 (yesV (decide (T.n < U.n))) []) = (X, err)) (h : Hid (St w W L)) (hm : BoxV W b T S c) (hm' : BoxV W b' U S' c') : Calls Try.prog 44 #[.agg #[.int .i64 T.k, .int .i64 T.n, .slice S T.l.length c], .agg #[.int .i64 U.k, .int .i64 U.n, .slice S' U.l.length c']] W (Puts w L X err) :=
  puts_of he h (Less_ok W hm.2 hm'.2 (Nat.le_refl _))
theorem use_rLess (he : numV T U (.mk 2 (yesV (decide (T.n < U.n))) []) = (X, err)) (h : Hid (St w W L)) (hm : BoxV W b T S c) (hm' : BoxV W b' U S' c') (hT : T.size ≤ 1000000000000) (hU : U.size ≤ 1000000000000) : Calls Try.prog 51 #[.agg #[.int .i64 T.k, .int .i64 T.n, .slice S T.l.length c], .agg #[.int .i64 U.k, .int .i64 U.n, .slice S' U.l.length c']] W (Puts w L X err) :=
  putsR_of he h (rLess_ok W hm.2 hm'.2 (Nat.le_refl _) hT hU)
theorem use_EqT (he : eqV T U = (X, err)) (h : Hid (St w W L)) (hm : BoxV W b T S c) (hm' : BoxV W b' U S' c') : Calls Try.prog 43 #[.agg #[.int .i64 T.k, .int .i64 T.n, .slice S T.l.length c], .agg #[.int .i64 U.k, .int .i64 U.n, .slice S' U.l.length c']] W (Puts w L X err) :=
  puts_of he h (Eq_ok W hm.2 hm'.2 (Nat.le_refl _))
theorem use_rEq (he : eqV T U = (X, err)) (h : Hid (St w W L)) (hm : BoxV W b T S c) (hm' : BoxV W b' U S' c') (hT : T.size ≤ 1000000000000) (hU : U.size ≤ 1000000000000) : Calls Try.prog 50 #[.agg #[.int .i64 T.k, .int .i64 T.n, .slice S T.l.length c], .agg #[.int .i64 U.k, .int .i64 U.n, .slice S' U.l.length c']] W (Puts w L X err) :=
  putsR_of he h (rEq_ok W hm.2 hm'.2 (Nat.le_refl _) hT hU)
theorem use_FirstT (he : halfV 0 T = (X, err)) (h : Hid (St w W L)) (hm : BoxV W b T S c) : Calls Try.prog 45 #[.agg #[.int .i64 T.k, .int .i64 T.n, .slice S T.l.length c]] W (Puts w L X err) :=
  puts_of ((halfV_0 T).trans he) h (First_ok W hm.2 (Nat.le_refl _))
theorem use_rFirst (he : halfV 0 T = (X, err)) (h : Hid (St w W L)) (hm : BoxV W b T S c) (hT : T.size ≤ 1000000000000) : Calls Try.prog 52 #[.agg #[.int .i64 T.k, .int .i64 T.n, .slice S T.l.length c]] W (Puts w L X err) :=
  putsR_of he h (rFirst_ok W hm.2 (Nat.le_refl _) hT)
theorem use_SecondT (he : halfV 1 T = (X, err)) (h : Hid (St w W L)) (hm : BoxV W b T S c) : Calls Try.prog 46 #[.agg #[.int .i64 T.k, .int .i64 T.n, .slice S T.l.length c]] W (Puts w L X err) :=
  puts_of ((halfV_1 T).trans he) h (Second_ok W hm.2 (Nat.le_refl _))
theorem use_rSecond (he : halfV 1 T = (X, err)) (h : Hid (St w W L)) (hm : BoxV W b T S c) (hT : T.size ≤ 1000000000000) : Calls Try.prog 53 #[.agg #[.int .i64 T.k, .int .i64 T.n, .slice S T.l.length c]] W (Puts w L X err) :=
  putsR_of he h (rSecond_ok W hm.2 (Nat.le_refl _) hT)
theorem use_TruthT (h : Hid (St w W L)) (hm : BoxV W b T S c) : Calls Try.prog 47 #[.agg #[.int .i64 T.k, .int .i64 T.n, .slice S T.l.length c]] W (Gives w L (.tuple #[.bool (truthB T), .int .i64 (truthErr T)])) := gives_of h (Truth_ok W hm.2 (Nat.le_refl _))
theorem use_rTruth (h : Hid (St w W L)) (hm : BoxV W b T S c) (hT : T.size ≤ 1000000000000) : Calls Try.prog 54 #[.agg #[.int .i64 T.k, .int .i64 T.n, .slice S T.l.length c]] W (Gives w L (.tuple #[.bool (truthB T), .int .i64 (truthErr T)])) := gives_of h (rTruth_ok W hm.2 (Nat.le_refl _) hT)
theorem use_rSelf (h : Hid (St w W L)) (hm : BoxV W b X S c) (hm' : BoxV W b' X S' c') (hX : X.size ≤ 256) : Calls Try.prog 21 #[.agg #[.int .i64 X.k, .int .i64 X.n, .slice S X.l.length c], .agg #[.int .i64 X.k, .int .i64 X.n, .slice S' X.l.length c']] W (Gives w L (.bool true)) := by
  have := use_rSameT h hm hm' (Nat.le_trans hX (by omega)) (Nat.le_trans hX (by omega))
  rw [same_self] at this
  simpa [hX] using this
end
theorem sz_cases (T : V) : (T.size ≤ 256 ∧ ¬ (256 : Int) < (T.sz : Int)) ∨ (¬ T.size ≤ 256 ∧ (256 : Int) < (T.sz : Int)) := by unfold V.sz; omega
theorem leaf_size (k n : Int) : (V.mk k n []).size = 1 := by simp [V.size, V.pre, V.preL]
theorem numV_size {T U X : V} {k n err : Int} (h : numV T U (.mk k n []) = (X, err)) : X.size ≤ 256 := by
  unfold numV at h
  split at h <;> (cases h; first | (rw [leaf_size]; omega) | (unfold zeroV; rw [leaf_size]; omega))
theorem eqV_size {T U X : V} {err : Int} (h : eqV T U = (X, err)) : X.size ≤ 256 := by
  unfold eqV at h
  split at h <;> (cases h; first | (rw [leaf_size]; omega) | (unfold zeroV; rw [leaf_size]; omega))
theorem halfV_size {T X : V} {i : Nat} {err : Int} (hT : T.size ≤ 256) (h : halfV i T = (X, err)) : X.size ≤ 256 := by
  unfold halfV at h
  split at h
  · cases h
    cases hx : T.l[i]? with
    | none => simp only [Option.getD_none]; unfold zeroV; rw [leaf_size]; omega
    | some x => simp only [Option.getD_some]; exact Nat.le_of_lt (Nat.lt_of_lt_of_le (size_child hx) hT)
  · cases h
    unfold zeroV; rw [leaf_size]; omega
end Go.Proofs.Ythfmbeecpjeegaa
