/- Two numbers, and what they come to. -/
import Derived.Test.YthfmbeecpjeegaaUf
import Derived.Test.YthfmbeecpjeegaaPh
import Derived.Test.YthfmbeecpjeegaaZm
namespace Go.Proofs.Ythfmbeecpjeegaa
open Go.RowKit Go.Shelf

theorem num_rightB (n : Int) : rightB (numT n) = true := num_right n
theorem numErr_num (x y : Int) : numErr (numT x) (numT y) = 0 := by
  unfold numErr
  rw [num_rightB, num_rightB, kinds_two]
  rfl
theorem same_num (x y : Int) : sameB (numT x) (numT y) = decide (x = y) := by
  have h1 : (numT x).size = 1 := leaf_size 2 x
  have h2 : (numT y).size = 1 := leaf_size 2 y
  unfold sameB
  rw [h1, h2]
  simp only [numT, V.same, V.sameL]
  by_cases h : x = y <;> simp [h]
/-- What ValHolds asks of two numbers. -/
structure Nums (x y : Int) (TA TB X1 X2 X3 X4 X5 : V) : Prop where
  h1 : numV TA TB (.mk 2 (yesV (decide (TA.n < TB.n))) []) = (X1, 0)
  h2 : numV TB TA (.mk 2 (yesV (decide (TB.n < TA.n))) []) = (X2, 0)
  h3 : eqV TA TB = (X3, 0)
  h4 : numV TA TB (.mk 2 (wrap64 (TA.n + TB.n)) []) = (X4, 0)
  h5 : numV X4 TB (.mk 2 (wrap64 (X4.n - TB.n)) []) = (X5, 0)
  a1 : 0 ≤ X1.n ∧ X1.n ≤ 1
  a2 : 0 ≤ X2.n ∧ X2.n ≤ 1
  a3 : 0 ≤ X3.n ∧ X3.n ≤ 1
  sum : X1.n + X2.n + X3.n = 1
  less : (X1.n == 1) = decide (x < y)
  back : sameB X5 TA = true
theorem wrap_back {x : Int} (h : W64 x) (y : Int) : wrap64 (wrap64 (x + y) - y) = x := by
  unfold W64 at h
  unfold wrap64
  omega
theorem nums_of {x y : Int} (hx : W64 x) : Nums x y (numT x) (numT y) (numT (yesV (decide (x < y)))) (numT (yesV (decide (y < x)))) (numT (yesV (decide (x = y)))) (numT (wrap64 (x + y))) (numT (wrap64 (wrap64 (x + y) - y))) := by
  refine ⟨?_, ?_, ?_, ?_, ?_, ?_, ?_, ?_, ?_, ?_, ?_⟩
  · unfold numV; rw [numErr_num]; rfl
  · unfold numV; rw [numErr_num]; rfl
  · unfold eqV; rw [num_rightB, num_rightB, same_num]; rfl
  · unfold numV; rw [numErr_num]; rfl
  · unfold numV; rw [numErr_num]; rfl
  · show 0 ≤ yesV _ ∧ yesV _ ≤ 1; unfold yesV; split <;> omega
  · show 0 ≤ yesV _ ∧ yesV _ ≤ 1; unfold yesV; split <;> omega
  · show 0 ≤ yesV _ ∧ yesV _ ≤ 1; unfold yesV; split <;> omega
  · show yesV _ + yesV _ + yesV _ = 1
    unfold yesV
    rcases Int.lt_trichotomy x y with h | h | h
    · have h1 : ¬ y < x := by omega
      have h2 : ¬ x = y := by omega
      simp [h, h1, h2]
    · subst h; simp
    · have h1 : ¬ x < y := by omega
      have h2 : ¬ x = y := by omega
      simp [h, h1, h2]
  · show (yesV _ == 1) = _
    unfold yesV
    by_cases h : x < y <;> simp [h]
  · rw [wrap_back hx, same_num]; simp
/-- A pair that may be: its halves. -/
theorem pair_halves {a b : V} (h : rightB (.mk 3 0 [a, b]) = true) : halfV 0 (.mk 3 0 [a, b]) = (a, 0) ∧ halfV 1 (.mk 3 0 [a, b]) = (b, 0) ∧ a.size ≤ 256 ∧ b.size ≤ 256 := by
  have he : halfErr (.mk 3 0 [a, b]) = 0 := by unfold halfErr; rw [h]; rfl
  have hs := (right_root h).1
  rw [V.size_mk, V.sizeL_cons, V.sizeL_cons, V.sizeL_nil] at hs
  refine ⟨by unfold halfV; rw [he]; rfl, by unfold halfV; rw [he]; rfl, by omega, by omega⟩
section
variable {B W : World} {L : List Box} {T U X : V} {err : Int} {b : Nat} {S S' : Option Addr} {c c' : Nat}
theorem St.bel {w W : World} {L : List Box} (h : St w W L) : Below w.heap.size w W := h.1
theorem In.at_base (h : St B W L) {u : Value} (hu : In B 0 B.heap.size u T) : In W 0 W.heap.size u T := (hu.after h.1).mono (Nat.le_refl _) h.1.size
theorem use_PairE (he : makeV (.mk 3 0 [T, U]) = (X, err)) (h : Hid (St B W L)) {u v : Value} (hu : In B 0 B.heap.size u T) (hv : In B 0 B.heap.size v U) : Calls Try.prog 27 #[u, v] W (Puts B L X err) :=
  puts_of he h (Pair_ok W (hu.at_base h.out) (hv.at_base h.out) (Nat.le_refl _))
theorem use_PairE2 (he : makeV (.mk 3 0 [T, U]) = (X, err)) (h : Hid (St2 B W L b)) {u v : Value} (hu : In B 0 B.heap.size u T) (hv : In B 0 B.heap.size v U) : Calls Try.prog 27 #[u, v] W (Puts2 B L b X err) :=
  puts2_of he h (Pair_ok W (hu.at_base h.out.st) (hv.at_base h.out.st) (Nat.le_refl _))
theorem use_rSizeE (h : Hid (St B W L)) {v : Value} (hv : In B 0 B.heap.size v U) (hU : U.size ≤ 1048576) : Calls Try.prog 15 #[v] W (Gives B L (.int .i64 (U.sz : Int))) :=
  gives_of h (rSize_ok W (hv.at_base h.out) (Nat.le_refl _) (Nat.le_trans hU (by omega)))
theorem use_SameE (h : Hid (St B W L)) (hm : BoxV W b T S c) {v : Value} (hv : In B 0 B.heap.size v U) : Calls Try.prog 20 #[.agg #[.int .i64 T.k, .int .i64 T.n, .slice S T.l.length c], v] W (Gives B L (.bool (sameB T U))) :=
  gives_of h (Same_ok W hm.2 (hv.at_base h.out) (Nat.le_refl _))
end
end Go.Proofs.Ythfmbeecpjeegaa
