/- shapes. -/
import Derived.Test.YthfmbeecpjeegaaVc
import Derived.Deep.WholeRow
namespace Go.Proofs.Ythfmbeecpjeegaa
open Go.RowKit Go.Shelf
attribute [local go_sem] Oper.semAt_some

/-- What shapes returns. -/
def knownCells : Array Value := #[.nilFunc, .nilFunc, .func (.func 94) #[] #[], .func (.func 95) #[] #[], .func (.func 96) #[] #[], .func (.func 95) #[] #[], .func (.func 94) #[] #[], .func (.func 97) #[] #[], .func (.func 98) #[] #[], .func (.func 95) #[] #[], .func (.func 94) #[] #[], .func (.func 99) #[] #[], .func (.func 94) #[] #[], .func (.func 100) #[] #[], .func (.func 94) #[] #[], .func (.func 101) #[] #[], .func (.func 94) #[] #[], .func (.func 95) #[] #[], .func (.func 94) #[] #[], .func (.func 102) #[] #[], .func (.func 103) #[] #[], .func (.func 104) #[] #[], .func (.func 103) #[] #[], .func (.func 105) #[] #[], .func (.func 103) #[] #[], .func (.func 105) #[] #[], .func (.func 98) #[] #[], .func (.func 95) #[] #[]]
def knownShapes : Value := .agg knownCells
def shapeOf (k n : Int) (l : List V) : Bool :=
  if k = 1 then (n == 0) && (l.length == 0)
  else if k = 2 then true && (l.length == 0)
  else if k = 3 then (n == 0) && (l.length == 2)
  else if k = 4 then decide (0 ≤ n) && (l.length == 0)
  else if k = 5 then (n == 0) && chan1B l
  else if k = 6 then (n == 0) && chanB l
  else if k = 7 then (n == 0) && (l.length == 1)
  else if k = 8 then (n == 0) && (l.length == 0)
  else if k = 9 then (n == 0) && choB l
  else if k = 10 then (decide (0 ≤ n) && decide (n < 64)) && evArgB l
  else if k = 11 then (decide (0 ≤ n) && decide (n < 64)) && decide (l.length ≤ 8)
  else if k = 12 then (decide (0 ≤ n) && decide (n < 64)) && decide (l.length ≤ 8)
  else if k = 13 then decide (0 ≤ n) && (l.length == 0)
  else false
def shapeB (T : V) : Bool := shapeOf T.k T.n T.l


set_option maxRecDepth 100000 in
set_option maxHeartbeats 1600000 in
theorem shapes_ok (w : World) : Calls Try.prog 89 #[] w fun e w' => e = .returned knownShapes ∧ Below w.heap.size w w' := by
  have key := run_storeCells_new (P := Try.prog) w 98 #[.nilFunc, .nilFunc, .nilFunc, .nilFunc, .nilFunc, .nilFunc, .nilFunc, .nilFunc, .nilFunc, .nilFunc, .nilFunc, .nilFunc, .nilFunc, .nilFunc, .nilFunc, .nilFunc, .nilFunc, .nilFunc, .nilFunc, .nilFunc, .nilFunc, .nilFunc, .nilFunc, .nilFunc, .nilFunc, .nilFunc, .nilFunc, .nilFunc] knownCells (by kernel_rfl) rfl (by simp [knownCells, Value.oneCell'])
  unfold knownCells at key
  simp [go_sem] at key
  go_enter Try.func89, Try.ntmps89
  go_wp2_with fail
  clear key
  have hl := run_loadVar_new (P := Try.prog) w 98 knownCells 14 _ Try.underlying98 (by kernel_rfl)
  unfold knownShapes
  refine bodyPost_ret (v := .agg knownCells) ?_ rfl ⟨rfl, (Below.refl _ w).alloc (Nat.le_refl _) _⟩
  change _ = Result.ok _ (w.alloc (.cells knownCells 98))
  change (results _ _).run _ (w.alloc (.cells knownCells 98)) = _
  simp [results, Try.results89, Result.andThen]
  rw [show Sem.run Try.prog (asAddr (Value.pointer (some ⟨w.heap.size, 0, none⟩))) (w.alloc (Obj.cells knownCells 98)) = .ok ⟨w.heap.size, 0, none⟩ _ from rfl]
  exact hl
end Go.Proofs.Ythfmbeecpjeegaa
