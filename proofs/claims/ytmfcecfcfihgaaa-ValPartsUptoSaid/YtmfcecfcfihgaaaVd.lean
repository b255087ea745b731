/- shapes. -/
import Derived.Test.YtmfcecfcfihgaaaVc
import Derived.Deep.WholeRow
namespace Go.Proofs.Ytmfcecfcfihgaaa
open Go.RowKit Go.Shelf
attribute [local go_sem] Oper.semAt_some

/-- What shapes returns. -/
def knownCells : Array Value := #[.nilFunc, .nilFunc, .func (.func 175) #[] #[], .func (.func 176) #[] #[], .func (.func 177) #[] #[], .func (.func 176) #[] #[], .func (.func 175) #[] #[], .func (.func 178) #[] #[], .func (.func 179) #[] #[], .func (.func 176) #[] #[], .func (.func 175) #[] #[], .func (.func 180) #[] #[], .func (.func 175) #[] #[], .func (.func 181) #[] #[], .func (.func 175) #[] #[], .func (.func 182) #[] #[], .func (.func 175) #[] #[], .func (.func 176) #[] #[], .func (.func 175) #[] #[], .func (.func 183) #[] #[], .func (.func 184) #[] #[], .func (.func 185) #[] #[], .func (.func 184) #[] #[], .func (.func 186) #[] #[], .func (.func 184) #[] #[], .func (.func 186) #[] #[], .func (.func 179) #[] #[], .func (.func 176) #[] #[]]
def knownShapes : Value := .agg knownCells
def shapeOf (k n : Int) (l : List V) : Bool :=
  if k = 1 then (n == 0) && (l.length == 0)
  else if k = 2 then true && (l.length == 0)
  else if k = 3 then (n == 0) && (l.length == 2)
  else if k = 4 then decide (0 ≤ n) && (l.length == 0)
  else if k = 5 then (n == 0) && chan1B l
  else if k = 6 then (n == 0) && chanB l
  else if k = 7 then (n == 0) && (l.length == 1)
  else if k = 8 then (n == 0) && (l.length == 0)
  else if k = 9 then (n == 0) && choB l
  else if k = 10 then (decide (0 ≤ n) && decide (n < 64)) && evArgB l
  else if k = 11 then (decide (0 ≤ n) && decide (n < 64)) && decide (l.length ≤ 8)
  else if k = 12 then (decide (0 ≤ n) && decide (n < 64)) && decide (l.length ≤ 8)
  else if k = 13 then decide (0 ≤ n) && (l.length == 0)
  else false
def shapeB (T : V) : Bool := shapeOf T.k T.n T.l


set_option maxRecDepth 100000 in
set_option maxHeartbeats 1600000 in
theorem shapes_ok (w : World) : Calls Try.prog 160 #[] w fun e w' => e = .returned knownShapes ∧ Below w.heap.size w w' := by
  have key := run_storeCells_new (P := Try.prog) w 196 #[.nilFunc, .nilFunc, .nilFunc, .nilFunc, .nilFunc, .nilFunc, .nilFunc, .nilFunc, .nilFunc, .nilFunc, .nilFunc, .nilFunc, .nilFunc, .nilFunc, .nilFunc, .nilFunc, .nilFunc, .nilFunc, .nilFunc, .nilFunc, .nilFunc, .nilFunc, .nilFunc, .nilFunc, .nilFunc, .nilFunc, .nilFunc, .nilFunc] knownCells (by kernel_rfl) rfl (by simp [knownCells, Value.oneCell'])
  unfold knownCells at key
  simp [go_sem] at key
  go_enter Try.func160, Try.ntmps160
  go_wp2_with fail
  clear key
  have hl := run_loadVar_new (P := Try.prog) w 196 knownCells 14 _ Try.underlying196 (by kernel_rfl)
  unfold knownShapes
  refine bodyPost_ret (v := .agg knownCells) ?_ rfl ⟨rfl, (Below.refl _ w).alloc (Nat.le_refl _) _⟩
  change _ = Result.ok _ (w.alloc (.cells knownCells 196))
  change (results _ _).run _ (w.alloc (.cells knownCells 196)) = _
  simp [results, Try.results160, Result.andThen]
  rw [show Sem.run Try.prog (asAddr (Value.pointer (some ⟨w.heap.size, 0, none⟩))) (w.alloc (Obj.cells knownCells 196)) = .ok ⟨w.heap.size, 0, none⟩ _ from rfl]
  exact hl
end Go.Proofs.Ytmfcecfcfihgaaa
