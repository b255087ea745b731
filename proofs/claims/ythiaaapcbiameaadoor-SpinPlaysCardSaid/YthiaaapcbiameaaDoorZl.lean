/- The numbers of a lock's cell, as the program's text lays them, read out of the condition. -/
import Derived.Test.YthiaaapcbiameaaDoorRows
import Derived.Test.YthiaaapcbiameaaDoorSa
import Derived.ProofKit
import Derived.LaidMore
import Derived.OpenShut
import Derived.Stop.Joined
namespace Go.Proofs.YthiaaapcbiameaaDoor
open Go.ChangeShapes Go.WideShapes Go.ChangeAt Go.WideMaps Go.WideElems Go.RowKit

theorem ownNone : ownKnob Tryd.prog.godebug = none := by kernel_rfl
theorem gNum : Tryd.prog.globalNamed "betrothal/spin.numbers" = some 0 := by kernel_rfl
theorem tNum : (Tryd.prog.globals[0]?).map (·.type) = some 111 := by kernel_rfl
def laid1 {H : Type} : List (String × DataW H) := [("betrothal/spin.numbers", Rows.laid_betrothal_spin_numbers)]
/-- The door's own heap meets the condition: three closed facts. -/
theorem door_met (os : Os) (args : Array Value) : laidMetH Tryd.prog laid1 ((World.doorLaid Tryd.prog 400 os).forCall (fun _ _ => 0) ⟨#[], args, []⟩).memory :=
  laidMetH_of_parts3 (fuel := 8) (laidMet_of_run' 8 (by kernel_rfl) (by kernel_rfl)) (by kernel_rfl) (by kernel_rfl)
set_option maxRecDepth 100000 in
/-- What the condition gives: the two cells. -/
theorem of_laid {W : World} (h : laidMetH Tryd.prog laid1 W) : Num W := by
  rw [MakeChecks.laidMetH_plain _ _ _ (by kernel_rfl)] at h
  obtain ⟨ps, ⟨g0, t0, cs0, f0, p0, q0, hg0, ht0, hv0, hd0, _, _⟩, _, _⟩ := h
  obtain rfl := Option.some.inj (gNum.symm.trans hg0)
  obtain rfl := Option.some.inj (tNum.symm.trans ht0)
  obtain ⟨xs, m1, rfl, hx1, hlen, hn2, hel⟩ := DataW.trod_array Tryd.underlying111 hd0
  have c48 : Tryd.prog.cellsOf 48 = 1 := by kernel_rfl
  have h0 := hel 0 (by decide)
  have h1 := hel 1 (by decide)
  simp only [Rows.laid_betrothal_spin_numbers, Prod.mk.injEq, DataW.agg.injEq] at hx1
  have c111 : Tryd.prog.cellsOf 111 = 2 := by kernel_rfl
  rw [c48] at h0 h1
  rw [c111] at hlen
  have v0 := World.var?_cell hg0 hv0 0
  have v1 := World.var?_cell hg0 hv0 1
  match xs, hn2, hx1, h0, h1 with
  | [x0, x1], _, hx1, h0, h1 =>
    simp only [List.map_cons, List.map_nil, List.cons.injEq] at hx1
    obtain ⟨k0, e1, e2, _⟩ := DataW.trod_int Tryd.underlying48 (show DataW.trod _ Tryd.prog W 0 _ false m1 48 _ = some x0 from h0)
    obtain ⟨k1, e3, e4, _⟩ := DataW.trod_int Tryd.underlying48 (show DataW.trod _ Tryd.prog W 0 _ false m1 48 _ = some x1 from h1)
    have hk0 : k0 = 0 := by rw [e2] at hx1; simpa using hx1.1.1.symm
    have hk1 : k1 = 1 := by rw [e4] at hx1; simpa using hx1.1.2.1.symm
    subst hk0; subst hk1
    obtain ⟨l1⟩ := cs0
    match l1, hlen, e1, e3, v0, v1 with
    | [c0, c1], _, e1, e3, v0, v1 =>
      simp at e1 e3
      subst e1; subst e3
      exact ⟨by simpa using v0, by simpa using v1⟩
end Go.Proofs.YthiaaapcbiameaaDoor
