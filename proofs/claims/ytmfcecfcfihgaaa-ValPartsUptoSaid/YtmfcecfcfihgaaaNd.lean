/- works: the values that it makes. -/
import Derived.Test.YtmfcecfcfihgaaaNc
namespace Go.Proofs.Ytmfcecfcfihgaaa
open Go.RowKit Go.Shelf
attribute [local go_sem] Oper.semAt_some

def numT (n : Int) : V := .mk 2 n []
def unitT : V := .mk 1 0 []
def pairT : V := .mk 3 0 [numT 1, numT 2]
def chanT : V := .mk 4 3 []
def sendT : V := .mk 5 0 [chanT, numT 5]
theorem num_right (n : Int) : rightB (numT n) = true := by
  simp [rightB, numT, V.size, V.pre, V.preL, shapeB, shapeOf, chan1B, chanB, choB, evArgB, evB, V.k, V.n, V.l]
theorem num_right' (n : Int) : rightB (.mk 2 n []) = true := num_right n
theorem unit_right : rightB unitT = true := by
  simp [rightB, unitT, V.size, V.pre, V.preL, shapeB, shapeOf, chan1B, chanB, choB, evArgB, evB, V.k, V.n, V.l]
theorem unit_right' : rightB (.mk 1 0 []) = true := unit_right
theorem pair_right : rightB pairT = true := by
  simp [rightB, pairT, numT, V.size, V.pre, V.preL, shapeB, shapeOf, chan1B, chanB, choB, evArgB, evB, V.k, V.n, V.l]
theorem chan_right : rightB chanT = true := by
  simp [rightB, chanT, V.size, V.pre, V.preL, shapeB, shapeOf, chan1B, chanB, choB, evArgB, evB, V.k, V.n, V.l]
theorem send_right : rightB sendT = true := by
  simp [rightB, sendT, chanT, numT, V.size, V.pre, V.preL, shapeB, shapeOf, chan1B, chanB, choB, evArgB, evB, V.k, V.n, V.l]
theorem choose_bad : rightB (.mk 9 0 [unitT]) = false := by
  simp [rightB, unitT, V.size, V.pre, V.preL, shapeB, shapeOf, chan1B, chanB, choB, evArgB, evB, V.k, V.n, V.l]
def badT : List V := [.mk 2 5 [unitT], .mk 0 0 [], .mk 4 (-1) [], .mk 6 0 [numT 1], .mk 10 64 [.mk 8 0 []]]
theorem bad_all : ∀ x ∈ badT, rightB x = false := by
  intro x hx
  simp only [badT, List.mem_cons, List.not_mem_nil, or_false] at hx
  rcases hx with rfl | rfl | rfl | rfl | rfl <;> simp [rightB, unitT, numT, V.size, V.pre, V.preL, shapeB, shapeOf, chan1B, chanB, choB, evArgB, evB, V.k, V.n, V.l]
theorem add_lit : numV (numT 9223372036854775807) (numT 1) (.mk 2 (wrap64 ((numT 9223372036854775807).n + (numT 1).n)) []) = (numT (-9223372036854775808), 0) := by
  simp [numV, numErr, num_right', kindsB, numT, V.k, V.n, wrap64]
theorem sub_lit : numV (numT 1) (numT 2) (.mk 2 (wrap64 ((numT 1).n - (numT 2).n)) []) = (numT (-1), 0) := by
  simp [numV, numErr, num_right', kindsB, numT, V.k, V.n, wrap64]
theorem less_lit : numV (numT 1) (numT 2) (.mk 2 (yesV (decide ((numT 1).n < (numT 2).n))) []) = (numT 1, 0) := by
  simp [numV, numErr, num_right', kindsB, numT, V.k, V.n, yesV]
theorem eq_lit : eqV unitT unitT = (numT 1, 0) := by
  simp [eqV, unit_right', sameB, unitT, V.same, V.sameL, V.size, V.pre, V.preL, yesV, numT]
theorem addu_lit (v : V) : numV unitT (numT 1) v = (zeroV, 41) := by
  simp [numV, numErr, num_right', unit_right', kindsB, numT, unitT, V.k]
theorem first_lit : halfV0 pairT = (numT 1, 0) := by
  simp [halfV0, halfErr, pair_right]
  simp [pairT, V.k, V.l]
theorem truth_lit : truthB (numT 0) = false ∧ truthErr (numT 0) = 0 := by
  simp [truthB, truthErr, num_right]
  simp [numT, V.k, V.n]
theorem pair_lit : makeV (.mk 3 0 [numT 1, numT 2]) = (pairT, 0) := by
  have := pair_right
  unfold pairT at this
  simp [makeV, this, pairT]
theorem chan_lit : makeV (.mk 4 3 []) = (chanT, 0) := by
  have := chan_right
  unfold chanT at this
  simp [makeV, this, chanT]
theorem send_lit : makeV (.mk 5 0 [chanT, numT 5]) = (sendT, 0) := by
  have := send_right
  unfold sendT at this
  simp [makeV, this, sendT]
theorem choose_lit : makeV (.mk 9 0 [unitT]) = (zeroV, 40) := by
  simp [makeV, choose_bad]
theorem same_lit (n m : Int) : sameB (numT n) (numT m) = decide (n = m) := by
  by_cases h : n = m <;> simp [sameB, numT, V.same, V.sameL, V.size, V.pre, V.preL, h]
theorem same_send : sameB sendT (.mk 5 0 [.mk 4 3 [], .mk 2 5 []]) = true := by
  simp [sameB, sendT, chanT, numT, V.same, V.sameL, V.size, V.pre, V.preL]
end Go.Proofs.Ytmfcecfcfihgaaa
