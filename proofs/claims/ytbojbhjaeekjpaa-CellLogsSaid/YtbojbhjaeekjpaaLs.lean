/- The plain side of CellLogs: what stores one behind the other leave. -/
import Derived.Test.YtbojbhjaeekjpaaW
namespace Go.Proofs.Ytbojbhjaeekjpaa
open Go.RowKit

/-- The number that is stored at place p in turn n. -/
def valOf (l : List Int) (n p : Nat) : Int := IntKind.u64.wrap (l.getD p 0 + (n : Int))
/-- What lies at place p ahead of turn n. -/
def oldOf (l : List Int) (n p : Nat) : Int := if n = 0 then 0 else valOf l (n - 1) p
/-- The j-th access. -/
def entOf (l : List Int) (j : Nat) : Acc := ⟨2, (j % l.length : Nat), oldOf l (j / l.length) (j % l.length), valOf l (j / l.length) (j % l.length), true⟩

/-- Behind n turns and i places of the next one. -/
structure Logd (l : List Int) (n i : Nat) (s : St) : Prop where
  most : s.most = 1000
  len : s.cs.length = l.length
  hist : s.hist = (List.range (n * l.length + i)).map (entOf l)
  cs : ∀ p, p < l.length → s.at_ p = if p < i then valOf l n p else oldOf l n p

theorem Logd.start (l : List Int) : Logd l 0 0 ⟨1000, List.replicate l.length 0, []⟩ :=
  ⟨rfl, by simp, by simp, fun p hp => by simp [St.at_, oldOf, hp]⟩

theorem Logd.store {l : List Int} {n i : Nat} {s : St} (h : Logd l n i s) (hi : i < l.length) : (doSt s 2 (i : Int) (valOf l n i) 0).2.2 = 0 ∧ Logd l n (i + 1) (doSt s 2 (i : Int) (valOf l n i) 0).1 := by
  have hin : inSt s (i : Int) = true := by have := h.len; simp [inSt]; omega
  have e : doSt s 2 (i : Int) (valOf l n i) 0 = (s.step i (accOf s 2 i (valOf l n i) 0), accOf s 2 i (valOf l n i) 0, 0) := by
    unfold doSt
    rw [if_pos hin]
    simp
  rw [e]
  refine ⟨rfl, h.most, by simp [St.step, h.len], ?_, fun p hp => ?_⟩
  · show s.hist ++ [_] = _
    have e1 : (n * l.length + i) % l.length = i := by rw [Nat.mul_comm, Nat.mul_add_mod]; exact Nat.mod_eq_of_lt hi
    have e2 : (n * l.length + i) / l.length = n := by rw [Nat.mul_comm, Nat.mul_add_div (by omega)]; simp [Nat.div_eq_of_lt hi]
    have hc := h.cs i hi
    rw [if_neg (by omega)] at hc
    rw [h.hist, show n * l.length + (i + 1) = n * l.length + i + 1 from rfl, List.range_succ, List.map_append, List.map_singleton]
    congr 2
    simp [entOf, accOf, newOf, didOf, e1, e2, hc]
  · show (s.cs.set i _).getD p 0 = _
    have hc := h.cs p hp
    unfold St.at_ at hc
    by_cases hpi : p = i
    · subst hpi
      rw [if_pos (by omega)]
      simp [List.getD_eq_getElem?_getD, h.len, hi, accOf, newOf]
    · rw [List.getD_eq_getElem?_getD, List.getElem?_set_ne (by omega), ← List.getD_eq_getElem?_getD, hc]
      by_cases h1 : p < i
      · rw [if_pos h1, if_pos (by omega)]
      · rw [if_neg h1, if_neg (by omega)]

theorem Logd.turn {l : List Int} {n : Nat} {s : St} (h : Logd l n l.length s) : Logd l (n + 1) 0 s :=
  ⟨h.most, h.len, by rw [h.hist, Nat.succ_mul]; rfl, fun p hp => by
    rw [h.cs p hp, if_pos hp, if_neg (by omega)]
    simp [oldOf]⟩
end Go.Proofs.Ytbojbhjaeekjpaa
