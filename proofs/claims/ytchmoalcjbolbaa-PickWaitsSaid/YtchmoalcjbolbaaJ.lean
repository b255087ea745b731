/- What is counted of a thread. -/
import Derived.Test.YtchmoalcjbolbaaI
import Derived.Test.YtchmoalcjbolbaaT
namespace Go.Proofs.Ytchmoalcjbolbaa
open Go.RowKit Go.Shelf Go.Sort
attribute [local go_sem] Oper.semAt_some

structure Cnt where
  wt : Nat
  lg : Nat
  wn : Nat
  sn : Nat
deriving DecidableEq
def encC (c : Cnt) : Value := .agg #[.int .i64 (c.wt : Int), .int .i64 (c.lg : Int), .int .i64 (c.wn : Int), .int .i64 (c.sn : Int)]
def cnt0 : Cnt := ⟨0, 0, 0, 0⟩
/-- A turn at which the thread can go is counted. -/
def countOf (c : Cnt) (at_ : Nat) (took t : Int) : Cnt :=
  if took = t then ⟨0, c.lg, c.wn + 1, at_ + 1⟩ else ⟨(if c.sn = at_ then c.wt else 0) + 1, max c.lg ((if c.sn = at_ then c.wt else 0) + 1), c.wn, at_ + 1⟩

theorem grow3 (w : World) (a b c : Obj) : ((w.alloc a).alloc b).alloc c = grow w (#[a] ++ #[b] ++ #[c]) := by
  rw [alloc_eq_grow, alloc_eq_grow, alloc_eq_grow, grow_grow, grow_grow, Array.append_assoc]

set_option maxRecDepth 100000 in
set_option maxHeartbeats 3200000 in
theorem count_ok (c : Cnt) (r : Value) (took : Int) (at_ : Nat) (v : Value) (t : Int) (w : World) (hc : c.wt ≤ 1000000 ∧ c.lg ≤ 1000000 ∧ c.wn ≤ 1000000 ∧ at_ ≤ 1000000) :
    Calls Try.prog 37 #[encC c, .agg #[r, .int .i64 took, .int .i64 (at_ : Int), v], .int .i64 t] w fun e w' =>
      e = .returned (encC (countOf c at_ took t)) ∧ ∃ os, w' = grow w os := by
  obtain ⟨wt, lg, wn, sn⟩ := c
  unfold encC countOf
  simp only at hc ⊢
  obtain ⟨h1, h2, h3, h4⟩ := hc
  have h1' : (wt : Int) ≤ 1000000 := by omega
  have h2' : (lg : Int) ≤ 1000000 := by omega
  have h3' : (wn : Int) ≤ 1000000 := by omega
  have h4' : (at_ : Int) ≤ 1000000 := by omega
  by_cases hs : sn = at_
  · have hsI : ((sn : Int) != (at_ : Int)) = false := by simp [hs]
    by_cases ht : took = t
    · have htI : (took == t) = true := by simp [ht]
      rw [if_pos ht]
      clear hs ht
      go_enter Try.func37, Try.ntmps37
      go_wp2_with fail
      exact bodyPost_ret (v := .agg #[.int .i64 0, .int .i64 (lg : Int), .int .i64 ((wn : Int) + 1), .int .i64 ((at_ : Int) + 1)]) (by simp [results, Try.results37, go_sem]) rfl ⟨by simp, _, grow3 _ _ _ _⟩
    · have htI : (took == t) = false := by simp [ht]
      rw [if_neg ht, if_pos hs]
      clear hs ht
      by_cases hmx : ¬ wt + 1 ≤ lg
      · have hm1 : max lg (wt + 1) = wt + 1 := by omega
        have hm2 : ¬ (((wt : Nat) : Int) + 1 ≤ (lg : Int)) := by omega
        have hm3 : max (lg : Int) ((wt : Nat) + 1) = (wt : Nat) + 1 := by omega
        rw [hm1]
        clear hm1
        go_enter Try.func37, Try.ntmps37
        go_wp2_with fail
        exact bodyPost_ret (v := .agg #[.int .i64 ((wt : Nat) + 1), .int .i64 ((wt : Nat) + 1), .int .i64 (wn : Int), .int .i64 ((at_ : Int) + 1)]) (by simp [results, Try.results37, go_sem]) rfl ⟨by simp, _, grow3 _ _ _ _⟩
      · have hm1 : max lg (wt + 1) = lg := by omega
        have hm2 : (((wt : Nat) : Int) + 1 ≤ (lg : Int)) := by omega
        have hm3 : max (lg : Int) ((wt : Nat) + 1) = lg := by omega
        rw [hm1]
        clear hm1
        go_enter Try.func37, Try.ntmps37
        go_wp2_with fail
        exact bodyPost_ret (v := .agg #[.int .i64 ((wt : Nat) + 1), .int .i64 (lg : Int), .int .i64 (wn : Int), .int .i64 ((at_ : Int) + 1)]) (by simp [results, Try.results37, go_sem]) rfl ⟨by simp, _, grow3 _ _ _ _⟩
  · have hsI : ((sn : Int) != (at_ : Int)) = true := by simp; omega
    by_cases ht : took = t
    · have htI : (took == t) = true := by simp [ht]
      rw [if_pos ht]
      clear hs ht
      go_enter Try.func37, Try.ntmps37
      go_wp2_with fail
      exact bodyPost_ret (v := .agg #[.int .i64 0, .int .i64 (lg : Int), .int .i64 ((wn : Int) + 1), .int .i64 ((at_ : Int) + 1)]) (by simp [results, Try.results37, go_sem]) rfl ⟨by simp, _, grow3 _ _ _ _⟩
    · have htI : (took == t) = false := by simp [ht]
      rw [if_neg ht, if_neg hs]
      clear hs ht
      by_cases hmx : ¬ 0 + 1 ≤ lg
      · have hm1 : max lg (0 + 1) = 0 + 1 := by omega
        have hm2 : ¬ (((0 : Nat) : Int) + 1 ≤ (lg : Int)) := by omega
        have hm3 : max (lg : Int) (((0 : Nat) : Int) + 1) = (0 : Nat) + 1 := by omega
        rw [hm1]
        clear hm1
        go_enter Try.func37, Try.ntmps37
        go_wp2_with fail
        exact bodyPost_ret (v := .agg #[.int .i64 (((0 : Nat) : Int) + 1), .int .i64 (((0 : Nat) : Int) + 1), .int .i64 (wn : Int), .int .i64 ((at_ : Int) + 1)]) (by simp [results, Try.results37, go_sem]) rfl ⟨by simp, _, grow3 _ _ _ _⟩
      · have hm1 : max lg (0 + 1) = lg := by omega
        have hm2 : (((0 : Nat) : Int) + 1 ≤ (lg : Int)) := by omega
        have hm3 : max (lg : Int) (((0 : Nat) : Int) + 1) = lg := by omega
        rw [hm1]
        clear hm1
        go_enter Try.func37, Try.ntmps37
        go_wp2_with fail
        exact bodyPost_ret (v := .agg #[.int .i64 (((0 : Nat) : Int) + 1), .int .i64 (lg : Int), .int .i64 (wn : Int), .int .i64 ((at_ : Int) + 1)]) (by simp [results, Try.results37, go_sem]) rfl ⟨by simp, _, grow3 _ _ _ _⟩
end Go.Proofs.Ytchmoalcjbolbaa
