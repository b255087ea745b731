/- The law CellLogs, where its act allots too much. -/
import Derived.Test.YtbojbhjaeekjpaaLw
namespace Go.Proofs.Ytbojbhjaeekjpaa
open Go.RowKit Go.Shelf
attribute [local go_sem] Oper.semAt_some

set_option maxRecDepth 100000 in
set_option maxHeartbeats 1600000 in
theorem logs_few (k c T : Nat) (A : Option Addr) (x : ActD) (w : World) (h1 : 1 ≤ k) (h2 : k ≤ 40) (h3 : (T : Int) ≤ (1500 : Int).tdiv (k : Int)) (hf : fewB [x] 1 = false) :
    Calls Try.prog 4 #[.slice A k c, .int .i64 T, .agg #[.int .i64 x.what, .int .i64 x.at_, .int .u64 x.x, .int .u64 x.y]] w fun e w' => e = .returned (.bool true) ∧ Below w.heap.size w w' := by
  have hdiv : (1500 : Int).tdiv (k : Int) = ((1500 / k : Nat) : Int) := by
    rw [Int.tdiv_eq_ediv_of_nonneg (by omega)]; rfl
  have g1 : (1 : Int) ≤ (k : Int) := by omega
  have g2 : (k : Int) ≤ 40 := by omega
  have g3 : (0 : Int) ≤ (T : Int) := by omega
  have g7 : ((k : Int) == 0) = false := by simp; omega
  have g8 : IntKind.i64.wrap ((1500 : Int).tdiv (k : Int)) = (1500 : Int).tdiv (k : Int) := by
    have hd : 1500 / k ≤ 1500 := Nat.div_le_self _ _
    rw [hdiv]
    generalize 1500 / k = q at hd ⊢
    exact IntWalk.i64_in _ (by omega)
  clear hdiv
  have r0 := (Blk.new ((w.alloc (.cells #[.slice A k c] 29)).alloc (.cells #[.int .i64 x.what, .int .i64 x.at_, .int .u64 x.x, .int .u64 x.y] 40)) 4 #[.bool false]).alloc (.cells #[.int .i64 x.what, .int .i64 x.at_, .int .u64 x.x, .int .u64 x.y] 40)
  have hfew := few_ok [x] (some ⟨(((w.alloc (.cells #[.slice A k c] 29)).alloc (.cells #[.int .i64 x.what, .int .i64 x.at_, .int .u64 x.x, .int .u64 x.y] 40)).alloc (.cells #[.bool false] 4)).heap.size, 0, none⟩) 1 1 _ (one_act (((w.alloc (.cells #[.slice A k c] 29)).alloc (.cells #[.int .i64 x.what, .int .i64 x.at_, .int .u64 x.x, .int .u64 x.y] 40)).alloc (.cells #[.bool false] 4)) x) (by simp [maxLen])
  rw [hf] at hfew
  simp only [List.length_singleton] at hfew
  simp only [World.size_alloc] at r0 hfew
  have b0 : Below w.heap.size w ((((w.alloc (.cells #[.slice A k c] 29)).alloc (.cells #[.int .i64 x.what, .int .i64 x.at_, .int .u64 x.x, .int .u64 x.y] 40)).alloc (.cells #[.bool false] 4)).alloc (.cells #[.int .i64 x.what, .int .i64 x.at_, .int .u64 x.x, .int .u64 x.y] 40)) :=
    ((((Below.refl _ _).alloc (Nat.le_refl _) _).alloc (by simp) _).alloc (by simp; omega) _).alloc (by simp; omega) _
  refine calls_of_wp_marks 5 Try.func4 rfl ?_
  simp only [Try.ntmps4, List.size_toArray, List.length_cons, List.length_nil, Nat.reduceAdd, Nat.reduceSub, Array.replicate_succ, Array.replicate_zero, List.push_toArray, List.append_toArray, List.nil_append, List.cons_append]
  go_wp2_with (first
    | (go_at_call 8; refine hfew.mono ?_; rintro e w' ⟨rfl, rfl⟩)
    | (go_at_call 9
       refine (works_any _).mono ?_
       rintro e w1 ⟨rfl, hB⟩
       have r1 := r0.keep (hB.block _ r0.lt)
       have b1 := b0.trans (hB.mono b0.size)
       have z0 := r1.cell 0
       have z1 := r1.frozen 0
       simp at z0))
  have z2 := (r1.set 0 (.bool true)).cell 0
  simp at z2
  exact ⟨_, (by simp [results, Try.results4, go_sem, z2]), rfl, b1.setCell (p := ⟨w.heap.size + 1 + 1, 0, none⟩) (by simp; omega) _⟩
end Go.Proofs.Ytbojbhjaeekjpaa
