/- The law CellLogs: its walk. -/
import Derived.Test.YtbojbhjaeekjpaaLs
import Derived.Test.YtbojbhjaeekjpaaFw
import Derived.Test.YtbojbhjaeekjpaaHr
namespace Go.Proofs.Ytbojbhjaeekjpaa
open Go.RowKit Go.Shelf
attribute [local go_sem] Oper.semAt_some

def WordsArg (w : World) (v : Value) (l : List Int) : Prop := ∃ A c, v = .slice A l.length c ∧ (l ≠ [] → ∃ b off, A = some ⟨b, off, none⟩ ∧ b < w.heap.size ∧ ∀ i x, l[i]? = some x → w.cell? ⟨b, off + i, none⟩ = some (.int .u64 x))

theorem one_act (w : World) (x : ActD) : ActsArg (w.alloc (.cells #[.int .i64 x.what, .int .i64 x.at_, .int .u64 x.x, .int .u64 x.y] 40)) (.slice (some ⟨w.heap.size, 0, none⟩) 1 1) [x] := by
  have hb : Blk (w.alloc (.cells #[.int .i64 x.what, .int .i64 x.at_, .int .u64 x.x, .int .u64 x.y] 40)) w.heap.size 40 #[.int .i64 x.what, .int .i64 x.at_, .int .u64 x.x, .int .u64 x.y] := Blk.new w 40 _
  refine ⟨_, _, rfl, fun _ => ⟨w.heap.size, 0, rfl, by simp, fun i y hy => ?_⟩⟩
  match i, hy with
  | 0, hy =>
    simp at hy; subst hy
    exact ⟨hb.cell 0, hb.cell 1, hb.cell 2, hb.cell 3⟩
  | i + 1, hy => simp at hy

set_option maxRecDepth 100000 in
set_option maxHeartbeats 1600000 in
theorem logs_len (k c : Nat) (A : Option Addr) (t : Int) (x : ActD) (w : World) (hk : k ≤ maxLen) (h : k < 1 ∨ 40 < k ∨ t < 0 ∨ (1500 : Int).tdiv (k : Int) < t) :
    Calls Try.prog 4 #[.slice A k c, .int .i64 t, .agg #[.int .i64 x.what, .int .i64 x.at_, .int .u64 x.x, .int .u64 x.y]] w fun e w' => e = .returned (.bool true) ∧ Below w.heap.size w w' := by
  unfold maxLen at hk
  have hw := works_any (((w.alloc (.cells #[.slice A k c] 29)).alloc (.cells #[.int .i64 x.what, .int .i64 x.at_, .int .u64 x.x, .int .u64 x.y] 40)).alloc (.cells #[.bool false] 4))
  have r0 := Blk.new ((w.alloc (.cells #[.slice A k c] 29)).alloc (.cells #[.int .i64 x.what, .int .i64 x.at_, .int .u64 x.x, .int .u64 x.y] 40)) 4 #[.bool false]
  simp only [World.size_alloc] at r0
  have b0 : Below w.heap.size w (((w.alloc (.cells #[.slice A k c] 29)).alloc (.cells #[.int .i64 x.what, .int .i64 x.at_, .int .u64 x.x, .int .u64 x.y] 40)).alloc (.cells #[.bool false] 4)) :=
    (((Below.refl _ _).alloc (Nat.le_refl _) _).alloc (by simp) _).alloc (by simp; omega) _
  have fin : ∀ w1, Below (((w.alloc (.cells #[.slice A k c] 29)).alloc (.cells #[.int .i64 x.what, .int .i64 x.at_, .int .u64 x.x, .int .u64 x.y] 40)).alloc (.cells #[.bool false] 4)).heap.size (((w.alloc (.cells #[.slice A k c] 29)).alloc (.cells #[.int .i64 x.what, .int .i64 x.at_, .int .u64 x.x, .int .u64 x.y] 40)).alloc (.cells #[.bool false] 4)) w1 → Blk w1 (w.heap.size + 1 + 1) 4 #[.bool false] ∧ Below w.heap.size w w1 := fun w1 hB =>
    ⟨r0.keep (hB.block _ (by simp)), b0.trans (hB.mono (by simp; omega))⟩
  by_cases h1 : (k : Int) < 1
  · clear h hk
    refine calls_of_wp_marks 5 Try.func4 rfl ?_
    simp only [Try.ntmps4, List.size_toArray, List.length_cons, List.length_nil, Nat.reduceAdd, Nat.reduceSub, Array.replicate_succ, Array.replicate_zero, List.push_toArray, List.append_toArray, List.nil_append, List.cons_append]
    go_wp2_with (go_at_call 9; refine hw.mono ?_; rintro e w1 ⟨rfl, hB⟩; obtain ⟨r1, b1⟩ := fin w1 hB; have z0 := r1.cell 0; have z1 := r1.frozen 0; simp at z0)
    have z2 := (r1.set 0 (.bool true)).cell 0
    simp at z2
    exact ⟨_, (by simp [results, Try.results4, go_sem, z2]), rfl, b1.setCell (p := ⟨w.heap.size + 1 + 1, 0, none⟩) (by simp; omega) _⟩
  · by_cases h2 : (40 : Int) < (k : Int)
    · have h3 : 1 ≤ (k : Int) := by omega
      clear h hk h1
      refine calls_of_wp_marks 5 Try.func4 rfl ?_
      simp only [Try.ntmps4, List.size_toArray, List.length_cons, List.length_nil, Nat.reduceAdd, Nat.reduceSub, Array.replicate_succ, Array.replicate_zero, List.push_toArray, List.append_toArray, List.nil_append, List.cons_append]
      go_wp2_with (go_at_call 9; refine hw.mono ?_; rintro e w1 ⟨rfl, hB⟩; obtain ⟨r1, b1⟩ := fin w1 hB; have z0 := r1.cell 0; have z1 := r1.frozen 0; simp at z0)
      have z2 := (r1.set 0 (.bool true)).cell 0
      simp at z2
      exact ⟨_, (by simp [results, Try.results4, go_sem, z2]), rfl, b1.setCell (p := ⟨w.heap.size + 1 + 1, 0, none⟩) (by simp; omega) _⟩
    · by_cases h4 : t < 0
      · have h3 : 1 ≤ (k : Int) := by omega
        have h5 : (k : Int) ≤ 40 := by omega
        clear h hk h1 h2
        refine calls_of_wp_marks 5 Try.func4 rfl ?_
        simp only [Try.ntmps4, List.size_toArray, List.length_cons, List.length_nil, Nat.reduceAdd, Nat.reduceSub, Array.replicate_succ, Array.replicate_zero, List.push_toArray, List.append_toArray, List.nil_append, List.cons_append]
        go_wp2_with (go_at_call 9; refine hw.mono ?_; rintro e w1 ⟨rfl, hB⟩; obtain ⟨r1, b1⟩ := fin w1 hB; have z0 := r1.cell 0; have z1 := r1.frozen 0; simp at z0)
        have z2 := (r1.set 0 (.bool true)).cell 0
        simp at z2
        exact ⟨_, (by simp [results, Try.results4, go_sem, z2]), rfl, b1.setCell (p := ⟨w.heap.size + 1 + 1, 0, none⟩) (by simp; omega) _⟩
      · have h3 : 1 ≤ (k : Int) := by omega
        have h5 : (k : Int) ≤ 40 := by omega
        have h6 : (1500 : Int).tdiv (k : Int) < t := by omega
        have h7 : ((k : Int) == 0) = false := by simp; omega
        have h8 : IntKind.i64.wrap ((1500 : Int).tdiv (k : Int)) = (1500 : Int).tdiv (k : Int) := by
          have e : (1500 : Int).tdiv (k : Int) = ((1500 / k : Nat) : Int) := by
            rw [Int.tdiv_eq_ediv_of_nonneg (by omega)]; rfl
          have hd : 1500 / k ≤ 1500 := Nat.div_le_self _ _
          rw [e]
          generalize 1500 / k = q at hd ⊢
          exact IntWalk.i64_in _ (by omega)
        have h9 : 0 ≤ t := by omega
        clear h hk h1 h2 h4
        refine calls_of_wp_marks 5 Try.func4 rfl ?_
        simp only [Try.ntmps4, List.size_toArray, List.length_cons, List.length_nil, Nat.reduceAdd, Nat.reduceSub, Array.replicate_succ, Array.replicate_zero, List.push_toArray, List.append_toArray, List.nil_append, List.cons_append]
        go_wp2_with (go_at_call 9; refine hw.mono ?_; rintro e w1 ⟨rfl, hB⟩; obtain ⟨r1, b1⟩ := fin w1 hB; have z0 := r1.cell 0; have z1 := r1.frozen 0; simp at z0)
        have z2 := (r1.set 0 (.bool true)).cell 0
        simp at z2
        exact ⟨_, (by simp [results, Try.results4, go_sem, z2]), rfl, b1.setCell (p := ⟨w.heap.size + 1 + 1, 0, none⟩) (by simp; omega) _⟩
end Go.Proofs.Ytbojbhjaeekjpaa
