/- The law CellHolds: its walk. -/
import Derived.Test.YtbojbhjaeekjpaaHa
import Derived.Test.YtbojbhjaeekjpaaP
namespace Go.Proofs.Ytbojbhjaeekjpaa
open Go.RowKit Go.Shelf
attribute [local go_sem] Oper.semAt_some

def ActsArg (w : World) (v : Value) (l : List ActD) : Prop := ∃ A c, v = .slice A l.length c ∧ (l ≠ [] → ∃ b off, A = some ⟨b, off, none⟩ ∧ b < w.heap.size ∧
  ∀ i x, l[i]? = some x → w.cell? ⟨b, off + i * 4, none⟩ = some (.int .i64 x.what) ∧ w.cell? ⟨b, off + i * 4 + 1, none⟩ = some (.int .i64 x.at_) ∧ w.cell? ⟨b, off + i * 4 + 2, none⟩ = some (.int .u64 x.x) ∧ w.cell? ⟨b, off + i * 4 + 3, none⟩ = some (.int .u64 x.y))

set_option maxRecDepth 100000 in
set_option maxHeartbeats 1600000 in
theorem holds_bad (n : Int) (A : Option Addr) (k c : Nat) (w : World) (h : n < 1 ∨ 200 < n ∨ 60 < k) (hk : k ≤ maxLen) : Calls Try.prog 7 #[.int .i64 n, .slice A k c] w fun e w' => e = .returned (.bool true) ∧ Below w.heap.size w w' := by
  unfold maxLen at hk
  have hw := works_any ((w.alloc (.cells #[.int .i64 n] 3)).alloc (.cells #[.bool false] 4))
  have r0 := Blk.new (w.alloc (.cells #[.int .i64 n] 3)) 4 #[.bool false]
  rw [World.size_alloc] at r0
  have b0 : Below w.heap.size w ((w.alloc (.cells #[.int .i64 n] 3)).alloc (.cells #[.bool false] 4)) := ((Below.refl _ _).alloc (Nat.le_refl _) _).alloc (by simp) _
  have fin : ∀ w1, Below ((w.alloc (.cells #[.int .i64 n] 3)).alloc (.cells #[.bool false] 4)).heap.size ((w.alloc (.cells #[.int .i64 n] 3)).alloc (.cells #[.bool false] 4)) w1 → Blk w1 (w.heap.size + 1) 4 #[.bool false] ∧ Below w.heap.size w w1 := fun w1 hB =>
    ⟨r0.keep (hB.block _ (by simp)), b0.trans (hB.mono (by simp; omega))⟩
  by_cases h1 : n < 1
  · refine calls_of_wp_marks 5 Try.func7 rfl ?_
    simp only [Try.ntmps7, List.size_toArray, List.length_cons, List.length_nil, Nat.reduceAdd, Nat.reduceSub, Array.replicate_succ, Array.replicate_zero, List.push_toArray, List.append_toArray, List.nil_append, List.cons_append]
    clear h hk
    go_wp2_with (go_at_call 9; refine hw.mono ?_; rintro e w1 ⟨rfl, hB⟩; obtain ⟨r1, b1⟩ := fin w1 hB; have z0 := r1.cell 0; have z1 := r1.frozen 0; simp at z0)
    have z2 := (r1.set 0 (.bool true)).cell 0
    simp at z2
    exact ⟨_, (by simp [results, Try.results7, go_sem, z2]), rfl, b1.setCell (p := ⟨w.heap.size + 1, 0, none⟩) (by simp) _⟩
  · by_cases h2 : 200 < n
    · refine calls_of_wp_marks 5 Try.func7 rfl ?_
      simp only [Try.ntmps7, List.size_toArray, List.length_cons, List.length_nil, Nat.reduceAdd, Nat.reduceSub, Array.replicate_succ, Array.replicate_zero, List.push_toArray, List.append_toArray, List.nil_append, List.cons_append]
      clear h hk
      go_wp2_with (go_at_call 9; refine hw.mono ?_; rintro e w1 ⟨rfl, hB⟩; obtain ⟨r1, b1⟩ := fin w1 hB; have z0 := r1.cell 0; have z1 := r1.frozen 0; simp at z0)
      have z2 := (r1.set 0 (.bool true)).cell 0
      simp at z2
      exact ⟨_, (by simp [results, Try.results7, go_sem, z2]), rfl, b1.setCell (p := ⟨w.heap.size + 1, 0, none⟩) (by simp) _⟩
    · have h3 : (60 : Int) < (k : Int) := by omega
      have h4 : 1 ≤ n := by omega
      have h5 : n ≤ 200 := by omega
      refine calls_of_wp_marks 5 Try.func7 rfl ?_
      simp only [Try.ntmps7, List.size_toArray, List.length_cons, List.length_nil, Nat.reduceAdd, Nat.reduceSub, Array.replicate_succ, Array.replicate_zero, List.push_toArray, List.append_toArray, List.nil_append, List.cons_append]
      clear h h1 h2
      go_wp2_with (go_at_call 9; refine hw.mono ?_; rintro e w1 ⟨rfl, hB⟩; obtain ⟨r1, b1⟩ := fin w1 hB; have z0 := r1.cell 0; have z1 := r1.frozen 0; simp at z0)
      have z2 := (r1.set 0 (.bool true)).cell 0
      simp at z2
      exact ⟨_, (by simp [results, Try.results7, go_sem, z2]), rfl, b1.setCell (p := ⟨w.heap.size + 1, 0, none⟩) (by simp) _⟩
end Go.Proofs.Ytbojbhjaeekjpaa
