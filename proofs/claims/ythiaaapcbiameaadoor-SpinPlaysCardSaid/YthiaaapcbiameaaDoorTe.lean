/- SpinPlays: each. -/
import Derived.Test.YthiaaapcbiameaaDoorTc
namespace Go.Proofs.YthiaaapcbiameaaDoor
open Go.RowKit Go.Shelf
attribute [local go_sem] Oper.semAt_some
/-- Some places were looked at. -/
structure Ech (b : Nat) (s : St) (l : List Bool) (u : Value) (p : Nat) (j0 j1 : Int) (w W : World) : Prop where
  lk : Lk b s W
  row : Bools W u l
  hp : Blk W p 3 #[.int .i64 j0, .int .i64 j1]
  nfp : ¬ footA b W p
  st : (arena b).Steps s w W
  un : ∀ k, u.ownBlock = some k → w.heap.size ≤ k
section
variable {b p : Nat} {s s' : St} {l : List Bool} {u : Value} {j0 j1 : Int} {w W W' : World}
theorem Ech.step (h : Ech b s l u p j0 j1 w W) (hs : (arena b).Steps s' W W') : Ech b s' l u p j0 j1 w W' := by
  have o := hs.out h.hp.lt h.nfp
  exact ⟨h.lk.step hs, Row.keep h.row (fun k hk => (hs.out (Row.lt h.row k hk) (footA_row h.lk.are h.row hk)).1), h.hp.keep o.1, o.2, h.st.trans hs, h.un⟩
theorem Ech.below (h : Ech b s l u p j0 j1 w W) (hB : Below W.heap.size W W') : Ech b s l u p j0 j1 w W' := h.step (Res.Steps.below h.lk.are hB)
theorem Ech.app {g : Bool} {v4 : Value} {w4 : World} (h : Ech b s l u p j0 j1 w W) (hp0 : p < w.heap.size) (h0 : 0 < w.heap.size) (hg : (W.alloc (.cells #[.bool g] 4)).grownBy w4 u.ownBlock) (h4 : Row w4 4 1 v4 (l.length + 1) (l.map Value.bool ++ [.bool g]))
    (hat : v4.ownBlock = u.ownBlock ∨ v4.ownBlock = some (W.alloc (.cells #[.bool g] 4)).heap.size) : Ech b s (l ++ [g]) v4 p j0 j1 w w4 := by
  have h1 := h.below ((Below.refl W.heap.size W).alloc (Nat.le_refl _) (.cells #[.bool g] 4))
  have hsz := h1.st.size
  have K : Keep (fun k => u.ownBlock = some k) (W.alloc (.cells #[.bool g] 4)) w4 := ⟨hg.os, hg.tape, hg.output, hg.size, fun k h2 h3 => hg.block k h2 (fun e => h3 e.symm)⟩
  obtain ⟨r1, r2⟩ := Res.beside (r := arena b) h1.lk.are K (fun k hk => footA_row h1.lk.are h1.row hk)
  have kb : ∀ k, k < w.heap.size → w4.heap[k]? = (W.alloc (.cells #[.bool g] 4)).heap[k]? := fun k hk => K.block k (by omega) (fun e => by have := h.un k e; omega)
  refine ⟨⟨r1, h1.lk.num.keep (kb 0 h0), fun e => h1.lk.nf ((r2 0).1 e)⟩, bools_snoc h4, h1.hp.keep (kb p hp0), fun e => h1.nfp ((r2 p).1 e),
    ⟨r1, K.os.trans h1.st.os, K.tape.trans h1.st.tape, K.output.trans h1.st.output, Nat.le_trans hsz K.size, fun k h2 h3 => (kb k h2).trans (h1.st.block k h2 h3), fun k hk => h1.st.ft k ((r2 k).1 hk)⟩, fun k hk => ?_⟩
  rcases hat with e | e
  · exact h.un k (e ▸ hk)
  · rw [e] at hk; injection hk with hk; omega
end
theorem dono {s : St} {op j x y : Int} (h : inSt s j = true) : (doSt s op j x y).2.2 = 0 := by unfold doSt; rw [if_pos h]
set_option maxRecDepth 100000 in
set_option maxHeartbeats 3200000 in
theorem each_in {b : Nat} {s : St} (j0 j1 : Int) (p : Nat) (w : World) (h : Lk b s w) (hp : Blk w p 3 #[.int .i64 j0, .int .i64 j1]) (hf : ¬ footA b w p) (hh : s.hist.length < 1000000) (h0 : inSt s j0 = true) (h1 : inSt s j1 = true) :
    Calls Tryd.prog 40 #[.func (.func 38) #[.agg #[.pointer (some ⟨b, 0, none⟩)]] #[], .slice (some ⟨p, 0, none⟩) 2 2] w fun e w' => ∃ u, e = .returned (.tuple #[u, .int .i64 0]) ∧ Bools w' u [(doSt s 1 j0 0 0).2.1.old != 0, (doSt (doSt s 1 j0 0 0).1 1 j1 0 0).2.1.old != 0] ∧ (arena b).Steps (doSt (doSt s 1 j0 0 0).1 1 j1 0 0).1 w w' := by
  obtain ⟨i0, hi0, hz0, hz1, hz2⟩ := info_parts info4
  have E0 : Ech b s [] (.slice none 0 0) p j0 j1 w w := ⟨h, Bools.nil _, hp, hf, Res.Steps.refl h.are, by simp [Value.ownBlock]⟩
  have hpl := hp.lt
  have hw0 := h.num.lt
  have p0 := hp.cell 0
  have p1 := hp.cell 1
  have hd0 : (doSt s 1 j0 0 0).2.2 = 0 := by unfold doSt; rw [if_pos h0]
  have hi1 : inSt (doSt s 1 j0 0 0).1 j1 = true := by rw [← h1]; unfold doSt; rw [if_pos h0]; simp [inSt, St.step]
  have hd1 : (doSt (doSt s 1 j0 0 0).1 1 j1 0 0).2.2 = 0 := dono hi1
  have hh1 := doSt_hist s 1 j0 0 0
  simp at p0 p1
  go_enter Tryd.func40, Tryd.ntmps40
  go_wp2
  refine wp_scope_fwd 0 rfl ?_
  go_wp2_with fail
  refine wp_loop_rounds 3 ?_
  rw [rounds_succ]
  go_wp2_with (first
    | (go_at_call 38
       refine (isHeld_ok j0 E0.lk (by omega)).mono ?_
       rw [hd0]
       rintro e w1 ⟨rfl, hst⟩
       have E1 := E0.step hst)
    | (at_builtin
       refine wpList_append_row _ rfl (.tmp 23) (.tmp 25) 56 rfl 4 4 i0 _ 1 1 Tryd.underlying56 hi0 hz0 hz1 hz2 rfl (.slice none 0 0) 0 _ rfl (Row.alloc E1.row (.cells #[.bool ((doSt s 1 j0 0 0).2.1.old != 0)] 4)) (.slice (some ⟨w1.heap.size, 0, none⟩) 1 1) 1 [.bool ((doSt s 1 j0 0 0).2.1.old != 0)] rfl
         (Row.made_at w1 w1.heap.size rfl 4 1 1 #[.bool ((doSt s 1 j0 0 0).2.1.old != 0)] [.bool ((doSt s 1 j0 0 0).2.1.old != 0)] rfl (by simp [maxLen]) rfl) (by simp [Value.oneCell']) (by simp only [maxLen]; omega) (by omega) ?_
       intro v4 x1 hown4 hgrow hat
       obtain ⟨B0, c0, rfl, hc0, hm0⟩ := Row.form hown4
       have E2 := E1.app hpl hw0 hgrow hown4 hat
       have p0 := E2.hp.cell 0
       have p1 := E2.hp.cell 1
       simp at p0 p1))
  rw [rounds_succ]
  go_wp2_with (first
    | (go_at_call 38
       refine (isHeld_ok j1 E2.lk (by omega)).mono ?_
       rw [hd1]
       rintro e w2 ⟨rfl, hst2⟩
       have E3 := E2.step hst2)
    | (at_builtin
       refine wpList_append_row _ rfl (.tmp 23) (.tmp 25) 56 rfl 4 4 i0 _ 1 1 Tryd.underlying56 hi0 hz0 hz1 hz2 rfl (.slice B0 1 c0) 1 _ rfl (Row.alloc E3.row (.cells #[.bool ((doSt (doSt s 1 j0 0 0).1 1 j1 0 0).2.1.old != 0)] 4)) (.slice (some ⟨w2.heap.size, 0, none⟩) 1 1) 1 [.bool ((doSt (doSt s 1 j0 0 0).1 1 j1 0 0).2.1.old != 0)] rfl
         (Row.made_at w2 w2.heap.size rfl 4 1 1 #[.bool ((doSt (doSt s 1 j0 0 0).1 1 j1 0 0).2.1.old != 0)] [.bool ((doSt (doSt s 1 j0 0 0).1 1 j1 0 0).2.1.old != 0)] rfl (by simp [maxLen]) rfl) (by simp [Value.oneCell']) (by simp only [maxLen]; omega) (by omega) ?_
       intro v5 x2 hown5 hgrow5 hat5
       obtain ⟨B1, c1, rfl, hc1, hm1⟩ := Row.form hown5
       have E4 := E3.app hpl hw0 hgrow5 hown5 hat5))
  rw [rounds_succ]
  go_wp2_with fail
  go_step3
  go_wp2
  refine jump_ret ?_
  go_ret2
  exact ⟨_, rfl, E4.row, E4.st⟩
end Go.Proofs.YthiaaapcbiameaaDoor
