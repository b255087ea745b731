/- The law CellNone: its walk. -/
import Derived.Test.YtbojbhjaeekjpaaV
namespace Go.Proofs.Ytbojbhjaeekjpaa
open Go.RowKit Go.Shelf
attribute [local go_sem] Oper.semAt_some

set_option maxHeartbeats 400000 in
theorem Same_void2 (u v : Value) (w : World) (hu : Void w u) (hv : Void w v) : Calls Try.prog 21 #[u, v] w fun e w' => e = .returned (.bool true) ∧ w = w' := by
  have h1 := exists_void _ _ hu
  have h2 := exists_void _ _ hv
  go_enter Try.func21, Try.ntmps21
  go_wp2_with fail
  refine h1.mono ?_; rintro e w' ⟨rfl, rfl⟩
  go_wp2_with fail
  refine h1.mono ?_; rintro e w' ⟨rfl, rfl⟩
  go_wp2_with fail
  refine h2.mono ?_; rintro e w' ⟨rfl, rfl⟩
  go_wp2_with fail
  go_ret
  exact ⟨rfl, rfl⟩

set_option maxHeartbeats 400000 in
theorem Same_are_void {F : Nat → Prop} {b : Nat} {s : St} (v : Value) (w : World) (h : Are F w b s) (hv : Void w v) : Calls Try.prog 21 #[.pointer (some ⟨b, 0, none⟩), v] w fun e w' => e = .returned (.bool false) ∧ w = w' := by
  have h1 := exists_are h
  have h2 := exists_void _ _ hv
  go_enter Try.func21, Try.ntmps21
  go_wp2_with fail
  refine h1.mono ?_; rintro e w' ⟨rfl, rfl⟩
  go_wp2_with fail
  refine h2.mono ?_; rintro e w' ⟨rfl, rfl⟩
  go_wp2_with fail
  refine h1.mono ?_; rintro e w' ⟨rfl, rfl⟩
  go_wp2_with fail
  refine h2.mono ?_; rintro e w' ⟨rfl, rfl⟩
  go_wp2_with fail
  go_ret
  exact ⟨rfl, rfl⟩

/-- A loop over nothing. -/
def Nothing (W0 : World) (_ : List (Nat × Acc)) (W : World) : Prop := Below W0.heap.size W0 W
theorem nothing_own (W0 : World) (B : Nat) (h : W0.heap.size ≤ B) : OwnFrom B (Nothing W0) := ownFrom_below (Nat.le_refl _) h

theorem blk_putObj {W : World} {g t D : Nat} {cs : Array Value} {o o' : Obj} (h : Blk W g t cs) (hD : W.heap[D]? = some o) (hc : o.isCells = false) : Blk (W.putObj D o') g t cs :=
  h.keep (World.putObj_heap_other (fun e => by subst e; rw [show W.heap[g]? = _ from h] at hD; cases hD; cases hc))

theorem WS.split {w0 w w' : World} {b : Nat} {s : St} (h : WS (fun k => w0.heap.size ≤ k) w0 w b s) (hB : Below w.heap.size w w') : WS (fun k => (w0.heap.size ≤ k ∧ k < w.heap.size) ∨ w'.heap.size ≤ k) w' w' b s :=
  ⟨Are.below (h.are.mono (fun _ hk hf => .inl ⟨hf, hk⟩)) hB, Keep.refl _ _, fun _ hk => .inr hk⟩

section
variable {F : Nat → Prop} {w0 w w' : World} {b : Nat}
theorem kn1 (h : WS F w0 w b ⟨9, [], []⟩) : Calls Try.prog 15 #[.pointer (some ⟨b, 0, none⟩), .int .i64 1] w fun e w' => e = .returned (.tuple #[.int .i64 0, .int .i64 0]) ∧ WS F w0 w' b ⟨9, [0], []⟩ := Alloc_do 1 h
theorem kn2 (x : Int) (h : WS F w0 w b ⟨9, [0], []⟩) : Calls Try.prog 16 #[.pointer (some ⟨b, 0, none⟩), .int .i64 0, .int .u64 x] w fun e w' => e = .returned (.int .i64 0) ∧ WS F w0 w' b ⟨9, [x], [⟨2, 0, 0, x, true⟩]⟩ := Store_do 0 x h (Nat.zero_lt_succ _)
end

set_option maxRecDepth 100000 in
set_option maxHeartbeats 6400000 in
theorem none_nil (at_ x y : Int) (w : World) : Calls Try.prog 6 #[.int .i64 at_, .int .u64 x, .int .u64 y, .bool false] w fun e w' => e = .returned (.bool true) ∧ Below w.heap.size w w' := by
  refine calls_of_wp_marks 5 Try.func6 rfl ?_
  simp only [Try.ntmps6, List.size_toArray, List.length_cons, List.length_nil, Nat.reduceAdd, Nat.reduceSub, Array.replicate_succ, Array.replicate_zero, List.push_toArray, List.append_toArray, List.nil_append, List.cons_append]
  have v0 : Void (w.alloc (.cells #[.bool false] 4)) (.pointer none) := .inl rfl
  have r0 : Blk (w.alloc (.cells #[.bool false] 4)) w.heap.size 4 #[.bool false] := Blk.new w _ _
  have b0 : Below w.heap.size w (w.alloc (.cells #[.bool false] 4)) := (Below.refl _ _).alloc (Nat.le_refl _) _
  go_wp2_with fail
  refine (Alloc_void _ _ _ v0).mono ?_; rintro e w' ⟨rfl, rfl⟩
  go_wp2_with fail
  refine (Load_void _ _ _ v0).mono ?_; rintro e w1 ⟨rfl, hB1⟩
  have v1 := v0.below hB1
  have r1 := r0.keep (hB1.block _ r0.lt)
  have b1 := b0.trans (hB1.mono b0.size)
  go_wp2_with fail
  refine (Store_void _ _ _ _ v1).mono ?_; rintro e w2 ⟨rfl, hB2⟩
  have v2 := v1.below hB2
  have r2 := r1.keep (hB2.block _ r1.lt)
  have b2 := b1.trans (hB2.mono b1.size)
  go_wp2_with fail
  refine (Swap_void _ _ _ _ _ v2).mono ?_; rintro e w3 ⟨rfl, hB3⟩
  have v3 := v2.below hB3
  have r3 := r2.keep (hB3.block _ r2.lt)
  have b3 := b2.trans (hB3.mono b2.size)
  go_wp2_with fail
  refine (Add_void _ _ _ _ v3).mono ?_; rintro e w4 ⟨rfl, hB4⟩
  have v4 := v3.below hB4
  have r4 := r3.keep (hB4.block _ r3.lt)
  have b4 := b3.trans (hB4.mono b3.size)
  clear v0 v1 v2 v3 r0 r1 r2 r3 b0 b1 b2 b3 hB1 hB2 hB3 hB4
  go_wp2_with fail
  refine (Log_void _ _ v4).mono ?_; rintro e w' ⟨rfl, rfl⟩
  have hnf := eql_nilFunc
  go_wp2_with fail
  clear hnf
  refine wp_range 4 rfl (enters_of Try.func35 (by kernel_rfl) rfl) log1_seqs (fun _ => rfl) (Nothing w4) (fun _ _ _ => False)
    (nothing_own _ _ (Nat.le_refl _)) (fun _ _ _ _ _ hs _ _ => hs) (fun _ _ _ => trivial) (Below.refl _ _) ?round ?done ?stop
  case round =>
    intro l pre x rest W _ hx _
    simp at hx
  case stop => exact fun _ _ _ _ _ _ h _ => h.elim
  case done =>
    rintro D1 w5 hD1 hB5 hdef1
    have v5 := v4.below hB5
    have r5 := r4.keep (hB5.block _ r4.lt)
    have b5 := b4.trans (hB5.mono b4.size)
    have hD1lt := (Array.getElem?_eq_some_iff.1 hdef1).1
    have hwD : w.heap.size ≤ D1 := Nat.le_trans b4.size hD1
    clear v4 r4 b4 hB5
    go_wp2_with fail
    refine (New_do 9 _ (by decide) (by decide)).mono ?_
    rintro e w6 ⟨b, rfl, a6⟩
    go_wp2_with fail
    refine (kn1 a6).mono ?_; rintro e w7 ⟨rfl, a7⟩
    go_wp2_with fail
    refine (Log_are _ a7.are).mono ?_; rintro e w8 ⟨bs, A, c, rfl, hsn, hbs, hro, hB8⟩
    have a8 := a7.split hB8
    have hs7 := a7.keep.size
    have hs8 := hB8.size
    go_wp2_with fail
    refine (kn2 x a8).mono ?_; rintro e w9 ⟨rfl, a9⟩
    have hs9 := a9.keep.size
    have b59 : Below w5.heap.size w5 w9 := (a7.toBelow.trans (hB8.mono hs7)).trans (a9.keep.below (fun k hk => by omega) (by omega))
    have hsn9 : Snap60 [] bs A c w9 := hsn.keep (B := w7.heap.size) hbs hro (fun k h1 h2 => a9.keep.block k h2 (by omega))
    have v9 := v5.below b59
    have r9 := r5.keep (b59.block _ r5.lt)
    have b9 := b5.trans (b59.mono b5.size)
    have def1 := (b59.block D1 hD1lt).trans hdef1
    clear v5 r5 b5 hdef1 a6 a7 a8 hsn hB8
    have hnf := eql_nilFunc
    go_wp2_with fail
    clear hnf
    refine wp_range 4 rfl (enters_of Try.func37 (by kernel_rfl) rfl) (log2_seqs [] bs A c (by decide)) (fun _ => rfl) (Nothing w9) (fun _ _ _ => False)
      (nothing_own _ _ (Nat.le_refl _)) (fun _ _ _ _ _ hs _ _ => hs) (fun _ _ hi => hsn9.below hi) (Below.refl _ _) ?round2 ?done2 ?stop2
    case round2 =>
      intro l pre x rest W _ hx _
      simp [logList] at hx
    case stop2 => exact fun _ _ _ _ _ _ h _ => h.elim
    case done2 =>
      rintro D2 w10 hD2 hB10 hdef2
      have a10 := a9.below hB10
      have v10 := v9.below hB10
      have r10 := r9.keep (hB10.block _ r9.lt)
      have b10 := b9.trans (hB10.mono b9.size)
      have hd1 := (hB10.block D1 (by omega)).trans def1
      have hD2lt := (Array.getElem?_eq_some_iff.1 hdef2).1
      have hs10 := hB10.size
      have c1 := Len_void _ _ v10
      have c2 := Most_void _ _ v10
      have c3 := Count_void _ _ v10
      have c4 := Copy_void _ _ v10
      have c5 := Same_void2 _ (.pointer none) _ v10 (.inl rfl)
      have c6 := Same_are_void _ _ a10.are v10
      have c7 := works_any w10
      go_wp2_with (first
        | (go_at_call 12; refine (num_any _ _).mono ?_; rintro e w' ⟨rfl, rfl⟩)
        | (go_at_call 25; refine c1.mono ?_; rintro e w' ⟨rfl, rfl⟩)
        | (go_at_call 26; refine c2.mono ?_; rintro e w' ⟨rfl, rfl⟩)
        | (go_at_call 18; refine c3.mono ?_; rintro e w' ⟨rfl, rfl⟩)
        | (go_at_call 19; refine c4.mono ?_; rintro e w' ⟨rfl, rfl⟩)
        | fail)
      refine c5.mono ?_; rintro e w' ⟨rfl, rfl⟩
      go_wp2_with fail
      refine c6.mono ?_; rintro e w' ⟨rfl, rfl⟩
      go_wp2_with fail
      refine c7.mono ?_; rintro e w11 ⟨rfl, hB11⟩
      have r11 := r10.keep (hB11.block _ r10.lt)
      have z0 := r11.cell 0
      have z1 := r11.frozen 0
      simp at z0
      have e1 := (hB11.block D1 (by omega)).trans hd1
      have e2 := (hB11.block D2 hD2lt).trans hdef2
      have b11 := b10.trans (hB11.mono b10.size)
      have hRD1 : w.heap.size ≠ D1 := fun e => by subst e; rw [show _ = _ from r11] at e1; cases e1
      have hRD2 : w.heap.size ≠ D2 := fun e => by subst e; rw [show _ = _ from r11] at e2; cases e2
      have hDD : D1 ≠ D2 := by omega
      clear c1 c2 c3 c4 c5 c6 c7 a10 hsn9 def1 hd1 hdef2
      go_wp2_with fail
      have r12 : Blk _ w.heap.size 4 #[.bool true] := r11.set 0 (.bool true)
      have e1' := (Below.heap_setCell w11 ⟨w.heap.size, 0, none⟩ (.bool true) D1 (Ne.symm hRD1)).trans e1
      have e2' := (Below.heap_setCell w11 ⟨w.heap.size, 0, none⟩ (.bool true) D2 (Ne.symm hRD2)).trans e2
      have b12 := b11.setCell (p := ⟨w.heap.size, 0, none⟩) (Nat.le_refl _) (.bool true)
      revert r12 e1' e2' b12
      generalize w11.setCell ⟨w.heap.size, 0, none⟩ (.bool true) = w12
      intro r12 e1' e2' b12
      have r13 := blk_putObj (o' := .deferred none) r12 e2' rfl
      have e3 : (w12.putObj D2 (.deferred none)).heap[D1]? = some (.deferred (some [])) := (World.putObj_heap_other hDD).trans e1'
      have r14 := blk_putObj (o' := .deferred none) r13 e3 rfl
      have b13 := b12.trans (belowK_b (Nat.le_refl _) w12 D2 _ (.deferred none) (by omega) e2' rfl rfl)
      have b14 := b13.trans (belowK_b (Nat.le_refl _) _ D1 _ (.deferred none) hwD e3 rfl rfl)
      have c14 := r14.cell 0
      simp at c14
      refine ⟨by simp, .inl ⟨_, _, rfl, run_takeDeferred e2', ?_⟩⟩
      refine ⟨by simp, .inl ⟨_, _, rfl, run_takeDeferred e3, ?_⟩⟩
      exact ⟨_, (by simp [results, Try.results6, go_sem, c14]), rfl, b14⟩

set_option maxRecDepth 100000 in
set_option maxHeartbeats 6400000 in
theorem none_zero (at_ x y : Int) (w : World) : Calls Try.prog 6 #[.int .i64 at_, .int .u64 x, .int .u64 y, .bool true] w fun e w' => e = .returned (.bool true) ∧ Below w.heap.size w w' := by
  refine calls_of_wp_marks 5 Try.func6 rfl ?_
  simp only [Try.ntmps6, List.size_toArray, List.length_cons, List.length_nil, Nat.reduceAdd, Nat.reduceSub, Array.replicate_succ, Array.replicate_zero, List.push_toArray, List.append_toArray, List.nil_append, List.cons_append]
  have v0 : Void ((w.alloc (.cells #[.bool false] 4)).alloc (.cells #[.int .u64 0, .slice none 0 0, .slice none 0 0, .int .i64 0] 62)) (.pointer (some ⟨w.heap.size + 1, 0, none⟩)) := .inr ⟨_, rfl, by simp, by simp⟩
  have r0 : Blk ((w.alloc (.cells #[.bool false] 4)).alloc (.cells #[.int .u64 0, .slice none 0 0, .slice none 0 0, .int .i64 0] 62)) w.heap.size 4 #[.bool false] := (Blk.new w _ _).alloc _
  have b0 : Below w.heap.size w ((w.alloc (.cells #[.bool false] 4)).alloc (.cells #[.int .u64 0, .slice none 0 0, .slice none 0 0, .int .i64 0] 62)) := ((Below.refl _ _).alloc (Nat.le_refl _) _).alloc (by simp) _
  go_wp2_with fail
  refine (Alloc_void _ _ _ v0).mono ?_; rintro e w' ⟨rfl, rfl⟩
  go_wp2_with fail
  refine (Load_void _ _ _ v0).mono ?_; rintro e w1 ⟨rfl, hB1⟩
  have v1 := v0.below hB1
  have r1 := r0.keep (hB1.block _ r0.lt)
  have b1 := b0.trans (hB1.mono b0.size)
  go_wp2_with fail
  refine (Store_void _ _ _ _ v1).mono ?_; rintro e w2 ⟨rfl, hB2⟩
  have v2 := v1.below hB2
  have r2 := r1.keep (hB2.block _ r1.lt)
  have b2 := b1.trans (hB2.mono b1.size)
  go_wp2_with fail
  refine (Swap_void _ _ _ _ _ v2).mono ?_; rintro e w3 ⟨rfl, hB3⟩
  have v3 := v2.below hB3
  have r3 := r2.keep (hB3.block _ r2.lt)
  have b3 := b2.trans (hB3.mono b2.size)
  go_wp2_with fail
  refine (Add_void _ _ _ _ v3).mono ?_; rintro e w4 ⟨rfl, hB4⟩
  have v4 := v3.below hB4
  have r4 := r3.keep (hB4.block _ r3.lt)
  have b4 := b3.trans (hB4.mono b3.size)
  clear v0 v1 v2 v3 r0 r1 r2 r3 b0 b1 b2 b3 hB1 hB2 hB3 hB4
  go_wp2_with fail
  refine (Log_void _ _ v4).mono ?_; rintro e w' ⟨rfl, rfl⟩
  have hnf := eql_nilFunc
  go_wp2_with fail
  clear hnf
  refine wp_range 4 rfl (enters_of Try.func35 (by kernel_rfl) rfl) log1_seqs (fun _ => rfl) (Nothing w4) (fun _ _ _ => False)
    (nothing_own _ _ (Nat.le_refl _)) (fun _ _ _ _ _ hs _ _ => hs) (fun _ _ _ => trivial) (Below.refl _ _) ?round ?done ?stop
  case round =>
    intro l pre x rest W _ hx _
    simp at hx
  case stop => exact fun _ _ _ _ _ _ h _ => h.elim
  case done =>
    rintro D1 w5 hD1 hB5 hdef1
    have v5 := v4.below hB5
    have r5 := r4.keep (hB5.block _ r4.lt)
    have b5 := b4.trans (hB5.mono b4.size)
    have hD1lt := (Array.getElem?_eq_some_iff.1 hdef1).1
    have hwD : w.heap.size ≤ D1 := Nat.le_trans b4.size hD1
    clear v4 r4 b4 hB5
    go_wp2_with fail
    refine (New_do 9 _ (by decide) (by decide)).mono ?_
    rintro e w6 ⟨b, rfl, a6⟩
    go_wp2_with fail
    refine (kn1 a6).mono ?_; rintro e w7 ⟨rfl, a7⟩
    go_wp2_with fail
    refine (Log_are _ a7.are).mono ?_; rintro e w8 ⟨bs, A, c, rfl, hsn, hbs, hro, hB8⟩
    have a8 := a7.split hB8
    have hs7 := a7.keep.size
    have hs8 := hB8.size
    go_wp2_with fail
    refine (kn2 x a8).mono ?_; rintro e w9 ⟨rfl, a9⟩
    have hs9 := a9.keep.size
    have b59 : Below w5.heap.size w5 w9 := (a7.toBelow.trans (hB8.mono hs7)).trans (a9.keep.below (fun k hk => by omega) (by omega))
    have hsn9 : Snap60 [] bs A c w9 := hsn.keep (B := w7.heap.size) hbs hro (fun k h1 h2 => a9.keep.block k h2 (by omega))
    have v9 := v5.below b59
    have r9 := r5.keep (b59.block _ r5.lt)
    have b9 := b5.trans (b59.mono b5.size)
    have def1 := (b59.block D1 hD1lt).trans hdef1
    clear v5 r5 b5 hdef1 a6 a7 a8 hsn hB8
    have hnf := eql_nilFunc
    go_wp2_with fail
    clear hnf
    refine wp_range 4 rfl (enters_of Try.func37 (by kernel_rfl) rfl) (log2_seqs [] bs A c (by decide)) (fun _ => rfl) (Nothing w9) (fun _ _ _ => False)
      (nothing_own _ _ (Nat.le_refl _)) (fun _ _ _ _ _ hs _ _ => hs) (fun _ _ hi => hsn9.below hi) (Below.refl _ _) ?round2 ?done2 ?stop2
    case round2 =>
      intro l pre x rest W _ hx _
      simp [logList] at hx
    case stop2 => exact fun _ _ _ _ _ _ h _ => h.elim
    case done2 =>
      rintro D2 w10 hD2 hB10 hdef2
      have a10 := a9.below hB10
      have v10 := v9.below hB10
      have r10 := r9.keep (hB10.block _ r9.lt)
      have b10 := b9.trans (hB10.mono b9.size)
      have hd1 := (hB10.block D1 (by omega)).trans def1
      have hD2lt := (Array.getElem?_eq_some_iff.1 hdef2).1
      have hs10 := hB10.size
      have c1 := Len_void _ _ v10
      have c2 := Most_void _ _ v10
      have c3 := Count_void _ _ v10
      have c4 := Copy_void _ _ v10
      have c5 := Same_void2 _ (.pointer none) _ v10 (.inl rfl)
      have c6 := Same_are_void _ _ a10.are v10
      have c7 := works_any w10
      go_wp2_with (first
        | (go_at_call 12; refine (num_any _ _).mono ?_; rintro e w' ⟨rfl, rfl⟩)
        | (go_at_call 25; refine c1.mono ?_; rintro e w' ⟨rfl, rfl⟩)
        | (go_at_call 26; refine c2.mono ?_; rintro e w' ⟨rfl, rfl⟩)
        | (go_at_call 18; refine c3.mono ?_; rintro e w' ⟨rfl, rfl⟩)
        | (go_at_call 19; refine c4.mono ?_; rintro e w' ⟨rfl, rfl⟩)
        | fail)
      refine c5.mono ?_; rintro e w' ⟨rfl, rfl⟩
      go_wp2_with fail
      refine c6.mono ?_; rintro e w' ⟨rfl, rfl⟩
      go_wp2_with fail
      refine c7.mono ?_; rintro e w11 ⟨rfl, hB11⟩
      have r11 := r10.keep (hB11.block _ r10.lt)
      have z0 := r11.cell 0
      have z1 := r11.frozen 0
      simp at z0
      have e1 := (hB11.block D1 (by omega)).trans hd1
      have e2 := (hB11.block D2 hD2lt).trans hdef2
      have b11 := b10.trans (hB11.mono b10.size)
      have hRD1 : w.heap.size ≠ D1 := fun e => by subst e; rw [show _ = _ from r11] at e1; cases e1
      have hRD2 : w.heap.size ≠ D2 := fun e => by subst e; rw [show _ = _ from r11] at e2; cases e2
      have hDD : D1 ≠ D2 := by omega
      clear c1 c2 c3 c4 c5 c6 c7 a10 hsn9 def1 hd1 hdef2
      go_wp2_with fail
      have r12 : Blk _ w.heap.size 4 #[.bool true] := r11.set 0 (.bool true)
      have e1' := (Below.heap_setCell w11 ⟨w.heap.size, 0, none⟩ (.bool true) D1 (Ne.symm hRD1)).trans e1
      have e2' := (Below.heap_setCell w11 ⟨w.heap.size, 0, none⟩ (.bool true) D2 (Ne.symm hRD2)).trans e2
      have b12 := b11.setCell (p := ⟨w.heap.size, 0, none⟩) (Nat.le_refl _) (.bool true)
      revert r12 e1' e2' b12
      generalize w11.setCell ⟨w.heap.size, 0, none⟩ (.bool true) = w12
      intro r12 e1' e2' b12
      have r13 := blk_putObj (o' := .deferred none) r12 e2' rfl
      have e3 : (w12.putObj D2 (.deferred none)).heap[D1]? = some (.deferred (some [])) := (World.putObj_heap_other hDD).trans e1'
      have r14 := blk_putObj (o' := .deferred none) r13 e3 rfl
      have b13 := b12.trans (belowK_b (Nat.le_refl _) w12 D2 _ (.deferred none) (by omega) e2' rfl rfl)
      have b14 := b13.trans (belowK_b (Nat.le_refl _) _ D1 _ (.deferred none) hwD e3 rfl rfl)
      have c14 := r14.cell 0
      simp at c14
      refine ⟨by simp, .inl ⟨_, _, rfl, run_takeDeferred e2', ?_⟩⟩
      refine ⟨by simp, .inl ⟨_, _, rfl, run_takeDeferred e3, ?_⟩⟩
      exact ⟨_, (by simp [results, Try.results6, go_sem, c14]), rfl, b14⟩

end Go.Proofs.Ytbojbhjaeekjpaa
