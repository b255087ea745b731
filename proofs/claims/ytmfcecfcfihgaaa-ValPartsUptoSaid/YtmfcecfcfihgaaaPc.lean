/- Copy. -/
import Derived.Test.YtmfcecfcfihgaaaPb
namespace Go.Proofs.Ytmfcecfcfihgaaa
open Go.RowKit Go.Shelf
attribute [local go_sem] Oper.semAt_some

theorem info_parts {P : Program} {t : TypeId} {v : Value} {n b : Nat} (h : (P.info? t).map (fun i => (i.zero, i.size, i.bytes)) = some (some v, n, b)) : ∃ i, P.info? t = some i ∧ i.zero = some v ∧ i.size = n ∧ i.bytes = b := by
  cases hq : P.info? t with
  | none => simp [hq] at h
  | some i => simp [hq] at h; exact ⟨i, rfl, h.1, h.2.1, h.2.2⟩
theorem box_after {W W' : World} {g : Nat} {t t' : TypeId} {a b q : Nat} {x y z : Value} (h : Within W W' g t a b) (hb : Blk W q t' #[x, y, z]) (hne : q ≠ g) :
    W'.cell? ⟨q, 0, none⟩ = some x ∧ W'.cell? ⟨q, 1, none⟩ = some y ∧ W'.cell? ⟨q, 2, none⟩ = some z ∧ W'.frozen? ⟨q, 0, none⟩ = false ∧ W'.frozen? ⟨q, 1, none⟩ = false ∧ W'.frozen? ⟨q, 2, none⟩ = false := by
  have hk := hb.keep (h.k.block _ hb.lt hne)
  exact ⟨hk.cells3.1, hk.cells3.2.1, hk.cells3.2.2, hk.frozen _, hk.frozen _, hk.frozen _⟩
theorem copy_end {w W w2 W' : World} {g a b a' b' : Nat} {t : TypeId} {v : Value} {T : V} (hI : InG w2 g a b v T) (hWi : Within W w2 g t a' b') (hbW : Below w.heap.size w W) (hg : w.heap.size ≤ g) (hk : Keep (fun k => w.heap.size ≤ k ∧ k ≠ g) w2 W') :
    In W' w.heap.size W'.heap.size v T ∧ Below w.heap.size w W' := by
  obtain ⟨cs, cs', _, hb, _⟩ := hWi.ex
  have hlt := hb.lt
  refine ⟨((hI.in_.keep (fun q h1 h2 => hk.block q (by omega) (by omega))).mono hg (by have := hk.size; omega)), ?_⟩
  have hb2 : Below w.heap.size w w2 := hbW.trans (hWi.k.below (fun k e => by subst e; exact hg) hbW.size)
  exact hb2.trans (hk.below (fun k e => e.1) hb2.size)
theorem set3_cells {X : World} {q : Nat} {a b c : Value} (h0 : X.cell? ⟨q, 0, none⟩ = some a) (h1 : X.cell? ⟨q, 1, none⟩ = some b) (h2 : X.cell? ⟨q, 2, none⟩ = some c) (x y z : Value) :
    (((X.setCell ⟨q, 0, none⟩ x).setCell ⟨q, 1, none⟩ y).setCell ⟨q, 2, none⟩ z).cell? ⟨q, 0, none⟩ = some x ∧ (((X.setCell ⟨q, 0, none⟩ x).setCell ⟨q, 1, none⟩ y).setCell ⟨q, 2, none⟩ z).cell? ⟨q, 1, none⟩ = some y ∧
    (((X.setCell ⟨q, 0, none⟩ x).setCell ⟨q, 1, none⟩ y).setCell ⟨q, 2, none⟩ z).cell? ⟨q, 2, none⟩ = some z := by
  refine ⟨?_, ?_, ?_⟩
  · rw [World.cell?_setCell_other _ _ _ _ (by simp), World.cell?_setCell_other _ _ _ _ (by simp)]
    exact World.cell?_setCell_same _ _ _ h0
  · rw [World.cell?_setCell_other _ _ _ _ (by simp)]
    exact World.cell?_setCell_same _ _ _ (by rw [World.cell?_setCell_other _ _ _ _ (by simp)]; exact h1)
  · exact World.cell?_setCell_same _ _ _ (by rw [World.cell?_setCell_other _ _ _ _ (by simp), World.cell?_setCell_other _ _ _ _ (by simp)]; exact h2)
theorem set3_far {X : World} {q r i : Nat} (hne : r ≠ q) (x y z : Value) : (((X.setCell ⟨q, 0, none⟩ x).setCell ⟨q, 1, none⟩ y).setCell ⟨q, 2, none⟩ z).cell? ⟨r, i, none⟩ = X.cell? ⟨r, i, none⟩ := by
  rw [World.cell?_setCell_other _ _ _ _ (by simp <;> exact fun h => absurd h hne), World.cell?_setCell_other _ _ _ _ (by simp <;> exact fun h => absurd h hne), World.cell?_setCell_other _ _ _ _ (by simp <;> exact fun h => absurd h hne)]
theorem keep_set3 {F : Nat → Prop} {a X : World} {q : Nat} (h : Keep F a X) (hq : F q) (x y z : Value) : Keep F a (((X.setCell ⟨q, 0, none⟩ x).setCell ⟨q, 1, none⟩ y).setCell ⟨q, 2, none⟩ z) :=
  ((h.setCell (.inl hq) _).setCell (.inl hq) _).setCell (.inl hq) _
theorem valInfo : (Try.prog.info? 36).map (fun i => (i.zero, i.size, i.bytes)) = some (some (.agg #[.int .i64 0, .int .i64 0, .slice none 0 0]), 3, 40) := by kernel_rfl

set_option maxRecDepth 100000 in
set_option maxHeartbeats 3200000 in
theorem Copy_big {hi : Nat} {v : Value} {T : V} (w : World) (h : In w 0 hi v T) (hh : hi ≤ w.heap.size) (hT : ¬ T.size ≤ 256) : Calls Try.prog 22 #[v] w fun e w' => e = .returned (.agg #[.int .i64 0, .int .i64 0, .slice none 0 0]) ∧ Below w.heap.size w w' := by
  obtain ⟨A, c, rfl, hc1, hc2, _⟩ := h.val
  obtain ⟨W2, hW2⟩ : ∃ W2, (w.alloc (.cells #[.int .i64 T.k, .int .i64 T.n, .slice A T.l.length c] 36)).alloc (.cells #[.int .i64 0, .int .i64 0, .slice none 0 0] 36) = W2 := ⟨_, rfl⟩
  have hb2 : Below w.heap.size w W2 := by rw [← hW2]; exact below2 w _ _
  have b1 : Cells3 W2 (w.heap.size + 1) (.int .i64 0) (.int .i64 0) (.slice none 0 0) := by
    rw [← hW2]
    have := (Blk.new (w.alloc (.cells #[.int .i64 T.k, .int .i64 T.n, .slice A T.l.length c] 36)) 36 #[.int .i64 0, .int .i64 0, .slice none 0 0])
    rw [World.size_alloc] at this
    exact this.cells3
  have hS := (Size_ok W2 (h.after (hb2.mono hh)) (Nat.le_trans hh hb2.size)).mono
    (R' := fun e w' => e = .returned (.int .i64 (T.sz : Int)) ∧ Cells3 w' (w.heap.size + 1) (.int .i64 0) (.int .i64 0) (.slice none 0 0) ∧ w'.frozen? ⟨w.heap.size + 1, 0, none⟩ = false ∧ w'.frozen? ⟨w.heap.size + 1, 1, none⟩ = false ∧ w'.frozen? ⟨w.heap.size + 1, 2, none⟩ = false ∧ Hid (Below w.heap.size w w'))
    (fun e w' q => by
      have hk := (show Blk W2 (w.heap.size + 1) 36 #[.int .i64 0, .int .i64 0, .slice none 0 0] from by
        rw [← hW2]
        have := (Blk.new (w.alloc (.cells #[.int .i64 T.k, .int .i64 T.n, .slice A T.l.length c] 36)) 36 #[.int .i64 0, .int .i64 0, .slice none 0 0])
        rwa [World.size_alloc] at this)
      have hk' := hk.keep (q.2.block _ hk.lt)
      exact ⟨q.1, hk'.cells3, hk'.frozen _, hk'.frozen _, hk'.frozen _, Lib.hid (hb2.trans (q.2.mono hb2.size))⟩)
  have hTI : (256 : Int) < (T.sz : Int) := by unfold V.sz; omega
  rw [← hW2] at hS
  clear h hb2 b1 hW2
  go_enter Try.func22, Try.ntmps22
  go_wp2_with (go_at_call 69; refine hS.mono ?_; rintro e w1 ⟨rfl, ⟨c0, c1, c2⟩, f0, f1, f2, hB⟩)
  obtain ⟨_, _, _, ee, r0, r1, r2⟩ : Three (set3 w1 (w.heap.size + 1) 0 (.int .i64 0) (.int .i64 0) (.slice none 0 0)) (w.heap.size + 1) 0 (.agg #[.int .i64 0, .int .i64 0, .slice none 0 0]) := by
    unfold set3
    refine ⟨_, _, _, rfl, ?_, ?_, ?_⟩
    · rw [World.cell?_setCell_other _ _ _ _ (by simp), World.cell?_setCell_other _ _ _ _ (by simp)]
      exact World.cell?_setCell_same _ _ _ c0
    · rw [World.cell?_setCell_other _ _ _ _ (by simp)]
      exact World.cell?_setCell_same _ _ _ (by rw [World.cell?_setCell_other _ _ _ _ (by simp)]; exact c1)
    · exact World.cell?_setCell_same _ _ _ (by rw [World.cell?_setCell_other _ _ _ _ (by simp), World.cell?_setCell_other _ _ _ _ (by simp)]; exact c2)
  obtain ⟨rfl, rfl, rfl⟩ := agg3 ee
  unfold set3 at r0 r1 r2
  simp only [Nat.zero_add] at r0 r1 r2
  refine bodyPost_ret (v := .agg #[.int .i64 0, .int .i64 0, .slice none 0 0]) (by simp [results, Try.results22, go_sem, r0, r1, r2]) rfl ?_
  exact ⟨rfl, ((hB.out.setCell (by simp) _).setCell (by simp) _).setCell (by simp) _⟩

set_option maxRecDepth 100000 in
set_option maxHeartbeats 3200000 in
theorem Copy_ok {hi : Nat} {v : Value} {T : V} (w : World) (h : In w 0 hi v T) (hh : hi ≤ w.heap.size) (hT : T.size ≤ 256) : Calls Try.prog 22 #[v] w fun e w' => ∃ v', e = .returned v' ∧ In w' w.heap.size w'.heap.size v' T ∧ Below w.heap.size w w' := by
  obtain ⟨A, c, rfl, hc1, hc2, _⟩ := h.val
  obtain ⟨W2, hW2⟩ : ∃ W2, (w.alloc (.cells #[.int .i64 T.k, .int .i64 T.n, .slice A T.l.length c] 36)).alloc (.cells #[.int .i64 0, .int .i64 0, .slice none 0 0] 36) = W2 := ⟨_, rfl⟩
  have hb2 : Below w.heap.size w W2 := by rw [← hW2]; exact below2 w _ _
  have b0 : Blk W2 w.heap.size 36 #[.int .i64 T.k, .int .i64 T.n, .slice A T.l.length c] := by rw [← hW2]; exact (Blk.new w _ _).alloc _
  have b1 : Blk W2 (w.heap.size + 1) 36 #[.int .i64 0, .int .i64 0, .slice none 0 0] := by
    rw [← hW2]
    have := (Blk.new (w.alloc (.cells #[.int .i64 T.k, .int .i64 T.n, .slice A T.l.length c] 36)) 36 #[.int .i64 0, .int .i64 0, .slice none 0 0])
    rwa [World.size_alloc] at this
  have hS := (Size_ok W2 (h.after (hb2.mono hh)) (Nat.le_trans hh hb2.size)).mono
    (R' := fun e w' => e = .returned (.int .i64 (T.sz : Int)) ∧ Cells3 w' w.heap.size (.int .i64 T.k) (.int .i64 T.n) (.slice A T.l.length c) ∧ Hid (Blk w' (w.heap.size + 1) 36 #[.int .i64 0, .int .i64 0, .slice none 0 0] ∧ Below w.heap.size w w'))
    (fun e w' q => ⟨q.1, (b0.keep (q.2.block _ b0.lt)).cells3, Lib.hid ⟨b1.keep (q.2.block _ b1.lt), hb2.trans (q.2.mono hb2.size)⟩⟩)
  obtain ⟨m, hm⟩ : ∃ m, T.size = m + 1 := ⟨T.size - 1, by have := T.size_pos; omega⟩
  have hsm : V.sizeL T.l = m := by
    have : T.size = 1 + V.sizeL T.l := by cases T; exact V.size_mk _ _ _
    omega
  have hTI : (T.sz : Int) = (m : Int) + 1 := by unfold V.sz; omega
  rw [hTI] at hS
  have hm1 : (m : Int) + 1 ≤ 256 := by omega
  have hm0 : (0 : Int) ≤ (m : Int) := by omega
  have hmk : ∀ W : World, (Instr.makeSlice 34 (.int .i64 (m : Int)) (.int .i64 (m : Int))).run Try.prog W = .ok (.slice (some ⟨W.heap.size, 0, none⟩) m m) (W.alloc (.cells (madeCells #[.int .i64 0, .int .i64 0, .slice none 0 0] (m * 3)) 36)) := fun W => by
    obtain ⟨i0, hi0, hz0, hz1, hz2⟩ := info_parts valInfo
    have hr := run_make (P := Try.prog) W 34 36 i0 _ Try.underlying34 hi0 hz0 .i64 .i64 m m (by omega) (Int.le_refl _) (by rw [hz2]; omega) (by omega)
    simpa [hz1, Value.cells] using hr
  have hw1 : IntKind.i64.wrap ((m : Int) + 1 - 1) = (m : Int) := by rw [show (m : Int) + 1 - 1 = (m : Int) from by omega]; exact IntWalk.i64_in _ (by omega)
  have hw2 : IntKind.i64.wrap (m : Int) = (m : Int) := IntWalk.i64_in _ (by omega)
  have hP : ∀ (W : World) (g : Nat), Below hi w W → hi ≤ g → Blk W g 36 (madeCells #[.int .i64 0, .int .i64 0, .slice none 0 0] (m * 3)) →
      Calls Try.prog 81 #[.agg #[.int .i64 T.k, .int .i64 T.n, .slice A T.l.length c], .slice (some ⟨g, 0, none⟩) m m] W fun e w' =>
        ∃ S c' B, e = .returned (.tuple #[.agg #[.int .i64 T.k, .int .i64 T.n, .slice S T.l.length c'], .slice B 0 0]) ∧ Hid (InG w' g 0 (3 * m) (.agg #[.int .i64 T.k, .int .i64 T.n, .slice S T.l.length c']) T ∧ Within W w' g 36 0 (3 * m)) := fun W g h1 h2 h3 =>
    (place_ok T _ W _ 0 m _ (h.after h1) h2 (Nat.le_trans hh h1.size) h3 (by rw [size_madeCells]; omega) (by omega) (by unfold maxLen; omega) (fun _ => rfl)).mono fun e w' hq => by
      obtain ⟨S, c', B, rfl, _, h5, h6⟩ := hq
      refine ⟨S, c', B, by rw [hsm, Nat.sub_self], Lib.hid ⟨?_, ?_⟩⟩
      · rw [hsm, Nat.zero_add] at h5; exact h5
      · rw [hsm, Nat.zero_add] at h6; exact h6
  rw [← hW2] at hS
  clear hTI
  have HH := Lib.hid h
  clear h hb2 b0 b1 hW2
  go_enter Try.func22, Try.ntmps22
  go_wp2_with (go_at_call 69; refine hS.mono ?_; rintro e w1 ⟨rfl, ⟨c0, c1, c2⟩, hB⟩)
  have HP := Lib.hid hP
  clear hP
  have hb1 : Below hi w w1 := hB.out.2.mono hh
  have hg1 : hi ≤ w1.heap.size := Nat.le_trans hh hB.out.2.size
  have hA1 := HP.out (w1.alloc (.cells (madeCells #[.int .i64 0, .int .i64 0, .slice none 0 0] (m * 3)) 36)).drew w1.heap.size (hb1.alloc hg1 _).drew hg1 (Blk.new w1 _ _).drew
  have hA2 := HP.out ((w1.alloc (.cells (madeCells #[.int .i64 0, .int .i64 0, .slice none 0 0] (m * 3)) 36)).alloc (.cells #[.int .i64 0, .int .i64 0, .slice none 0 0] 36)).drew w1.heap.size ((hb1.alloc hg1 _).alloc (by simp; omega) _).drew hg1 ((Blk.new w1 _ _).alloc _).drew
  have hA3 := HP.out ((w1.alloc (.cells #[.int .i64 0, .int .i64 0, .slice none 0 0] 36)).alloc (.cells (madeCells #[.int .i64 0, .int .i64 0, .slice none 0 0] (m * 3)) 36)).drew (w1.heap.size + 1) ((hb1.alloc hg1 _).alloc (by simp; omega) _).drew (by omega) (by
    have := Blk.new (w1.alloc (.cells #[.int .i64 0, .int .i64 0, .slice none 0 0] 36)) 36 (madeCells #[.int .i64 0, .int .i64 0, .slice none 0 0] (m * 3)); rw [World.size_alloc] at this; exact this.drew)
  have hX2 : Hid (Blk ((w1.alloc (.cells (madeCells #[.int .i64 0, .int .i64 0, .slice none 0 0] (m * 3)) 36)).alloc (.cells #[.int .i64 0, .int .i64 0, .slice none 0 0] 36)).drew (w1.heap.size + 1) 36 #[.int .i64 0, .int .i64 0, .slice none 0 0]) := Lib.hid (by
    have := Blk.new (w1.alloc (.cells (madeCells #[.int .i64 0, .int .i64 0, .slice none 0 0] (m * 3)) 36)) 36 #[.int .i64 0, .int .i64 0, .slice none 0 0]; rw [World.size_alloc] at this; exact this.drew)
  have hX3 : Hid (Blk ((w1.alloc (.cells #[.int .i64 0, .int .i64 0, .slice none 0 0] 36)).alloc (.cells (madeCells #[.int .i64 0, .int .i64 0, .slice none 0 0] (m * 3)) 36)).drew w1.heap.size 36 #[.int .i64 0, .int .i64 0, .slice none 0 0]) := Lib.hid ((Blk.new w1 _ _).alloc _).drew
  have HB := Lib.hid hb1
  have hlt : w.heap.size < w1.heap.size := lt_of_cell c0
  have hlt2 : w.heap.size + 1 < w1.heap.size := hB.out.1.lt
  clear hb1
  go_region_with (first | (go_at_call 81; with_reducible refine hA1.mono ?_; rintro e w2 ⟨S, c', B, rfl, hQ⟩) | (go_at_call 81; with_reducible refine hA2.mono ?_; rintro e w2 ⟨S, c', B, rfl, hQ⟩; have hne : w1.heap.size + 1 ≠ w1.heap.size := Nat.succ_ne_self _; have hbx := box_after hQ.out.2 hX2.out hne; obtain ⟨d0, d1, d2, f0, f1, f2⟩ := hbx) | (go_at_call 81; with_reducible refine hA3.mono ?_; rintro e w2 ⟨S, c', B, rfl, hQ⟩; have hne : w1.heap.size ≠ w1.heap.size + 1 := Nat.ne_of_lt (Nat.lt_succ_self _); have hbx := box_after hQ.out.2 hX3.out hne; obtain ⟨d0, d1, d2, f0, f1, f2⟩ := hbx))
  all_goals
    have hres := box_after hQ.out.2 (q := w.heap.size + 1) (x := .int .i64 0) (y := .int .i64 0) (z := .slice none 0 0) (t' := 36) (by first | exact (hB.out.1.alloc _).drew | exact ((hB.out.1.alloc _).alloc _).drew) (by omega)
    have hlt3 : w.heap.size + 1 < w2.heap.size := lt_of_cell hres.1
    obtain ⟨r0, r1, r2, s0, s1, s2⟩ := hres
  all_goals obtain ⟨t0, t1, t2⟩ := set3_cells r0 r1 r2 (.int .i64 T.k) (.int .i64 T.n) (.slice S T.l.length c')
  all_goals go_wp2
  all_goals first
    | (refine bodyPost_ret (v := .agg #[.int .i64 T.k, .int .i64 T.n, .slice S T.l.length c']) (by simp [results, Try.results22, go_sem, t0, t1, t2, hlt3]) rfl ⟨_, rfl, ?_⟩
       exact copy_end hQ.out.1 hQ.out.2 ((hB.out.2.alloc (by omega) _).drew) (by omega) ((keep_set3 (Keep.refl _ _) ⟨by omega, by omega⟩ _ _ _).alloc _))
    | (have hd := (show w2.cell? ⟨w1.heap.size + 1, 0, none⟩ = some (.int .i64 0) from d0)
       have hne : w.heap.size + 1 ≠ w1.heap.size + 1 := by omega
       obtain ⟨t0, t1, t2⟩ := set3_cells ((set3_far (i := 0) hne (.int .i64 T.k) (.int .i64 T.n) (.slice S T.l.length c')).trans r0) ((set3_far (i := 1) hne (.int .i64 T.k) (.int .i64 T.n) (.slice S T.l.length c')).trans r1) ((set3_far (i := 2) hne (.int .i64 T.k) (.int .i64 T.n) (.slice S T.l.length c')).trans r2) (.int .i64 T.k) (.int .i64 T.n) (.slice S T.l.length c')
       refine bodyPost_ret (v := .agg #[.int .i64 T.k, .int .i64 T.n, .slice S T.l.length c']) (by simp [results, Try.results22, go_sem, t0, t1, t2]) rfl ⟨_, rfl, ?_⟩
       exact copy_end hQ.out.1 hQ.out.2 (((hB.out.2.alloc (by omega) _).alloc (by simp; omega) _).drew) (by omega) (keep_set3 (keep_set3 (Keep.refl _ _) ⟨by omega, by omega⟩ _ _ _) ⟨by omega, by omega⟩ _ _ _))
    | (have hd := (show w2.cell? ⟨w1.heap.size, 0, none⟩ = some (.int .i64 0) from d0)
       have hne : w.heap.size + 1 ≠ w1.heap.size := by omega
       obtain ⟨t0, t1, t2⟩ := set3_cells ((set3_far (i := 0) hne (.int .i64 T.k) (.int .i64 T.n) (.slice S T.l.length c')).trans r0) ((set3_far (i := 1) hne (.int .i64 T.k) (.int .i64 T.n) (.slice S T.l.length c')).trans r1) ((set3_far (i := 2) hne (.int .i64 T.k) (.int .i64 T.n) (.slice S T.l.length c')).trans r2) (.int .i64 T.k) (.int .i64 T.n) (.slice S T.l.length c')
       refine bodyPost_ret (v := .agg #[.int .i64 T.k, .int .i64 T.n, .slice S T.l.length c']) (by simp [results, Try.results22, go_sem, t0, t1, t2]) rfl ⟨_, rfl, ?_⟩
       exact copy_end hQ.out.1 hQ.out.2 (((hB.out.2.alloc (by omega) _).alloc (by simp; omega) _).drew) (by omega) (keep_set3 (keep_set3 (Keep.refl _ _) ⟨by omega, by omega⟩ _ _ _) ⟨by omega, by omega⟩ _ _ _))
end Go.Proofs.Ytmfcecfcfihgaaa
