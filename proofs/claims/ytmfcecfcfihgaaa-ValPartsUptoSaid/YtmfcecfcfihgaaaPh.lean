/- Copy, and the block that the copy lies in. -/
import Derived.Test.YtmfcecfcfihgaaaPc
import Derived.Test.YtmfcecfcfihgaaaNe
namespace Go.Proofs.Ytmfcecfcfihgaaa
open Go.RowKit Go.Shelf
attribute [local go_sem] Oper.semAt_some

/-- A copy: all of it lies in one new block. -/
structure CopyG (w : World) (T : V) (v : Value) (W : World) : Prop where
  ex : ∃ g cs a b, w.heap.size ≤ g ∧ Blk W g 36 cs ∧ InG W g a b v T
  inn : In W w.heap.size W.heap.size v T
  bl : Below w.heap.size w W
theorem copyG_end {w W w2 W' : World} {g a b a' b' : Nat} {v : Value} {T : V} (hI : InG w2 g a b v T) (hWi : Within W w2 g 36 a' b') (hbW : Below w.heap.size w W) (hg : w.heap.size ≤ g) (hk : Keep (fun k => w.heap.size ≤ k ∧ k ≠ g) w2 W') :
    CopyG w T v W' := by
  obtain ⟨h1, h2⟩ := copy_end hI hWi hbW hg hk
  obtain ⟨cs, cs', _, hb, _⟩ := hWi.ex
  have hkb := hk.block g hb.lt (by omega)
  exact ⟨⟨g, cs', a, b, hg, hb.keep hkb, hI.keep fun i _ _ => cell_same hkb⟩, h1, h2⟩

set_option maxRecDepth 100000 in
set_option maxHeartbeats 3200000 in
theorem CopyG_ok {hi : Nat} {v : Value} {T : V} (w : World) (h : In w 0 hi v T) (hh : hi ≤ w.heap.size) (hT : T.size ≤ 256) : Calls Try.prog 22 #[v] w fun e w' => ∃ v', e = .returned v' ∧ CopyG w T v' w' := by
  obtain ⟨A, c, rfl, hc1, hc2, _⟩ := h.val
  obtain ⟨W2, hW2⟩ : ∃ W2, (w.alloc (.cells #[.int .i64 T.k, .int .i64 T.n, .slice A T.l.length c] 36)).alloc (.cells #[.int .i64 0, .int .i64 0, .slice none 0 0] 36) = W2 := ⟨_, rfl⟩
  have hb2 : Below w.heap.size w W2 := by rw [← hW2]; exact below2 w _ _
  have b0 : Blk W2 w.heap.size 36 #[.int .i64 T.k, .int .i64 T.n, .slice A T.l.length c] := by rw [← hW2]; exact (Blk.new w _ _).alloc _
  have b1 : Blk W2 (w.heap.size + 1) 36 #[.int .i64 0, .int .i64 0, .slice none 0 0] := by
    rw [← hW2]
    have := (Blk.new (w.alloc (.cells #[.int .i64 T.k, .int .i64 T.n, .slice A T.l.length c] 36)) 36 #[.int .i64 0, .int .i64 0, .slice none 0 0])
    rwa [World.size_alloc] at this
  have hS := (Size_ok W2 (h.after (hb2.mono hh)) (Nat.le_trans hh hb2.size)).mono
    (R' := fun e w' => e = .returned (.int .i64 (T.sz : Int)) ∧ Cells3 w' w.heap.size (.int .i64 T.k) (.int .i64 T.n) (.slice A T.l.length c) ∧ Hid (Blk w' (w.heap.size + 1) 36 #[.int .i64 0, .int .i64 0, .slice none 0 0] ∧ Below w.heap.size w w'))
    (fun e w' q => ⟨q.1, (b0.keep (q.2.block _ b0.lt)).cells3, Lib.hid ⟨b1.keep (q.2.block _ b1.lt), hb2.trans (q.2.mono hb2.size)⟩⟩)
  obtain ⟨m, hm⟩ : ∃ m, T.size = m + 1 := ⟨T.size - 1, by have := T.size_pos; omega⟩
  have hsm : V.sizeL T.l = m := by
    have : T.size = 1 + V.sizeL T.l := by cases T; exact V.size_mk _ _ _
    omega
  have hTI : (T.sz : Int) = (m : Int) + 1 := by unfold V.sz; omega
  rw [hTI] at hS
  have hm1 : (m : Int) + 1 ≤ 256 := by omega
  have hm0 : (0 : Int) ≤ (m : Int) := by omega
  have hmk : ∀ W : World, (Instr.makeSlice 34 (.int .i64 (m : Int)) (.int .i64 (m : Int))).run Try.prog W = .ok (.slice (some ⟨W.heap.size, 0, none⟩) m m) (W.alloc (.cells (madeCells #[.int .i64 0, .int .i64 0, .slice none 0 0] (m * 3)) 36)) := fun W => by
    obtain ⟨i0, hi0, hz0, hz1, hz2⟩ := info_parts valInfo
    have hr := run_make (P := Try.prog) W 34 36 i0 _ Try.underlying34 hi0 hz0 .i64 .i64 m m (by omega) (Int.le_refl _) (by rw [hz2]; omega) (by omega)
    simpa [hz1, Value.cells] using hr
  have hw1 : IntKind.i64.wrap ((m : Int) + 1 - 1) = (m : Int) := by rw [show (m : Int) + 1 - 1 = (m : Int) from by omega]; exact IntWalk.i64_in _ (by omega)
  have hw2 : IntKind.i64.wrap (m : Int) = (m : Int) := IntWalk.i64_in _ (by omega)
  have hP : ∀ (W : World) (g : Nat), Below hi w W → hi ≤ g → Blk W g 36 (madeCells #[.int .i64 0, .int .i64 0, .slice none 0 0] (m * 3)) →
      Calls Try.prog 81 #[.agg #[.int .i64 T.k, .int .i64 T.n, .slice A T.l.length c], .slice (some ⟨g, 0, none⟩) m m] W fun e w' =>
        ∃ S c' B, e = .returned (.tuple #[.agg #[.int .i64 T.k, .int .i64 T.n, .slice S T.l.length c'], .slice B 0 0]) ∧ Hid (InG w' g 0 (3 * m) (.agg #[.int .i64 T.k, .int .i64 T.n, .slice S T.l.length c']) T ∧ Within W w' g 36 0 (3 * m)) := fun W g h1 h2 h3 =>
    (place_ok T _ W _ 0 m _ (h.after h1) h2 (Nat.le_trans hh h1.size) h3 (by rw [size_madeCells]; omega) (by omega) (by unfold maxLen; omega) (fun _ => rfl)).mono fun e w' hq => by
      obtain ⟨S, c', B, rfl, _, h5, h6⟩ := hq
      refine ⟨S, c', B, by rw [hsm, Nat.sub_self], Lib.hid ⟨?_, ?_⟩⟩
      · rw [hsm, Nat.zero_add] at h5; exact h5
      · rw [hsm, Nat.zero_add] at h6; exact h6
  rw [← hW2] at hS
  clear hTI
  have HH := Lib.hid h
  clear h hb2 b0 b1 hW2
  go_enter Try.func22, Try.ntmps22
  go_wp2_with (go_at_call 69; refine hS.mono ?_; rintro e w1 ⟨rfl, ⟨c0, c1, c2⟩, hB⟩)
  have HP := Lib.hid hP
  clear hP
  have hb1 : Below hi w w1 := hB.out.2.mono hh
  have hg1 : hi ≤ w1.heap.size := Nat.le_trans hh hB.out.2.size
  have hA1 := HP.out (w1.alloc (.cells (madeCells #[.int .i64 0, .int .i64 0, .slice none 0 0] (m * 3)) 36)).drew w1.heap.size (hb1.alloc hg1 _).drew hg1 (Blk.new w1 _ _).drew
  have hA2 := HP.out ((w1.alloc (.cells (madeCells #[.int .i64 0, .int .i64 0, .slice none 0 0] (m * 3)) 36)).alloc (.cells #[.int .i64 0, .int .i64 0, .slice none 0 0] 36)).drew w1.heap.size ((hb1.alloc hg1 _).alloc (by simp; omega) _).drew hg1 ((Blk.new w1 _ _).alloc _).drew
  have hA3 := HP.out ((w1.alloc (.cells #[.int .i64 0, .int .i64 0, .slice none 0 0] 36)).alloc (.cells (madeCells #[.int .i64 0, .int .i64 0, .slice none 0 0] (m * 3)) 36)).drew (w1.heap.size + 1) ((hb1.alloc hg1 _).alloc (by simp; omega) _).drew (by omega) (by
    have := Blk.new (w1.alloc (.cells #[.int .i64 0, .int .i64 0, .slice none 0 0] 36)) 36 (madeCells #[.int .i64 0, .int .i64 0, .slice none 0 0] (m * 3)); rw [World.size_alloc] at this; exact this.drew)
  have hX2 : Hid (Blk ((w1.alloc (.cells (madeCells #[.int .i64 0, .int .i64 0, .slice none 0 0] (m * 3)) 36)).alloc (.cells #[.int .i64 0, .int .i64 0, .slice none 0 0] 36)).drew (w1.heap.size + 1) 36 #[.int .i64 0, .int .i64 0, .slice none 0 0]) := Lib.hid (by
    have := Blk.new (w1.alloc (.cells (madeCells #[.int .i64 0, .int .i64 0, .slice none 0 0] (m * 3)) 36)) 36 #[.int .i64 0, .int .i64 0, .slice none 0 0]; rw [World.size_alloc] at this; exact this.drew)
  have hX3 : Hid (Blk ((w1.alloc (.cells #[.int .i64 0, .int .i64 0, .slice none 0 0] 36)).alloc (.cells (madeCells #[.int .i64 0, .int .i64 0, .slice none 0 0] (m * 3)) 36)).drew w1.heap.size 36 #[.int .i64 0, .int .i64 0, .slice none 0 0]) := Lib.hid ((Blk.new w1 _ _).alloc _).drew
  have HB := Lib.hid hb1
  have hlt : w.heap.size < w1.heap.size := lt_of_cell c0
  have hlt2 : w.heap.size + 1 < w1.heap.size := hB.out.1.lt
  clear hb1
  go_region_with (first | (go_at_call 81; with_reducible refine hA1.mono ?_; rintro e w2 ⟨S, c', B, rfl, hQ⟩) | (go_at_call 81; with_reducible refine hA2.mono ?_; rintro e w2 ⟨S, c', B, rfl, hQ⟩; have hne : w1.heap.size + 1 ≠ w1.heap.size := Nat.succ_ne_self _; have hbx := box_after hQ.out.2 hX2.out hne; obtain ⟨d0, d1, d2, f0, f1, f2⟩ := hbx) | (go_at_call 81; with_reducible refine hA3.mono ?_; rintro e w2 ⟨S, c', B, rfl, hQ⟩; have hne : w1.heap.size ≠ w1.heap.size + 1 := Nat.ne_of_lt (Nat.lt_succ_self _); have hbx := box_after hQ.out.2 hX3.out hne; obtain ⟨d0, d1, d2, f0, f1, f2⟩ := hbx))
  all_goals
    have hres := box_after hQ.out.2 (q := w.heap.size + 1) (x := .int .i64 0) (y := .int .i64 0) (z := .slice none 0 0) (t' := 36) (by first | exact (hB.out.1.alloc _).drew | exact ((hB.out.1.alloc _).alloc _).drew) (by omega)
    have hlt3 : w.heap.size + 1 < w2.heap.size := lt_of_cell hres.1
    obtain ⟨r0, r1, r2, s0, s1, s2⟩ := hres
  all_goals obtain ⟨t0, t1, t2⟩ := set3_cells r0 r1 r2 (.int .i64 T.k) (.int .i64 T.n) (.slice S T.l.length c')
  all_goals go_wp2
  all_goals first
    | (refine bodyPost_ret (v := .agg #[.int .i64 T.k, .int .i64 T.n, .slice S T.l.length c']) (by simp [results, Try.results22, go_sem, t0, t1, t2, hlt3]) rfl ⟨_, rfl, ?_⟩
       exact copyG_end hQ.out.1 hQ.out.2 ((hB.out.2.alloc (by omega) _).drew) (by omega) ((keep_set3 (Keep.refl _ _) ⟨by omega, by omega⟩ _ _ _).alloc _))
    | (have hd := (show w2.cell? ⟨w1.heap.size + 1, 0, none⟩ = some (.int .i64 0) from d0)
       have hne : w.heap.size + 1 ≠ w1.heap.size + 1 := by omega
       obtain ⟨t0, t1, t2⟩ := set3_cells ((set3_far (i := 0) hne (.int .i64 T.k) (.int .i64 T.n) (.slice S T.l.length c')).trans r0) ((set3_far (i := 1) hne (.int .i64 T.k) (.int .i64 T.n) (.slice S T.l.length c')).trans r1) ((set3_far (i := 2) hne (.int .i64 T.k) (.int .i64 T.n) (.slice S T.l.length c')).trans r2) (.int .i64 T.k) (.int .i64 T.n) (.slice S T.l.length c')
       refine bodyPost_ret (v := .agg #[.int .i64 T.k, .int .i64 T.n, .slice S T.l.length c']) (by simp [results, Try.results22, go_sem, t0, t1, t2]) rfl ⟨_, rfl, ?_⟩
       exact copyG_end hQ.out.1 hQ.out.2 (((hB.out.2.alloc (by omega) _).alloc (by simp; omega) _).drew) (by omega) (keep_set3 (keep_set3 (Keep.refl _ _) ⟨by omega, by omega⟩ _ _ _) ⟨by omega, by omega⟩ _ _ _))
    | (have hd := (show w2.cell? ⟨w1.heap.size, 0, none⟩ = some (.int .i64 0) from d0)
       have hne : w.heap.size + 1 ≠ w1.heap.size := by omega
       obtain ⟨t0, t1, t2⟩ := set3_cells ((set3_far (i := 0) hne (.int .i64 T.k) (.int .i64 T.n) (.slice S T.l.length c')).trans r0) ((set3_far (i := 1) hne (.int .i64 T.k) (.int .i64 T.n) (.slice S T.l.length c')).trans r1) ((set3_far (i := 2) hne (.int .i64 T.k) (.int .i64 T.n) (.slice S T.l.length c')).trans r2) (.int .i64 T.k) (.int .i64 T.n) (.slice S T.l.length c')
       refine bodyPost_ret (v := .agg #[.int .i64 T.k, .int .i64 T.n, .slice S T.l.length c']) (by simp [results, Try.results22, go_sem, t0, t1, t2]) rfl ⟨_, rfl, ?_⟩
       exact copyG_end hQ.out.1 hQ.out.2 (((hB.out.2.alloc (by omega) _).alloc (by simp; omega) _).drew) (by omega) (keep_set3 (keep_set3 (Keep.refl _ _) ⟨by omega, by omega⟩ _ _ _) ⟨by omega, by omega⟩ _ _ _))

/-- Where the copy's numbers stand. -/
structure CG (T : V) (S : Option Addr) (g o : Nat) (n : Nat) (W : World) : Prop where
  ge : n ≤ g
  blk : ∃ cs, Blk W g 36 cs
  sc : T.l ≠ [] → S = some ⟨g, o, none⟩
  at_ : ∀ i x, T.l[i]? = some x → W.cell? ⟨g, o + i * 3 + 1, none⟩ = some (.int .i64 x.n)
theorem CopyG.cg {w W : World} {T : V} {S : Option Addr} {c : Nat} (h : CopyG w T (.agg #[.int .i64 T.k, .int .i64 T.n, .slice S T.l.length c]) W) : ∃ g o, CG T S g o w.heap.size W := by
  obtain ⟨g, cs, a, b, hg, hb, hi⟩ := h.ex
  obtain ⟨k, n, l⟩ := T
  generalize hv : Value.agg #[.int .i64 (V.mk k n l).k, .int .i64 (V.mk k n l).n, .slice S (V.mk k n l).l.length c] = v at hi
  cases hi with
  | mk _ _ _ A c' o f hk hn h1 h2 hA hc hR =>
    obtain ⟨_, _, hs⟩ := agg3 hv
    simp only [Value.slice.injEq] at hs
    obtain ⟨rfl, _, rfl⟩ := hs
    refine ⟨g, o, hg, ⟨cs, hb⟩, fun hne => (hA hne).1, fun i x hx => ?_⟩
    have hlt := (List.getElem?_eq_some_iff.1 hx).1
    obtain ⟨p, q, r, e, _, h4, _⟩ := hc i hlt
    obtain ⟨S', c2, e'⟩ := (hR i x hx).form
    rw [e] at e'
    obtain ⟨_, rfl, _⟩ := agg3 e'
    exact h4
theorem cellAllocH {W : World} {o : Obj} {b i : Nat} {v : Value} (h : W.cell? ⟨b, i, none⟩ = some v) : (W.alloc o).cell? ⟨b, i, none⟩ = some v :=
  (cell_same (p := ⟨b, i, none⟩) (Below.heap_alloc W o b (lt_of_cell h))).trans h
theorem CG.alloc {W : World} {T : V} {S : Option Addr} {g o n : Nat} (h : CG T S g o n W) (ob : Obj) : CG T S g o n (W.alloc ob) := by
  obtain ⟨cs, hb⟩ := h.blk
  exact ⟨h.ge, ⟨cs, hb.alloc ob⟩, h.sc, fun i x hx => cellAllocH (h.at_ i x hx)⟩
theorem CG.below {W W' : World} {T : V} {S : Option Addr} {g o n : Nat} (h : CG T S g o n W) (hb : Below W.heap.size W W') : CG T S g o n W' := by
  obtain ⟨cs, hbk⟩ := h.blk
  exact ⟨h.ge, ⟨cs, hbk.keep (hb.block _ hbk.lt)⟩, h.sc, fun i x hx => (cell_same (hb.block _ hbk.lt)).trans (h.at_ i x hx)⟩
theorem St.rebase {w W : World} {L : List Box} (h : St w W L) : St W W L := ⟨Below.refl _ W, h.2⟩
/-- A copy that is put into a box. -/
def PutsC (w : World) (L : List Box) (T : V) (n : Nat) (e : Ending) (w' : World) : Prop :=
  ∃ S c g o, e = .returned (.agg #[.int .i64 T.k, .int .i64 T.n, .slice S T.l.length c]) ∧
    Hid (St w (w'.alloc (.cells #[.int .i64 T.k, .int .i64 T.n, .slice S T.l.length c] 36)) ((w'.heap.size, T, S, c) :: L) ∧ CG T S g o n (w'.alloc (.cells #[.int .i64 T.k, .int .i64 T.n, .slice S T.l.length c] 36)) ∧ g < w'.heap.size)
theorem use_CopyG {w W : World} {L : List Box} {T : V} {b : Nat} {S : Option Addr} {c : Nat} (h : Hid (St w W L)) (hm : BoxV W b T S c) (hT : T.size ≤ 256) :
    Calls Try.prog 22 #[.agg #[.int .i64 T.k, .int .i64 T.n, .slice S T.l.length c]] W (PutsC w L T W.heap.size) := by
  refine (CopyG_ok W hm.2 (Nat.le_refl _) hT).mono ?_
  rintro e w' ⟨v', rfl, hc⟩
  obtain ⟨S', c', rfl, _⟩ := hc.inn.val
  obtain ⟨g, o, hg⟩ := hc.cg
  obtain ⟨cs, hb⟩ := hg.blk
  exact ⟨S', c', g, o, rfl, Lib.hid ⟨(h.out.below hc.bl).push (hc.inn.mono (Nat.zero_le _) (Nat.le_refl _)), hg.alloc _, hb.lt⟩⟩

/-! Sameness is equality. -/
theorem same_eq (T : V) : ∀ U, V.same T U = true ↔ T = U := by
  induction T using V.ind with
  | h k n l ih =>
    intro U
    obtain ⟨k', n', l'⟩ := U
    rw [V.same_parts]
    simp only [V.k, V.n, V.l, Bool.and_eq_true, beq_iff_eq]
    have hl : ∀ l', V.sameL l l' = true ↔ l = l' := by
      clear k n k' n'
      induction l with
      | nil => intro l'; cases l' <;> simp [V.sameL]
      | cons x xs ihx =>
        intro l'
        cases l' with
        | nil => simp [V.sameL]
        | cons y ys =>
          simp only [V.sameL, Bool.and_eq_true, List.cons.injEq]
          rw [ih x (by simp) y, ihx (fun z hz => ih z (by simp [hz])) ys]
    rw [hl l']
    constructor
    · rintro ⟨rfl, rfl, rfl⟩; rfl
    · intro h; cases h; exact ⟨rfl, rfl, rfl⟩
theorem sameB_symm (T U : V) : sameB U T = sameB T U := by
  unfold sameB
  have h : V.same U T = V.same T U := by
    rw [Bool.eq_iff_iff, same_eq, same_eq]
    exact ⟨Eq.symm, Eq.symm⟩
  rw [h]
  cases decide (T.size ≤ 256) <;> cases decide (U.size ≤ 256) <;> simp
end Go.Proofs.Ytmfcecfcfihgaaa
