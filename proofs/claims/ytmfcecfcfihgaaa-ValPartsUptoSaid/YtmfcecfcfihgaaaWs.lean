/- Size. -/
import Derived.Test.YtmfcecfcfihgaaaWl
import Derived.Test.YtmfcecfcfihgaaaVw
namespace Go.Proofs.Ytmfcecfcfihgaaa
open Go.RowKit Go.Shelf
attribute [local go_sem] Oper.semAt_some

theorem agg3 {x y z x' y' z' : Value} (h : Value.agg #[x, y, z] = .agg #[x', y', z']) : x = x' ∧ y = y' ∧ z = z' := by
  simp only [Value.agg.injEq, Array.mk.injEq, List.cons.injEq, and_true] at h
  exact h
theorem In.slice {W : World} {lo hi : Nat} {T : V} {s : Value} (h : In W lo hi (.agg #[.int .i64 T.k, .int .i64 T.n, s]) T) : ∃ A c, s = .slice A T.l.length c ∧ T.l.length ≤ c ∧ c ≤ maxLen ∧ Ls W lo hi s T.l := by
  obtain ⟨s', e, _, _, h⟩ := h.parts
  obtain ⟨_, _, rfl⟩ := agg3 e
  obtain ⟨X, cx, rfl, h1, h2⟩ := h.form
  exact ⟨X, cx, rfl, h1, h2, h⟩

/-- What Size keeps. -/
structure SI (w : World) (cs : Array Value) (sz : Int) (W : World) : Prop where
  b0 : Blk W w.heap.size 36 cs
  b1 : Blk W (w.heap.size + 1) 3 #[.int .i64 sz]
  b2 : Blk W (w.heap.size + 1 + 1) 36 cs
  bl : Below w.heap.size w W
theorem SI.keepB {w W W' : World} {cs : Array Value} {sz : Int} {B : Nat} (h : SI w cs sz W) (hk : Keep (fun k => B ≤ k) W W') (hB : w.heap.size + 3 ≤ B) : SI w cs sz W' :=
  ⟨h.b0.keepB hk (by omega), h.b1.keepB hk (by omega), h.b2.keepB hk (by omega), Below.keepB h.bl hk (by omega) (Nat.le_refl _)⟩
theorem SI.set {w W : World} {cs : Array Value} {sz : Int} (h : SI w cs sz W) (u : Int) : SI w cs u (W.setCell ⟨w.heap.size + 1, 0, none⟩ (.int .i64 u)) :=
  ⟨h.b0.far (by simp) _, by simpa using h.b1.set 0 (.int .i64 u), h.b2.far (by simp) _, h.bl.setCell (by simp) _⟩

theorem size_end {w W : World} {cs : Array Value} {sz : Int} {D : Nat} (h : SI w cs sz W) (hD : w.heap.size + 3 ≤ D) (hdef : W.heap[D]? = some (.deferred (some []))) : Below w.heap.size w (W.putObj D (.deferred none)) :=
  h.bl.trans (belowK_b (w := w) (Nat.le_refl _) _ _ _ _ (by omega) hdef rfl rfl)
/-- How many parts a value has, as far as they are counted. -/
def V.sz (T : V) : Nat := min T.size 257

set_option maxRecDepth 100000 in
set_option maxHeartbeats 3200000 in
theorem Size_ok {hi : Nat} {s : Value} {T : V} (w : World) (h : In w 0 hi (.agg #[.int .i64 T.k, .int .i64 T.n, s]) T) (hh : hi ≤ w.heap.size) :
    Calls Try.prog 69 #[.agg #[.int .i64 T.k, .int .i64 T.n, s]] w fun e w' => e = .returned (.int .i64 (T.sz : Int)) ∧ Below w.heap.size w w' := by
  obtain ⟨A, c, rfl, hc1, hc2, _⟩ := h.slice
  have hwk := walk_any T.k T.n (.slice A T.l.length c)
  refine calls_of_wp_marks 5 Try.func69 rfl ?_
  simp only [Try.ntmps69, List.size_toArray, List.length_cons, List.length_nil, Nat.reduceAdd, Nat.reduceSub, Array.replicate_succ, Array.replicate_zero, List.push_toArray, List.append_toArray, List.nil_append, List.cons_append]
  go_wp2_with fail
  go_step3
  go_wp2_with fail
  go_step3
  go_wp2_with (go_at_call 84; refine (hwk _).mono ?_; rintro e w' ⟨rfl, rfl⟩)
  obtain ⟨cs, hcs⟩ : ∃ cs : Array Value, #[.int .i64 T.k, .int .i64 T.n, .slice A T.l.length c] = cs := ⟨_, rfl⟩
  obtain ⟨W0, hW0⟩ : ∃ W0, ((w.alloc (.cells #[.int .i64 T.k, .int .i64 T.n, .slice A T.l.length c] 36)).alloc (.cells #[.int .i64 0] 3)).alloc (.cells #[.int .i64 T.k, .int .i64 T.n, .slice A T.l.length c] 36) = W0 := ⟨_, rfl⟩
  have hsz : W0.heap.size = w.heap.size + 3 := by rw [← hW0]; simp
  have hsi : SI w cs 0 W0 := by
    rw [← hW0, hcs]
    refine ⟨((Blk.new w _ _).alloc _).alloc _, ?_, ?_, below3 w _ _ _⟩
    · have := (Blk.new (w.alloc (.cells cs 36)) 3 #[.int .i64 0]).alloc (.cells cs 36)
      rwa [World.size_alloc] at this
    · have := Blk.new ((w.alloc (.cells cs 36)).alloc (.cells #[.int .i64 0] 3)) 36 cs
      rwa [World.size_alloc, World.size_alloc] at this
  rw [hW0]
  refine wp_rangeP 4 rfl (enters_of Try.func141 (by kernel_rfl) rfl) (walk1_seqs T w hi (w.heap.size + 1 + 1) _ h) (fun W i x xa hx => by obtain ⟨s, rfl, _⟩ := hx; rfl)
    (fun pre W => SI w cs (pre.length : Int) W ∧ pre.length ≤ 256)
    (fun cd pre W => SI w cs 257 W ∧ pre.length = 257 ∧ cd = .exit 0)
    (fun _ _ => False)
    (fun s X Y hs hk => ⟨hs.1.keepB hk (by omega), hs.2⟩)
    (fun cd s X Y hs hk => ⟨hs.1.keepB hk (by omega), hs.2⟩)
    (fun pre W' hi' => ⟨hi'.1.bl.mono hh, by rw [hcs]; exact hi'.1.b2, by have := hi'.2; omega⟩)
    ⟨hsi, by simp⟩ ?round ?done ?panic ?stop
  case round =>
    intro l' pre x rest W1 xa hsz1 hx hi' hxa
    obtain ⟨sx, rfl, _⟩ := hxa
    refine .inl ?_
    gi_wp2
    refine ⟨Since.refl _ _, hi', ?_⟩
    rintro W2 ht ⟨i, hlen⟩
    have z1 := i.b1.cell 0
    have f1 := i.b1.frozen 0
    simp at z1
    have Hi := Lib.hid i
    have hlenI : (pre.length : Int) ≤ 256 := by omega
    have hB : w.heap.size + 1 < W0.heap.size := by omega
    clear ht hx i hi' hsi hW0 hcs hwk h
    by_cases hl : pre.length = 256
    · have hlI : (256 : Int) < (pre.length : Int) + 1 := by omega
      gi_wp2
      refine ⟨(Since.refl _ _).setCell hB _, ?_, by simp [hl], rfl⟩
      have := Hi.out.set ((pre.length : Int) + 1)
      rw [show (pre.length : Int) + 1 = 257 from by omega] at this
      exact this
    · have hlI : ¬ (256 : Int) < (pre.length : Int) + 1 := by omega
      gi_wp2
      refine ⟨(Since.refl _ _).setCell (by simp) _, ?_, by simp; omega⟩
      have := Hi.out.set ((pre.length : Int) + 1)
      simpa using this
  case done =>
    rintro D W1 hD ⟨i, hlen⟩ hdef
    have z1 := i.b1.cell 0
    simp at z1
    have hE : ((V.pre 0 T).length : Int) = (T.sz : Int) := by
      have : (V.pre 0 T).length = T.size := rfl
      unfold V.sz
      omega
    have HE := Lib.hid hE
    clear hE hsi hW0 hcs hwk h
    go_wp2
    try rw [Exit.noGoto_ret]
    refine ⟨by simp, .inl ⟨_, _, rfl, run_takeDeferred hdef, ?_⟩⟩
    refine ⟨_, results_tmp (t := 2) rfl _ _ _, ?_⟩
    refine ⟨?_, size_end i (by omega) hdef⟩
    rw [← HE.out]
    rfl
  case panic =>
    intro D ch W1 _ hf
    exact hf.elim
  case stop =>
    rintro D cd pre W1 hD hpre ⟨i, hlen, rfl⟩ hdef
    have z1 := i.b1.cell 0
    simp at z1
    have hE : (257 : Int) = (T.sz : Int) := by
      have h1 := hpre.length_le
      have : (V.pre 0 T).length = T.size := rfl
      unfold V.sz
      omega
    have HE := Lib.hid hE
    clear hE hsi hW0 hcs hwk h
    go_wp2
    try rw [Exit.noGoto_ret]
    refine ⟨by simp, .inl ⟨_, _, rfl, run_takeDeferred hdef, ?_⟩⟩
    refine ⟨_, results_tmp (t := 2) rfl _ _ _, ?_⟩
    refine ⟨?_, size_end i (by omega) hdef⟩
    rw [← HE.out]
    rfl
end Go.Proofs.Ytmfcecfcfihgaaa
