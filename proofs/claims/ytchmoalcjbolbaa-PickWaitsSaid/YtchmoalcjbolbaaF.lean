/- A view's step. -/
import Derived.Test.YtchmoalcjbolbaaE
import Derived.BigRegion
import Derived.WalkSmall
namespace Go.Proofs.Ytchmoalcjbolbaa
open Go.RowKit Go.Shelf
attribute [local go_sem] Oper.semAt_some

theorem Turns.tail {W : World} {b o n c : Nat} {x : Tn} {l : List Tn} (h : Turns W (.slice (some ⟨b, o, none⟩) n c) (x :: l)) (A : Option Addr) (hA : l ≠ [] → A = some ⟨b, o + 2, none⟩) (d : Nat) (hd : l.length ≤ d) (hm : d ≤ maxLen) :
    Turns W (.slice A l.length d) l := by
  refine ⟨A, d, rfl, hd, hm, fun hne => ?_⟩
  have hA := hA hne
  obtain ⟨A', c', hv, h1, h2, h3⟩ := h
  simp only [Value.slice.injEq] at hv
  obtain ⟨rfl, rfl, rfl⟩ := hv
  obtain ⟨b', o', hb', hb, hc⟩ := h3 (by simp)
  simp only [Option.some.injEq, Addr.mk.injEq, and_true] at hb'
  obtain ⟨rfl, rfl⟩ := hb'
  refine ⟨b, o + 2, hA, hb, fun i y hy => ?_⟩
  obtain ⟨u, q0, q1, q2, q3⟩ := hc (i + 1) y (by simpa using hy)
  have e1 : o + 2 + i * 2 = o + (i + 1) * 2 := by omega
  rw [e1]
  exact ⟨u, q0, q1, q2, q3⟩

set_option maxRecDepth 100000 in
set_option maxHeartbeats 1600000 in
theorem step_nil (bv : Nat) (u t a v : Value) (w : World) (hb : Blk w bv 63 #[u, t, a, v]) (hl : Turns w v []) : Calls Try.prog 33 #[.pointer (some ⟨bv, 0, none⟩)] w fun e w' =>
    e = .returned (.bool false) ∧ w = w' := by
  obtain ⟨A, c, rfl, hc1, hc2⟩ := hl.form
  have z3 := hb.cell 3
  simp at z3
  go_enter Try.func33, Try.ntmps33
  go_wp2_with fail
  exact bodyPost_ret (v := .bool false) (by simp [results, Try.results33, go_sem]) rfl ⟨rfl, rfl⟩

theorem keep_set {bv : Nat} {w w' : World} (h : Keep (fun k => k = bv) w w') (i : Nat) (u : Value) : Keep (fun k => k = bv) w (w'.setCell ⟨bv, i, none⟩ u) := h.setCell (.inl rfl) u
/-- A view that has gone to the next turn. -/
structure Stepped (w0 w : World) (bv : Nat) (at_ : Int) (x : Tn) (l : List Tn) (w' : World) : Prop where
  blk : ∃ B d v', Blk w' bv 63 #[.slice B x.runs.length d, .int .i64 x.took, .int .i64 at_, v'] ∧ Ints w0 (.slice B x.runs.length d) x.runs ∧ Turns w0 v' l
  keep : Keep (fun k => k = bv) w w'
  size : w'.heap.size = w.heap.size
theorem Stepped.drewN {w0 w : World} {bv : Nat} {at_ : Int} {x : Tn} {l : List Tn} {w' : World} (h : Stepped w0 w bv at_ x l w') (n : Nat) : Stepped w0 w bv at_ x l (w'.drewN n) := by
  obtain ⟨⟨B, d, v', h1, h2, h3⟩, h4, h5⟩ := h
  exact ⟨⟨B, d, v', h1.drewN n, h2, h3⟩, h4.drewN n, h5⟩
def wrongAt (at_ : Int) : List PanicEntry := [{ v := .iface 77 (.int .i64 at_), recovered := false }]
def StepPost (w0 w : World) (bv : Nat) (at_ : Int) (x : Tn) (l : List Tn) (e : Ending) (w' : World) : Prop :=
  Stepped w0 w bv at_ x l w' ∧ ((validB x = true ∧ e = .returned (.bool true)) ∨ (validB x = false ∧ e = .panicked (wrongAt at_)))

set_option maxRecDepth 100000 in
set_option maxHeartbeats 3200000 in
theorem step_cons (bv : Nat) (u t v : Value) (at_ : Int) (x : Tn) (l : List Tn) (w0 w : World) (hb : Blk w bv 63 #[u, t, .int .i64 at_, v]) (hl : Turns w0 v (x :: l)) (hB : Below w0.heap.size w0 w) (hbv : w0.heap.size ≤ bv) (ha : -1 ≤ at_ ∧ at_ ≤ 1000000) :
    Calls Try.prog 33 #[.pointer (some ⟨bv, 0, none⟩)] w (StepPost w0 w bv (at_ + 1) x l) := by
  obtain ⟨A, c, rfl, hc1, hc2⟩ := hl.form
  obtain ⟨b, o, B, m, d, rfl, hbl, q0, q1, q2, q3⟩ := (hl.kept (kept_below hB (Nat.le_refl _))).at_ (i := 0) (x := x) rfl
  obtain ⟨b', o', B', m', d', e0, hbl', q0', q1', _⟩ := hl.at_ (i := 0) (x := x) rfl
  obtain ⟨rfl, rfl⟩ : b = b' ∧ o = o' := by
    simp only [Option.some.injEq, Addr.mk.injEq, and_true] at e0
    exact ⟨e0.1, e0.2⟩
  have hne : b ≠ bv := by omega
  obtain ⟨rfl, rfl, rfl⟩ : B = B' ∧ m = m' ∧ d = d' := by
    have := (kept_below hB (Nat.le_refl _)) _ _ q0'
    rw [q0] at this
    simp only [Option.some.injEq, Value.slice.injEq] at this
    exact this
  have hi0 : Ints w0 (.slice B m d) x.runs := q1'
  obtain ⟨rfl, hd1, hd2⟩ := q1.len
  have z0 := hb.cell 0
  have z1 := hb.cell 1
  have z2 := hb.cell 2
  have z3 := hb.cell 3
  have f0 := hb.frozen 0
  have f1 := hb.frozen 1
  have f2 := hb.frozen 2
  have f3 := hb.frozen 3
  simp at z0 z1 z2 z3 q0 q2
  obtain ⟨n, hn⟩ : ∃ n, l.length = n := ⟨_, rfl⟩
  have e1 : (x :: l).length = n + 1 := by simp [hn]
  rw [hn] at z3
  rw [e1] at hc1
  have hm : n + 1 ≤ maxLen := Nat.le_trans hc1 hc2
  unfold maxLen at hm
  have hnI : ((n : Int) + 1 == 0) = false := by rw [beq_eq_false_iff_ne]; omega
  have hpos : (0 : Int) ≤ (n : Int) := by omega
  have hc1I : (n : Int) + 1 ≤ (c : Int) := by omega
  clear q0' q1' e0
  go_enter Try.func33, Try.ntmps33
  go_wp2_with fail
  obtain ⟨w1, hw1⟩ : ∃ w1, w.setCell ⟨bv, 2, none⟩ (.int .i64 (at_ + 1)) = w1 := ⟨_, rfl⟩
  have y0 : w1.cell? ⟨bv, 0, none⟩ = some u := by rw [← hw1]; rw [World.cell?_setCell_other _ _ _ _ (by simp)]; exact z0
  have y1 : w1.cell? ⟨bv, 1, none⟩ = some t := by rw [← hw1]; rw [World.cell?_setCell_other _ _ _ _ (by simp)]; exact z1
  have y3 : w1.cell? ⟨bv, 3, none⟩ = some (Value.slice (some ⟨b, o, none⟩) (n + 1) c) := by rw [← hw1]; rw [World.cell?_setCell_other _ _ _ _ (by simp)]; exact z3
  have g0 : w1.frozen? ⟨bv, 0, none⟩ = false := by rw [← hw1, World.frozen?_setCell]; exact f0
  have g1 : w1.frozen? ⟨bv, 1, none⟩ = false := by rw [← hw1, World.frozen?_setCell]; exact f1
  have g3 : w1.frozen? ⟨bv, 3, none⟩ = false := by rw [← hw1, World.frozen?_setCell]; exact f3
  have p0 : w1.cell? ⟨b, o, none⟩ = some (.slice B x.runs.length d) := by rw [← hw1]; rw [World.cell?_setCell_other _ _ _ _ (by simp)]; exact q0
  have p1 : w1.cell? ⟨b, o + 1, none⟩ = some (.int .i64 x.took) := by rw [← hw1]; rw [World.cell?_setCell_other _ _ _ _ (by simp)]; exact q2
  rw [hw1]
  clear z0 z1 z2 z3 q0 q2 f0 f1 f2 f3
  have Hw := Lib.hid hw1
  clear hw1
  have HX : ∃ X, (if n = 0 then some (⟨b, o, none⟩ : Addr) else some ⟨b, o + 2, none⟩) = X ∧ Turns w0 (.slice X n n) l := by
    refine ⟨_, rfl, ?_⟩
    have := hl.tail (if n = 0 then some (⟨b, o, none⟩ : Addr) else some ⟨b, o + 2, none⟩) (fun hne => by
      rw [if_neg]
      intro h
      rw [← hn] at h
      exact hne (List.eq_nil_of_length_eq_zero h)) n (by omega) (by unfold maxLen; omega)
    rwa [hn] at this
  obtain ⟨X, hX, hT⟩ := HX
  have HT := Lib.hid hT
  have HI := Lib.hid hi0
  have HB := Lib.hid hb
  clear hT hi0 hb hl q1
  go_big_region
  obtain ⟨w2, hw2⟩ : ∃ w2, (((w1.setCell ⟨bv, 0, none⟩ (.slice B x.runs.length d)).setCell ⟨bv, 1, none⟩ (.int .i64 x.took)).setCell ⟨bv, 3, none⟩ (.slice X n n)).drew = w2 := ⟨_, rfl⟩
  rw [hw2]
  have hst : Stepped w0 w bv (at_ + 1) x l w2 := by
    rw [← hw2, ← Hw.out]
    refine ⟨⟨B, d, _, ?_, HI.out, HT.out⟩, ?_, by simp [World.setCell]⟩
    · have := ((((HB.out.set 2 (.int .i64 (at_ + 1))).set 0 (.slice B x.runs.length d)).set 1 (.int .i64 x.took)).set 3 (.slice X n n)).drew
      simpa using this
    · exact (keep_set (keep_set (keep_set (keep_set (Keep.refl _ w) _ _) _ _) _ _) _ _).drew
  have HS := Lib.hid hst
  obtain ⟨⟨B2, d2, v', hb2, hi2, _⟩, hk2, hs2⟩ := hst
  have hi2' : Ints w2 (.slice B2 x.runs.length d2) x.runs := hi2.kept (kept_below (hB.trans (hk2.below (fun k e => by subst e; exact hbv) hB.size)) (Nat.le_refl _))
  have hva := valid_ok bv x _ _ _ w2 hb2 hi2'
  have c2 := hb2.cell 2
  simp at c2
  clear hb2 hi2 hi2' hw2 y0 y1 y3 g0 g1 g3 p0 p1
  cases hv : validB x
  · rw [hv] at hva
    have Hv := Lib.hid hv
    clear hv
    go_wp2_with (go_at_call 45; refine hva.mono ?_; rintro e w' ⟨rfl, n, rfl⟩)
    first
      | exact ⟨rfl, HS.out.drewN _, .inr ⟨Hv.out, rfl⟩⟩
      | exact ⟨HS.out.drewN _, .inr ⟨Hv.out, rfl⟩⟩
  · rw [hv] at hva
    have Hv := Lib.hid hv
    clear hv
    go_wp2_with (go_at_call 45; refine hva.mono ?_; rintro e w' ⟨rfl, n, rfl⟩)
    exact bodyPost_ret (v := .bool true) (by simp [results, Try.results33, go_sem]) rfl ⟨HS.out.drewN _, .inl ⟨Hv.out, rfl⟩⟩
end Go.Proofs.Ytchmoalcjbolbaa
