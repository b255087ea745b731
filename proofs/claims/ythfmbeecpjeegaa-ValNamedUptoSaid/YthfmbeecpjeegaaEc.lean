/- The document's own reckoning with values. -/
import Derived.Test.YthfmbeecpjeegaaEb
import Derived.Test.YthfmbeecpjeegaaKc
import Derived.Deep.RegionWith
namespace Go.Proofs.Ythfmbeecpjeegaa
open Go.RowKit Go.Shelf
attribute [local go_sem] Oper.semAt_some

/-- A value that is handed back by the document's own, with an error: it may share memory with what was handed in. -/
def MadeR (w : World) (T : V) (err : Int) (e : Ending) (w' : World) : Prop :=
  ∃ S c, e = .returned (.tuple #[.agg #[.int .i64 T.k, .int .i64 T.n, .slice S T.l.length c], .int .i64 err]) ∧ In w' 0 w'.heap.size (.agg #[.int .i64 T.k, .int .i64 T.n, .slice S T.l.length c]) T ∧ Below w.heap.size w w'
/-- The cell of what is handed back. -/
structure QF (q : Nat) (W : World) : Prop where
  r0 : W.cell? ⟨q, 0, none⟩ = some (.int .i64 0)
  r1 : W.cell? ⟨q, 1, none⟩ = some (.int .i64 0)
  r2 : W.cell? ⟨q, 2, none⟩ = some (.slice none 0 0)
  f0 : W.frozen? ⟨q, 0, none⟩ = false
  f1 : W.frozen? ⟨q, 1, none⟩ = false
  f2 : W.frozen? ⟨q, 2, none⟩ = false
  h : Hid (Blk W q 25 #[.int .i64 0, .int .i64 0, .slice none 0 0])
theorem QF.of {q : Nat} {W : World} (h : Blk W q 25 #[.int .i64 0, .int .i64 0, .slice none 0 0]) : QF q W := ⟨h.cells3.1, h.cells3.2.1, h.cells3.2.2, h.frozen _, h.frozen _, h.frozen _, Lib.hid h⟩
theorem QF.below {q : Nat} {W W' : World} (h : QF q W) (hb : Below W.heap.size W W') : QF q W' := .of (h.h.out.keep (hb.block _ h.h.out.lt))
/-- Behind the store into it. -/
structure QE (w : World) (q : Nat) (T : V) (S : Option Addr) (c : Nat) (W : World) : Prop where
  t0 : (((W.setCell ⟨q, 0, none⟩ (.int .i64 T.k)).setCell ⟨q, 1, none⟩ (.int .i64 T.n)).setCell ⟨q, 2, none⟩ (.slice S T.l.length c)).cell? ⟨q, 0, none⟩ = some (.int .i64 T.k)
  t1 : (((W.setCell ⟨q, 0, none⟩ (.int .i64 T.k)).setCell ⟨q, 1, none⟩ (.int .i64 T.n)).setCell ⟨q, 2, none⟩ (.slice S T.l.length c)).cell? ⟨q, 1, none⟩ = some (.int .i64 T.n)
  t2 : (((W.setCell ⟨q, 0, none⟩ (.int .i64 T.k)).setCell ⟨q, 1, none⟩ (.int .i64 T.n)).setCell ⟨q, 2, none⟩ (.slice S T.l.length c)).cell? ⟨q, 2, none⟩ = some (.slice S T.l.length c)
  fin : ∀ err, Hid (MadeR w T err (.returned (.tuple #[.agg #[.int .i64 T.k, .int .i64 T.n, .slice S T.l.length c], .int .i64 err])) (((W.setCell ⟨q, 0, none⟩ (.int .i64 T.k)).setCell ⟨q, 1, none⟩ (.int .i64 T.n)).setCell ⟨q, 2, none⟩ (.slice S T.l.length c)))
theorem QF.put {w W : World} {q hi : Nat} {T : V} {S : Option Addr} {c : Nat} (h : QF q W) (hin : In W 0 hi (.agg #[.int .i64 T.k, .int .i64 T.n, .slice S T.l.length c]) T) (hh : hi ≤ q) (hb : Below w.heap.size w W) (hq : w.heap.size ≤ q) : QE w q T S c W := by
  obtain ⟨t0, t1, t2⟩ := set3_cells h.r0 h.r1 h.r2 (.int .i64 T.k) (.int .i64 T.n) (.slice S T.l.length c)
  have hlt := h.h.out.lt
  have hk : Keep (fun j => j = q) W (((W.setCell ⟨q, 0, none⟩ (.int .i64 T.k)).setCell ⟨q, 1, none⟩ (.int .i64 T.n)).setCell ⟨q, 2, none⟩ (.slice S T.l.length c)) := keep_set3 (F := fun j => j = q) (Keep.refl _ W) rfl _ _ _
  refine ⟨t0, t1, t2, fun err => Lib.hid ⟨S, c, rfl, (hin.keep fun b _ hlt' => hk.block b (by omega) (by omega)).mono (Nat.le_refl _) (by have := hk.size; omega), hb.trans (hk.below (fun k e => by omega) hb.size)⟩⟩
theorem QF.zero {w W : World} {q : Nat} (h : QF q W) (hb : Below w.heap.size w W) (hq : w.heap.size ≤ q) : QE w q zeroV none 0 W := h.put (zero_in W 0 0) (Nat.zero_le _) hb hq
theorem QF.leaf {w W : World} {q : Nat} {k n : Int} (h : QF q W) (hk : W64 k) (hn : W64 n) (hb : Below w.heap.size w W) (hq : w.heap.size ≤ q) : QE w q (.mk k n []) none 0 W := h.put (leaf_in W 0 0 k n hk hn) (Nat.zero_le _) hb hq

theorem kinds_two (k : Int) (T U : V) : kindsB k [T, U] = ((T.k == k) && (U.k == k)) := by simp [kindsB]


set_option maxRecDepth 100000 in
set_option maxHeartbeats 3200000 in
theorem rTwo_ok {hi : Nat} {u v : Value} {T U : V} (w : World) (h : In w 0 hi u T) (h' : In w 0 hi v U) (hh : hi ≤ w.heap.size) (hT : T.size ≤ 1000000000000) (hU : U.size ≤ 1000000000000) :
    Calls Try.prog 85 #[u, v] w fun e w' => e = .returned (.int .i64 (numErr T U)) ∧ Below w.heap.size w w' := by
  obtain ⟨A, ca, rfl, _, _, _⟩ := h.val
  obtain ⟨B, cb, rfl, _, _, _⟩ := h'.val
  have hb := TB.new w (.int .i64 T.k) (.int .i64 T.n) (.slice A T.l.length ca) (.int .i64 U.k) (.int .i64 U.n) (.slice B U.l.length cb)
  have hR1 := (rRight_ok _ (h.after (hb.bl.mono hh)) (Nat.le_trans hh hb.bl.size) hT).mono
    (R' := fun e w' => e = .returned (.bool (rightB T)) ∧ TF w (.int .i64 T.k) (.int .i64 T.n) (.slice A T.l.length ca) (.int .i64 U.k) (.int .i64 U.n) (.slice B U.l.length cb) w') (fun e w' q => ⟨q.1, (hb.below q.2).facts⟩)
  have hR2 : ∀ w1, Hid (TB w (.int .i64 T.k) (.int .i64 T.n) (.slice A T.l.length ca) (.int .i64 U.k) (.int .i64 U.n) (.slice B U.l.length cb) w1) → Calls Try.prog 11 #[.agg #[.int .i64 U.k, .int .i64 U.n, .slice B U.l.length cb]] w1 fun e w' => e = .returned (.bool (rightB U)) ∧ TF w (.int .i64 T.k) (.int .i64 T.n) (.slice A T.l.length ca) (.int .i64 U.k) (.int .i64 U.n) (.slice B U.l.length cb) w' := fun w1 h1 =>
    (rRight_ok _ (h'.after (h1.out.bl.mono hh)) (Nat.le_trans hh h1.out.bl.size) hU).mono (fun e w' q => ⟨q.1, (h1.out.below q.2).facts⟩)
  have HR2 := Lib.hid hR2
  clear hR2 h h' hb hT hU
  unfold numErr
  rw [kinds_two]
  go_enter Try.func85, Try.ntmps85
  cases hr : rightB T
  · rw [hr] at hR1
    simp only [Bool.false_and, Bool.false_eq_true, if_false]
    clear hr HR2
    go_wp2_with (go_at_call 11; refine hR1.mono ?_; rintro e w1 ⟨rfl, ⟨a0, a1, a2, b0, b1, b2, lt, hB⟩⟩)
    go_ret
    exact ⟨rfl, hB.out.bl⟩
  · rw [hr] at hR1
    clear hr
    cases hr : rightB U
    · rw [hr] at HR2
      simp only [Bool.and_false, Bool.false_eq_true, if_false]
      clear hr
      go_wp2_with (first | (go_at_call 11; (with_reducible refine hR1.mono ?_); rintro e w1 ⟨rfl, ⟨a0, a1, a2, b0, b1, b2, lt, hB⟩⟩) | (go_at_call 11; (with_reducible refine (HR2.out _ hB).mono ?_); rintro e w2 ⟨rfl, ⟨a0, a1, a2, b0, b1, b2, lt, hB⟩⟩))
      go_ret
      exact ⟨rfl, hB.out.bl⟩
    · rw [hr] at HR2
      simp only [Bool.and_self, if_true]
      clear hr
      by_cases h1 : T.k = 2
      · have e1 : (T.k == 2) = true := by simp [h1]
        have n1 : (T.k != 2) = false := by simp [h1]
        rw [e1, Bool.true_and]
        by_cases h2 : U.k = 2
        · have e2 : (U.k == 2) = true := by simp [h2]
          have n2 : (U.k != 2) = false := by simp [h2]
          rw [e2, if_pos rfl]
          clear e1 e2 h1 h2
          go_wp2_with (first | (go_at_call 11; (with_reducible refine hR1.mono ?_); rintro e w1 ⟨rfl, ⟨a0, a1, a2, b0, b1, b2, lt, hB⟩⟩) | (go_at_call 11; (with_reducible refine (HR2.out _ hB).mono ?_); rintro e w2 ⟨rfl, ⟨a0, a1, a2, b0, b1, b2, lt, hB⟩⟩))
          go_ret
          exact ⟨rfl, hB.out.bl⟩
        · have e2 : (U.k == 2) = false := by simp [h2]
          have n2 : (U.k != 2) = true := by simp [h2]
          rw [e2, if_neg (by simp)]
          clear e1 e2 h1 h2
          go_wp2_with (first | (go_at_call 11; (with_reducible refine hR1.mono ?_); rintro e w1 ⟨rfl, ⟨a0, a1, a2, b0, b1, b2, lt, hB⟩⟩) | (go_at_call 11; (with_reducible refine (HR2.out _ hB).mono ?_); rintro e w2 ⟨rfl, ⟨a0, a1, a2, b0, b1, b2, lt, hB⟩⟩))
          go_ret
          exact ⟨rfl, hB.out.bl⟩
      · have e1 : (T.k == 2) = false := by simp [h1]
        have n1 : (T.k != 2) = true := by simp [h1]
        rw [e1, Bool.false_and, if_neg (by simp)]
        clear e1 h1
        go_wp2_with (first | (go_at_call 11; (with_reducible refine hR1.mono ?_); rintro e w1 ⟨rfl, ⟨a0, a1, a2, b0, b1, b2, lt, hB⟩⟩) | (go_at_call 11; (with_reducible refine (HR2.out _ hB).mono ?_); rintro e w2 ⟨rfl, ⟨a0, a1, a2, b0, b1, b2, lt, hB⟩⟩))
        go_ret
        exact ⟨rfl, hB.out.bl⟩

set_option maxRecDepth 100000 in
theorem rTruth1_ok (b : Bool) (w : World) : Calls Try.prog 86 #[.bool b] w fun e w' => e = .returned (.agg #[.int .i64 2, .int .i64 (yesV b), .slice none 0 0]) ∧ Below w.heap.size w w' := by
  have hI := refInt_ok
  cases b
  all_goals
    have hI := fun n => (hI n (w.alloc (.cells #[.int .i64 0, .int .i64 0, .slice none 0 0] 25))).mono (R' := fun e w' => e = .returned (.agg #[.int .i64 2, .int .i64 n, .slice none 0 0]) ∧ QF w.heap.size w' ∧ Hid (Below w.heap.size w w'))
      (fun e w' q => ⟨q.1, (QF.of (Blk.new w 25 _)).below q.2, Lib.hid (((Below.refl _ w).alloc (Nat.le_refl _) _).trans (q.2.mono (by simp)))⟩)
    go_enter Try.func86, Try.ntmps86
    go_wp2_with (go_at_call 39; refine (hI _).mono ?_; rintro e w1 ⟨rfl, ⟨r0, r1, r2, f0, f1, f2, hq⟩, hB⟩)
  · have t := set3_cells r0 r1 r2 (.int .i64 2) (.int .i64 0) (.slice none 0 0)
    obtain ⟨t0, t1, t2⟩ := t
    exact bodyPost_ret (v := .agg #[.int .i64 2, .int .i64 0, .slice none 0 0]) (by simp [results, Try.results86, go_sem, t0, t1, t2]) rfl ⟨rfl, hB.out.trans ((keep_set3 (F := fun j => j = w.heap.size) (Keep.refl _ w1) rfl _ _ _).below (fun k e => by omega) hB.out.size)⟩
  · have t := set3_cells r0 r1 r2 (.int .i64 2) (.int .i64 1) (.slice none 0 0)
    obtain ⟨t0, t1, t2⟩ := t
    exact bodyPost_ret (v := .agg #[.int .i64 2, .int .i64 1, .slice none 0 0]) (by simp [results, Try.results86, go_sem, t0, t1, t2]) rfl ⟨rfl, hB.out.trans ((keep_set3 (F := fun j => j = w.heap.size) (Keep.refl _ w1) rfl _ _ _).below (fun k e => by omega) hB.out.size)⟩


theorem wrap_add (x y : Int) : wrap64 (IntKind.u64.wrap (IntKind.u64.wrap x + IntKind.u64.wrap y)) = wrap64 (x + y) := by
  simp only [wrap64, IntKind.wrap, IntKind.bits, IntKind.signed]
  omega
theorem wrap_sub (x y : Int) : wrap64 (IntKind.u64.wrap (IntKind.u64.wrap x - IntKind.u64.wrap y)) = wrap64 (x - y) := by
  simp only [wrap64, IntKind.wrap, IntKind.bits, IntKind.signed]
  omega


set_option maxRecDepth 100000 in
set_option maxHeartbeats 3200000 in
theorem rAdd_ok {hi : Nat} {u v : Value} {T U : V} (w : World) (h : In w 0 hi u T) (h' : In w 0 hi v U) (hh : hi ≤ w.heap.size) (hT : T.size ≤ 1000000000000) (hU : U.size ≤ 1000000000000) :
    Calls Try.prog 48 #[u, v] w (MadeR w (numV T U (.mk 2 (wrap64 (T.n + U.n)) [])).1 (numV T U (.mk 2 (wrap64 (T.n + U.n)) [])).2) := by
  obtain ⟨A, ca, rfl, _, _, _⟩ := h.val
  obtain ⟨B, cb, rfl, _, _, _⟩ := h'.val
  have hb := (TB.new w (.int .i64 T.k) (.int .i64 T.n) (.slice A T.l.length ca) (.int .i64 U.k) (.int .i64 U.n) (.slice B U.l.length cb)).alloc (.cells #[.int .i64 0, .int .i64 0, .slice none 0 0] 25)
  have hq0 := Blk.new ((w.alloc (.cells #[.int .i64 T.k, .int .i64 T.n, .slice A T.l.length ca] 25)).alloc (.cells #[.int .i64 U.k, .int .i64 U.n, .slice B U.l.length cb] 25)) 25 #[.int .i64 0, .int .i64 0, .slice none 0 0]
  rw [World.size_alloc, World.size_alloc] at hq0
  have h2 := (rTwo_ok _ (h.after (hb.bl.mono hh)) (h'.after (hb.bl.mono hh)) (Nat.le_trans hh hb.bl.size) hT hU).mono
    (R' := fun e w' => e = .returned (.int .i64 (numErr T U)) ∧ TF w (.int .i64 T.k) (.int .i64 T.n) (.slice A T.l.length ca) (.int .i64 U.k) (.int .i64 U.n) (.slice B U.l.length cb) w' ∧ QF (w.heap.size + 1 + 1) w') (fun e w' q => ⟨q.1, (hb.below q.2).facts, (QF.of hq0).below q.2⟩)
  have hI : ∀ (w1 : World), Hid (TB w (.int .i64 T.k) (.int .i64 T.n) (.slice A T.l.length ca) (.int .i64 U.k) (.int .i64 U.n) (.slice B U.l.length cb) w1) → Hid (Blk w1 (w.heap.size + 1 + 1) 25 #[.int .i64 0, .int .i64 0, .slice none 0 0]) → ∀ x, Calls Try.prog 39 #[.int .i64 x] w1 fun e w' => e = .returned (.agg #[.int .i64 2, .int .i64 (x), .slice none 0 0]) ∧ TF w (.int .i64 T.k) (.int .i64 T.n) (.slice A T.l.length ca) (.int .i64 U.k) (.int .i64 U.n) (.slice B U.l.length cb) w' ∧ QF (w.heap.size + 1 + 1) w' := fun w1 g1 g2 x =>
    (refInt_ok x w1).mono fun e w' q => ⟨q.1, (g1.out.below q.2).facts, (QF.of g2.out).below q.2⟩
  have HI := Lib.hid hI
  clear hI h h' hb hq0 hT hU
  rw [← wrap_add]
  have HW := Lib.hid (show W64 (wrap64 (IntKind.u64.wrap (IntKind.u64.wrap T.n + IntKind.u64.wrap U.n))) from wrap64_w64 _)
  unfold numV
  generalize numErr T U = err at h2 ⊢
  go_enter Try.func48, Try.ntmps48
  by_cases he : err = 0
  · subst he
    rw [if_pos rfl]
    go_wp2_with (first | (go_at_call 85; refine h2.mono ?_; rintro e w1 ⟨rfl, ⟨a0, a1, a2, b0, b1, b2, lt, hB⟩, ⟨r0, r1, r2, f0, f1, f2, hq⟩⟩) | (go_at_call 39; refine (HI.out _ hB hq _).mono ?_; rintro e w1 ⟨rfl, ⟨a0, a1, a2, b0, b1, b2, lt, hB2⟩, ⟨r0, r1, r2, f0, f1, f2, hq⟩⟩))
    generalize wrap64 (IntKind.u64.wrap (IntKind.u64.wrap T.n + IntKind.u64.wrap U.n)) = n at HW ⊢
    obtain ⟨t0, t1, t2, HF⟩ := (QF.mk r0 r1 r2 f0 f1 f2 hq).leaf (n := n) w64_two HW.out hB2.out.bl (by omega)
    simp only [V.k, V.n, V.l, List.length_nil] at t0 t1 t2
    exact bodyPost_ret (v := .tuple #[.agg #[.int .i64 2, .int .i64 n, .slice none 0 0], .int .i64 0]) (by simp [results, Try.results48, go_sem, t0, t1, t2]) rfl (HF 0).out
  · have hne : (err != 0) = true := by simp [he]
    rw [if_neg he]
    clear he HI
    go_wp2_with (go_at_call 85; refine h2.mono ?_; rintro e w1 ⟨rfl, ⟨a0, a1, a2, b0, b1, b2, lt, hB⟩, ⟨r0, r1, r2, f0, f1, f2, hq⟩⟩)
    obtain ⟨t0, t1, t2, HF⟩ := (QF.mk r0 r1 r2 f0 f1 f2 hq).zero hB.out.bl (by omega)
    simp only [zeroV, V.k, V.n, V.l, List.length_nil] at t0 t1 t2
    exact bodyPost_ret (v := .tuple #[.agg #[.int .i64 0, .int .i64 0, .slice none 0 0], .int .i64 err]) (by simp [results, Try.results48, go_sem, t0, t1, t2]) rfl (HF err).out


set_option maxRecDepth 100000 in
set_option maxHeartbeats 3200000 in
theorem rSub_ok {hi : Nat} {u v : Value} {T U : V} (w : World) (h : In w 0 hi u T) (h' : In w 0 hi v U) (hh : hi ≤ w.heap.size) (hT : T.size ≤ 1000000000000) (hU : U.size ≤ 1000000000000) :
    Calls Try.prog 49 #[u, v] w (MadeR w (numV T U (.mk 2 (wrap64 (T.n - U.n)) [])).1 (numV T U (.mk 2 (wrap64 (T.n - U.n)) [])).2) := by
  obtain ⟨A, ca, rfl, _, _, _⟩ := h.val
  obtain ⟨B, cb, rfl, _, _, _⟩ := h'.val
  have hb := (TB.new w (.int .i64 T.k) (.int .i64 T.n) (.slice A T.l.length ca) (.int .i64 U.k) (.int .i64 U.n) (.slice B U.l.length cb)).alloc (.cells #[.int .i64 0, .int .i64 0, .slice none 0 0] 25)
  have hq0 := Blk.new ((w.alloc (.cells #[.int .i64 T.k, .int .i64 T.n, .slice A T.l.length ca] 25)).alloc (.cells #[.int .i64 U.k, .int .i64 U.n, .slice B U.l.length cb] 25)) 25 #[.int .i64 0, .int .i64 0, .slice none 0 0]
  rw [World.size_alloc, World.size_alloc] at hq0
  have h2 := (rTwo_ok _ (h.after (hb.bl.mono hh)) (h'.after (hb.bl.mono hh)) (Nat.le_trans hh hb.bl.size) hT hU).mono
    (R' := fun e w' => e = .returned (.int .i64 (numErr T U)) ∧ TF w (.int .i64 T.k) (.int .i64 T.n) (.slice A T.l.length ca) (.int .i64 U.k) (.int .i64 U.n) (.slice B U.l.length cb) w' ∧ QF (w.heap.size + 1 + 1) w') (fun e w' q => ⟨q.1, (hb.below q.2).facts, (QF.of hq0).below q.2⟩)
  have hI : ∀ (w1 : World), Hid (TB w (.int .i64 T.k) (.int .i64 T.n) (.slice A T.l.length ca) (.int .i64 U.k) (.int .i64 U.n) (.slice B U.l.length cb) w1) → Hid (Blk w1 (w.heap.size + 1 + 1) 25 #[.int .i64 0, .int .i64 0, .slice none 0 0]) → ∀ x, Calls Try.prog 39 #[.int .i64 x] w1 fun e w' => e = .returned (.agg #[.int .i64 2, .int .i64 (x), .slice none 0 0]) ∧ TF w (.int .i64 T.k) (.int .i64 T.n) (.slice A T.l.length ca) (.int .i64 U.k) (.int .i64 U.n) (.slice B U.l.length cb) w' ∧ QF (w.heap.size + 1 + 1) w' := fun w1 g1 g2 x =>
    (refInt_ok x w1).mono fun e w' q => ⟨q.1, (g1.out.below q.2).facts, (QF.of g2.out).below q.2⟩
  have HI := Lib.hid hI
  clear hI h h' hb hq0 hT hU
  rw [← wrap_sub]
  have HW := Lib.hid (show W64 (wrap64 (IntKind.u64.wrap (IntKind.u64.wrap T.n - IntKind.u64.wrap U.n))) from wrap64_w64 _)
  unfold numV
  generalize numErr T U = err at h2 ⊢
  go_enter Try.func49, Try.ntmps49
  by_cases he : err = 0
  · subst he
    rw [if_pos rfl]
    go_wp2_with (first | (go_at_call 85; refine h2.mono ?_; rintro e w1 ⟨rfl, ⟨a0, a1, a2, b0, b1, b2, lt, hB⟩, ⟨r0, r1, r2, f0, f1, f2, hq⟩⟩) | (go_at_call 39; refine (HI.out _ hB hq _).mono ?_; rintro e w1 ⟨rfl, ⟨a0, a1, a2, b0, b1, b2, lt, hB2⟩, ⟨r0, r1, r2, f0, f1, f2, hq⟩⟩))
    generalize wrap64 (IntKind.u64.wrap (IntKind.u64.wrap T.n - IntKind.u64.wrap U.n)) = n at HW ⊢
    obtain ⟨t0, t1, t2, HF⟩ := (QF.mk r0 r1 r2 f0 f1 f2 hq).leaf (n := n) w64_two HW.out hB2.out.bl (by omega)
    simp only [V.k, V.n, V.l, List.length_nil] at t0 t1 t2
    exact bodyPost_ret (v := .tuple #[.agg #[.int .i64 2, .int .i64 n, .slice none 0 0], .int .i64 0]) (by simp [results, Try.results49, go_sem, t0, t1, t2]) rfl (HF 0).out
  · have hne : (err != 0) = true := by simp [he]
    rw [if_neg he]
    clear he HI
    go_wp2_with (go_at_call 85; refine h2.mono ?_; rintro e w1 ⟨rfl, ⟨a0, a1, a2, b0, b1, b2, lt, hB⟩, ⟨r0, r1, r2, f0, f1, f2, hq⟩⟩)
    obtain ⟨t0, t1, t2, HF⟩ := (QF.mk r0 r1 r2 f0 f1 f2 hq).zero hB.out.bl (by omega)
    simp only [zeroV, V.k, V.n, V.l, List.length_nil] at t0 t1 t2
    exact bodyPost_ret (v := .tuple #[.agg #[.int .i64 0, .int .i64 0, .slice none 0 0], .int .i64 err]) (by simp [results, Try.results49, go_sem, t0, t1, t2]) rfl (HF err).out


set_option maxRecDepth 100000 in
set_option maxHeartbeats 3200000 in
theorem rLess_ok {hi : Nat} {u v : Value} {T U : V} (w : World) (h : In w 0 hi u T) (h' : In w 0 hi v U) (hh : hi ≤ w.heap.size) (hT : T.size ≤ 1000000000000) (hU : U.size ≤ 1000000000000) :
    Calls Try.prog 51 #[u, v] w (MadeR w (numV T U (.mk 2 (yesV (decide (T.n < U.n))) [])).1 (numV T U (.mk 2 (yesV (decide (T.n < U.n))) [])).2) := by
  obtain ⟨A, ca, rfl, _, _, _⟩ := h.val
  obtain ⟨B, cb, rfl, _, _, _⟩ := h'.val
  have hb := (TB.new w (.int .i64 T.k) (.int .i64 T.n) (.slice A T.l.length ca) (.int .i64 U.k) (.int .i64 U.n) (.slice B U.l.length cb)).alloc (.cells #[.int .i64 0, .int .i64 0, .slice none 0 0] 25)
  have hq0 := Blk.new ((w.alloc (.cells #[.int .i64 T.k, .int .i64 T.n, .slice A T.l.length ca] 25)).alloc (.cells #[.int .i64 U.k, .int .i64 U.n, .slice B U.l.length cb] 25)) 25 #[.int .i64 0, .int .i64 0, .slice none 0 0]
  rw [World.size_alloc, World.size_alloc] at hq0
  have h2 := (rTwo_ok _ (h.after (hb.bl.mono hh)) (h'.after (hb.bl.mono hh)) (Nat.le_trans hh hb.bl.size) hT hU).mono
    (R' := fun e w' => e = .returned (.int .i64 (numErr T U)) ∧ TF w (.int .i64 T.k) (.int .i64 T.n) (.slice A T.l.length ca) (.int .i64 U.k) (.int .i64 U.n) (.slice B U.l.length cb) w' ∧ QF (w.heap.size + 1 + 1) w') (fun e w' q => ⟨q.1, (hb.below q.2).facts, (QF.of hq0).below q.2⟩)
  have hI : ∀ (w1 : World), Hid (TB w (.int .i64 T.k) (.int .i64 T.n) (.slice A T.l.length ca) (.int .i64 U.k) (.int .i64 U.n) (.slice B U.l.length cb) w1) → Hid (Blk w1 (w.heap.size + 1 + 1) 25 #[.int .i64 0, .int .i64 0, .slice none 0 0]) → ∀ x, Calls Try.prog 86 #[.bool x] w1 fun e w' => e = .returned (.agg #[.int .i64 2, .int .i64 (yesV x), .slice none 0 0]) ∧ TF w (.int .i64 T.k) (.int .i64 T.n) (.slice A T.l.length ca) (.int .i64 U.k) (.int .i64 U.n) (.slice B U.l.length cb) w' ∧ QF (w.heap.size + 1 + 1) w' := fun w1 g1 g2 x =>
    (rTruth1_ok x w1).mono fun e w' q => ⟨q.1, (g1.out.below q.2).facts, (QF.of g2.out).below q.2⟩
  have HI := Lib.hid hI
  clear hI h h' hb hq0 hT hU
  have HW := Lib.hid (show W64 (yesV (decide (T.n < U.n))) from w64_yes _)
  unfold numV
  generalize numErr T U = err at h2 ⊢
  go_enter Try.func51, Try.ntmps51
  by_cases he : err = 0
  · subst he
    rw [if_pos rfl]
    go_wp2_with (first | (go_at_call 85; refine h2.mono ?_; rintro e w1 ⟨rfl, ⟨a0, a1, a2, b0, b1, b2, lt, hB⟩, ⟨r0, r1, r2, f0, f1, f2, hq⟩⟩) | (go_at_call 86; refine (HI.out _ hB hq _).mono ?_; rintro e w1 ⟨rfl, ⟨a0, a1, a2, b0, b1, b2, lt, hB2⟩, ⟨r0, r1, r2, f0, f1, f2, hq⟩⟩))
    generalize yesV (decide (T.n < U.n)) = n at HW ⊢
    obtain ⟨t0, t1, t2, HF⟩ := (QF.mk r0 r1 r2 f0 f1 f2 hq).leaf (n := n) w64_two HW.out hB2.out.bl (by omega)
    simp only [V.k, V.n, V.l, List.length_nil] at t0 t1 t2
    exact bodyPost_ret (v := .tuple #[.agg #[.int .i64 2, .int .i64 n, .slice none 0 0], .int .i64 0]) (by simp [results, Try.results51, go_sem, t0, t1, t2]) rfl (HF 0).out
  · have hne : (err != 0) = true := by simp [he]
    rw [if_neg he]
    clear he HI
    go_wp2_with (go_at_call 85; refine h2.mono ?_; rintro e w1 ⟨rfl, ⟨a0, a1, a2, b0, b1, b2, lt, hB⟩, ⟨r0, r1, r2, f0, f1, f2, hq⟩⟩)
    obtain ⟨t0, t1, t2, HF⟩ := (QF.mk r0 r1 r2 f0 f1 f2 hq).zero hB.out.bl (by omega)
    simp only [zeroV, V.k, V.n, V.l, List.length_nil] at t0 t1 t2
    exact bodyPost_ret (v := .tuple #[.agg #[.int .i64 0, .int .i64 0, .slice none 0 0], .int .i64 err]) (by simp [results, Try.results51, go_sem, t0, t1, t2]) rfl (HF err).out

end Go.Proofs.Ythfmbeecpjeegaa
