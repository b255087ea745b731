/- Add, Sub, Less, Eq, First, Second, Truth. -/
import Derived.Test.YtmfcecfcfihgaaaKa
namespace Go.Proofs.Ytmfcecfcfihgaaa
open Go.RowKit Go.Shelf
attribute [local go_sem] Oper.semAt_some

/-- The cells of a value and an error that are handed back. -/
structure RB (w : World) (r : Nat) (W : World) : Prop where
  res : Blk W r 36 #[.int .i64 0, .int .i64 0, .slice none 0 0]
  err : Blk W (r + 1) 52 #[.int .i64 0]
  bl : Below w.heap.size w W
  ge : w.heap.size ≤ r
theorem RB.below {w W W' : World} {r : Nat} (h : RB w r W) (hb : Below W.heap.size W W') : RB w r W' :=
  ⟨h.res.keep (hb.block _ h.res.lt), h.err.keep (hb.block _ h.err.lt), h.bl.trans (hb.mono h.bl.size), h.ge⟩
theorem RB.alloc {w W : World} {r : Nat} (h : RB w r W) (o : Obj) : RB w r (W.alloc o) := h.below ((Below.refl _ W).alloc (Nat.le_refl _) o)
theorem RB.new {w W : World} (hb : Below w.heap.size w W) : RB w W.heap.size ((W.alloc (.cells #[.int .i64 0, .int .i64 0, .slice none 0 0] 36)).alloc (.cells #[.int .i64 0] 52)) :=
  ⟨(Blk.new W _ _).alloc _, by have := Blk.new (W.alloc (.cells #[.int .i64 0, .int .i64 0, .slice none 0 0] 36)) 52 #[.int .i64 0]; rwa [World.size_alloc] at this, (hb.alloc hb.size _).alloc (by simp; have := hb.size; omega) _, hb.size⟩
structure RF (w : World) (r : Nat) (W : World) : Prop where
  r0 : W.cell? ⟨r, 0, none⟩ = some (.int .i64 0)
  r1 : W.cell? ⟨r, 1, none⟩ = some (.int .i64 0)
  r2 : W.cell? ⟨r, 2, none⟩ = some (.slice none 0 0)
  f0 : W.frozen? ⟨r, 0, none⟩ = false
  f1 : W.frozen? ⟨r, 1, none⟩ = false
  f2 : W.frozen? ⟨r, 2, none⟩ = false
  e0 : W.cell? ⟨r + 1, 0, none⟩ = some (.int .i64 0)
  g0 : W.frozen? ⟨r + 1, 0, none⟩ = false
  h : Hid (RB w r W)
theorem RB.facts {w W : World} {r : Nat} (h : RB w r W) : RF w r W :=
  ⟨h.res.cells3.1, h.res.cells3.2.1, h.res.cells3.2.2, h.res.frozen _, h.res.frozen _, h.res.frozen _, by simpa using h.err.cell 0, h.err.frozen _, Lib.hid h⟩

theorem w64_two : W64 2 := by unfold W64; omega
theorem leaf_in (W : World) (lo hi : Nat) (k n : Int) (hk : W64 k) (hn : W64 n) : In W lo hi (.agg #[.int .i64 k, .int .i64 n, .slice none 0 0]) (.mk k n []) :=
  .mk k n [] none 0 0 0 (fun _ => undef) hk hn (Nat.le_refl _) (by simp [maxLen]) (by simp) (by simp) (by simp)

theorem good_end {w W : World} {r g : Nat} {T : V} {S : Option Addr} {c : Nat} (h : RB w r W) (hv : In W g W.heap.size (.agg #[.int .i64 T.k, .int .i64 T.n, .slice S T.l.length c]) T) (hg : r + 1 < g) :
    ((((W.setCell ⟨r, 0, none⟩ (.int .i64 T.k)).setCell ⟨r, 1, none⟩ (.int .i64 T.n)).setCell ⟨r, 2, none⟩ (.slice S T.l.length c)).setCell ⟨r + 1, 0, none⟩ (.int .i64 0)).cell? ⟨r + 1, 0, none⟩ = some (.int .i64 0) ∧ ((((W.setCell ⟨r, 0, none⟩ (.int .i64 T.k)).setCell ⟨r, 1, none⟩ (.int .i64 T.n)).setCell ⟨r, 2, none⟩ (.slice S T.l.length c)).setCell ⟨r + 1, 0, none⟩ (.int .i64 0)).frozen? ⟨r + 1, 0, none⟩ = false ∧
    (((((W.setCell ⟨r, 0, none⟩ (.int .i64 T.k)).setCell ⟨r, 1, none⟩ (.int .i64 T.n)).setCell ⟨r, 2, none⟩ (.slice S T.l.length c)).setCell ⟨r + 1, 0, none⟩ (.int .i64 0)).setCell ⟨r + 1, 0, none⟩ (.int .i64 0)).cell? ⟨r + 1, 0, none⟩ = some (.int .i64 0) ∧
    (((((W.setCell ⟨r, 0, none⟩ (.int .i64 T.k)).setCell ⟨r, 1, none⟩ (.int .i64 T.n)).setCell ⟨r, 2, none⟩ (.slice S T.l.length c)).setCell ⟨r + 1, 0, none⟩ (.int .i64 0)).setCell ⟨r + 1, 0, none⟩ (.int .i64 0)).cell? ⟨r, 0, none⟩ = some (.int .i64 T.k) ∧
    (((((W.setCell ⟨r, 0, none⟩ (.int .i64 T.k)).setCell ⟨r, 1, none⟩ (.int .i64 T.n)).setCell ⟨r, 2, none⟩ (.slice S T.l.length c)).setCell ⟨r + 1, 0, none⟩ (.int .i64 0)).setCell ⟨r + 1, 0, none⟩ (.int .i64 0)).cell? ⟨r, 1, none⟩ = some (.int .i64 T.n) ∧
    (((((W.setCell ⟨r, 0, none⟩ (.int .i64 T.k)).setCell ⟨r, 1, none⟩ (.int .i64 T.n)).setCell ⟨r, 2, none⟩ (.slice S T.l.length c)).setCell ⟨r + 1, 0, none⟩ (.int .i64 0)).setCell ⟨r + 1, 0, none⟩ (.int .i64 0)).cell? ⟨r, 2, none⟩ = some (.slice S T.l.length c) ∧
    Hid (MadeP w T 0 (.returned (.tuple #[.agg #[.int .i64 T.k, .int .i64 T.n, .slice S T.l.length c], .int .i64 0])) (((((W.setCell ⟨r, 0, none⟩ (.int .i64 T.k)).setCell ⟨r, 1, none⟩ (.int .i64 T.n)).setCell ⟨r, 2, none⟩ (.slice S T.l.length c)).setCell ⟨r + 1, 0, none⟩ (.int .i64 0)).setCell ⟨r + 1, 0, none⟩ (.int .i64 0))) := by
  obtain ⟨t0, t1, t2⟩ := set3_cells h.res.cells3.1 h.res.cells3.2.1 h.res.cells3.2.2 (.int .i64 T.k) (.int .i64 T.n) (.slice S T.l.length c)
  have hkX : Keep (fun j => w.heap.size ≤ j ∧ j < g) W (((W.setCell ⟨r, 0, none⟩ (.int .i64 T.k)).setCell ⟨r, 1, none⟩ (.int .i64 T.n)).setCell ⟨r, 2, none⟩ (.slice S T.l.length c)) := keep_set3 (Keep.refl _ _) ⟨h.ge, by omega⟩ _ _ _
  have y0 : (((W.setCell ⟨r, 0, none⟩ (.int .i64 T.k)).setCell ⟨r, 1, none⟩ (.int .i64 T.n)).setCell ⟨r, 2, none⟩ (.slice S T.l.length c)).cell? ⟨r + 1, 0, none⟩ = some (.int .i64 0) := by rw [set3_far (by omega)]; simpa using h.err.cell 0
  have yf : (((W.setCell ⟨r, 0, none⟩ (.int .i64 T.k)).setCell ⟨r, 1, none⟩ (.int .i64 T.n)).setCell ⟨r, 2, none⟩ (.slice S T.l.length c)).frozen? ⟨r + 1, 0, none⟩ = false := by rw [World.frozen?_setCell, World.frozen?_setCell, World.frozen?_setCell]; exact h.err.frozen _
  generalize (((W.setCell ⟨r, 0, none⟩ (.int .i64 T.k)).setCell ⟨r, 1, none⟩ (.int .i64 T.n)).setCell ⟨r, 2, none⟩ (.slice S T.l.length c)) = X at t0 t1 t2 hkX y0 yf ⊢
  have hc2 : (X.setCell ⟨r + 1, 0, none⟩ (.int .i64 0)).cell? ⟨r + 1, 0, none⟩ = some (.int .i64 0) := World.cell?_setCell_same _ _ _ y0
  have hge := h.ge
  refine ⟨hc2, by rw [World.frozen?_setCell]; exact yf, World.cell?_setCell_same _ _ _ hc2, ?_, ?_, ?_, Lib.hid ?_⟩
  · rw [World.cell?_setCell_other _ _ _ _ (by simp), World.cell?_setCell_other _ _ _ _ (by simp)]; exact t0
  · rw [World.cell?_setCell_other _ _ _ _ (by simp), World.cell?_setCell_other _ _ _ _ (by simp)]; exact t1
  · rw [World.cell?_setCell_other _ _ _ _ (by simp), World.cell?_setCell_other _ _ _ _ (by simp)]; exact t2
  · have hk2 := (hkX.setCell (p := ⟨r + 1, 0, none⟩) (.inl ⟨by simp; omega, hg⟩) (.int .i64 0)).setCell (p := ⟨r + 1, 0, none⟩) (.inl ⟨by simp; omega, hg⟩) (.int .i64 0)
    exact ⟨S, c, rfl, (hv.keep (fun b h1 h2 => hk2.block b h2 (by omega))).mono (by omega) hk2.size, h.bl.trans (hk2.below (fun k e => e.1) h.bl.size)⟩
theorem fall_end {w W : World} {r : Nat} (h : RB w r W) (k : Int) :
    (W.setCell ⟨r + 1, 0, none⟩ (.int .i64 k)).cell? ⟨r + 1, 0, none⟩ = some (.int .i64 k) ∧ (W.setCell ⟨r + 1, 0, none⟩ (.int .i64 k)).cell? ⟨r, 0, none⟩ = some (.int .i64 0) ∧
    (W.setCell ⟨r + 1, 0, none⟩ (.int .i64 k)).cell? ⟨r, 1, none⟩ = some (.int .i64 0) ∧ (W.setCell ⟨r + 1, 0, none⟩ (.int .i64 k)).cell? ⟨r, 2, none⟩ = some (.slice none 0 0) ∧
    Hid (MadeP w zeroV k (.returned (.tuple #[.agg #[.int .i64 0, .int .i64 0, .slice none 0 0], .int .i64 k])) (W.setCell ⟨r + 1, 0, none⟩ (.int .i64 k))) := by
  have hge := h.ge
  refine ⟨World.cell?_setCell_same _ _ _ (by simpa using h.err.cell 0), ?_, ?_, ?_, Lib.hid ⟨none, 0, rfl, zero_in _ _ _, h.bl.setCell (by simp; omega) _⟩⟩
  · rw [World.cell?_setCell_other _ _ _ _ (by simp)]; exact h.res.cells3.1
  · rw [World.cell?_setCell_other _ _ _ _ (by simp)]; exact h.res.cells3.2.1
  · rw [World.cell?_setCell_other _ _ _ _ (by simp)]; exact h.res.cells3.2.2

def yesV (b : Bool) : Int := if b then 1 else 0
theorem w64_yes (b : Bool) : W64 (yesV b) := by cases b <;> (unfold W64 yesV; simp)

set_option maxRecDepth 100000 in
theorem answer_ok (b : Bool) (w : World) : Calls Try.prog 131 #[.bool b] w fun e w' => e = .returned (.agg #[.int .i64 2, .int .i64 (yesV b), .slice none 0 0]) ∧ Below w.heap.size w w' := by
  have hI := Int_ok
  cases b
  all_goals
    have hI := fun n => (hI n (w.alloc (.cells #[.int .i64 0, .int .i64 0, .slice none 0 0] 36))).mono (R' := fun e w' => e = .returned (.agg #[.int .i64 2, .int .i64 n, .slice none 0 0]) ∧ w'.cell? ⟨w.heap.size, 0, none⟩ = some (.int .i64 0) ∧ w'.cell? ⟨w.heap.size, 1, none⟩ = some (.int .i64 0) ∧ w'.cell? ⟨w.heap.size, 2, none⟩ = some (.slice none 0 0) ∧
        w'.frozen? ⟨w.heap.size, 0, none⟩ = false ∧ w'.frozen? ⟨w.heap.size, 1, none⟩ = false ∧ w'.frozen? ⟨w.heap.size, 2, none⟩ = false ∧ Hid (Below w.heap.size w w'))
      (fun e w' q => by
        have hk := (Blk.new w 36 #[.int .i64 0, .int .i64 0, .slice none 0 0]).keep (q.2.block _ (Blk.new w 36 #[.int .i64 0, .int .i64 0, .slice none 0 0]).lt)
        exact ⟨q.1, hk.cells3.1, hk.cells3.2.1, hk.cells3.2.2, hk.frozen _, hk.frozen _, hk.frozen _, Lib.hid (((Below.refl _ w).alloc (Nat.le_refl _) _).trans (q.2.mono (by simp)))⟩)
    go_enter Try.func131, Try.ntmps131
    go_wp2_with (go_at_call 61; refine (hI _).mono ?_; rintro e w' ⟨rfl, r0, r1, r2, f0, f1, f2, hb⟩)
  · obtain ⟨t0, t1, t2⟩ := set3_cells r0 r1 r2 (.int .i64 2) (.int .i64 0) (.slice none 0 0)
    exact bodyPost_ret (v := .agg #[.int .i64 2, .int .i64 0, .slice none 0 0]) (by simp [results, Try.results131, go_sem, t0, t1, t2]) rfl ⟨rfl, ((hb.out.setCell (Nat.le_refl _) _).setCell (Nat.le_refl _) _).setCell (Nat.le_refl _) _⟩
  · obtain ⟨t0, t1, t2⟩ := set3_cells r0 r1 r2 (.int .i64 2) (.int .i64 1) (.slice none 0 0)
    exact bodyPost_ret (v := .agg #[.int .i64 2, .int .i64 1, .slice none 0 0]) (by simp [results, Try.results131, go_sem, t0, t1, t2]) rfl ⟨rfl, ((hb.out.setCell (Nat.le_refl _) _).setCell (Nat.le_refl _) _).setCell (Nat.le_refl _) _⟩

theorem wrap64_w64 (x : Int) : W64 (wrap64 x) := by
  unfold W64 wrap64; omega
/-- What comes of two numbers. -/
def numV (T U : V) (v : V) : V × Int := if numErr T U = 0 then (v, 0) else (zeroV, numErr T U)


set_option maxRecDepth 100000 in
set_option maxHeartbeats 3200000 in
theorem Add_ok {hi : Nat} {u v : Value} {T U : V} (w : World) (h : In w 0 hi u T) (h' : In w 0 hi v U) (hh : hi ≤ w.heap.size) :
    Calls Try.prog 72 #[u, v] w (MadeP w (numV T U (.mk 2 (wrap64 (T.n + U.n)) [])).1 (numV T U (.mk 2 (wrap64 (T.n + U.n)) [])).2) := by
  obtain ⟨A, ca, rfl, _, _, _⟩ := h.val
  obtain ⟨B, cb, rfl, _, _, _⟩ := h'.val
  have hmf : ∀ (fn : Fn) (first cap : Array Value) (w : World), (Instr.makeFunc fn first cap).run Try.prog w = .ok (.func fn first cap) w := fun _ _ _ _ => rfl
  have hrb := RB.new (below2 w (.cells #[.int .i64 T.k, .int .i64 T.n, .slice A T.l.length ca] 36) (.cells #[.int .i64 U.k, .int .i64 U.n, .slice B U.l.length cb] 36))
  rw [World.size_alloc, World.size_alloc] at hrb
  have hc := (combine_add _ (h.after (hrb.bl.mono hh)) (h'.after (hrb.bl.mono hh)) (Nat.le_trans hh hrb.bl.size)).mono
    (R' := fun e w' => ((numErr T U = 0 ∧ e = .returned (.int .i64 (wrap64 (T.n + U.n)))) ∨ (numErr T U ≠ 0 ∧ e = .panicked (bad (numErr T U)))) ∧ RF w (w.heap.size + 1 + 1) w')
    (fun e w' q => ⟨q.1, (hrb.below q.2).facts⟩)
  have hI : ∀ w1, Hid (RB w (w.heap.size + 1 + 1) w1) → Calls Try.prog 61 #[.int .i64 (wrap64 (T.n + U.n))] w1 fun e w' => e = .returned (.agg #[.int .i64 2, .int .i64 (wrap64 (T.n + U.n)), .slice none 0 0]) ∧ RF w (w.heap.size + 1 + 1) w' := fun w1 h1 =>
    (Int_ok _ w1).mono fun e w' q => ⟨q.1, (h1.out.below q.2).facts⟩
  have HI := Lib.hid hI
  have HN := Lib.hid (show W64 (wrap64 (T.n + U.n)) from wrap64_w64 _)
  clear hI h h' hrb
  unfold numV
  generalize wrap64 (T.n + U.n) = n at hc HI HN ⊢
  generalize numErr T U = err at hc ⊢
  go_enter_defers Try.func72, Try.ntmps72
  go_wp2_with (first | (go_at_call 126; refine hc.mono ?_; rintro e w1 ⟨(⟨rfl, rfl⟩ | ⟨hne, rfl⟩), ⟨r0, r1, r2, f0, f1, f2, e0, g0, hR⟩⟩) | (go_at_call 61; refine (HI.out _ hR).mono ?_; rintro e w2 ⟨rfl, ⟨q0, q1, q2, p0, p1, p2, u0, v0, hR2⟩⟩))
  · obtain ⟨c1, c2, c3, d0, d1, d2, HF⟩ := good_end (T := .mk 2 n []) (g := w.heap.size + 4) hR2.out (leaf_in _ _ _ _ _ w64_two HN.out) (by omega)
    simp only [V.k, V.n, V.l, List.length_nil] at c1 c2 c3 d0 d1 d2
    refine leaves_cons (f := 125) (args := #[.pointer (some ⟨w.heap.size + 1 + 1 + 1, 0, none⟩)]) (by simp) (by simp [go_sem]) ?_
    refine (idle_Add _ _ _ c1 c2).mono ?_
    rintro e u' w'' ⟨rfl, rfl, rfl⟩
    simp [Leaves, settle, results, Try.results72, go_sem, c3, d0, d1, d2]
    exact HF.out
  · obtain ⟨c3, d0, d1, d2, HF⟩ := fall_end hR.out err
    refine leaves_cons (f := 125) (args := #[.pointer (some ⟨w.heap.size + 1 + 1 + 1, 0, none⟩)]) (by simp) (by simp [go_sem]) ?_
    refine (catch_Add _ _ _ [] _ e0 g0).mono ?_
    rintro e u' w'' ⟨rfl, rfl, rfl⟩
    simp [Leaves, settle, results, Try.results72, go_sem, c3, d0, d1, d2]
    exact HF.out


set_option maxRecDepth 100000 in
set_option maxHeartbeats 3200000 in
theorem Sub_ok {hi : Nat} {u v : Value} {T U : V} (w : World) (h : In w 0 hi u T) (h' : In w 0 hi v U) (hh : hi ≤ w.heap.size) :
    Calls Try.prog 73 #[u, v] w (MadeP w (numV T U (.mk 2 (wrap64 (T.n - U.n)) [])).1 (numV T U (.mk 2 (wrap64 (T.n - U.n)) [])).2) := by
  obtain ⟨A, ca, rfl, _, _, _⟩ := h.val
  obtain ⟨B, cb, rfl, _, _, _⟩ := h'.val
  have hmf : ∀ (fn : Fn) (first cap : Array Value) (w : World), (Instr.makeFunc fn first cap).run Try.prog w = .ok (.func fn first cap) w := fun _ _ _ _ => rfl
  have hrb := RB.new (below2 w (.cells #[.int .i64 T.k, .int .i64 T.n, .slice A T.l.length ca] 36) (.cells #[.int .i64 U.k, .int .i64 U.n, .slice B U.l.length cb] 36))
  rw [World.size_alloc, World.size_alloc] at hrb
  have hc := (combine_sub _ (h.after (hrb.bl.mono hh)) (h'.after (hrb.bl.mono hh)) (Nat.le_trans hh hrb.bl.size)).mono
    (R' := fun e w' => ((numErr T U = 0 ∧ e = .returned (.int .i64 (wrap64 (T.n - U.n)))) ∨ (numErr T U ≠ 0 ∧ e = .panicked (bad (numErr T U)))) ∧ RF w (w.heap.size + 1 + 1) w')
    (fun e w' q => ⟨q.1, (hrb.below q.2).facts⟩)
  have hI : ∀ w1, Hid (RB w (w.heap.size + 1 + 1) w1) → Calls Try.prog 61 #[.int .i64 (wrap64 (T.n - U.n))] w1 fun e w' => e = .returned (.agg #[.int .i64 2, .int .i64 (wrap64 (T.n - U.n)), .slice none 0 0]) ∧ RF w (w.heap.size + 1 + 1) w' := fun w1 h1 =>
    (Int_ok _ w1).mono fun e w' q => ⟨q.1, (h1.out.below q.2).facts⟩
  have HI := Lib.hid hI
  have HN := Lib.hid (show W64 (wrap64 (T.n - U.n)) from wrap64_w64 _)
  clear hI h h' hrb
  unfold numV
  generalize wrap64 (T.n - U.n) = n at hc HI HN ⊢
  generalize numErr T U = err at hc ⊢
  go_enter_defers Try.func73, Try.ntmps73
  go_wp2_with (first | (go_at_call 126; refine hc.mono ?_; rintro e w1 ⟨(⟨rfl, rfl⟩ | ⟨hne, rfl⟩), ⟨r0, r1, r2, f0, f1, f2, e0, g0, hR⟩⟩) | (go_at_call 61; refine (HI.out _ hR).mono ?_; rintro e w2 ⟨rfl, ⟨q0, q1, q2, p0, p1, p2, u0, v0, hR2⟩⟩))
  · obtain ⟨c1, c2, c3, d0, d1, d2, HF⟩ := good_end (T := .mk 2 n []) (g := w.heap.size + 4) hR2.out (leaf_in _ _ _ _ _ w64_two HN.out) (by omega)
    simp only [V.k, V.n, V.l, List.length_nil] at c1 c2 c3 d0 d1 d2
    refine leaves_cons (f := 128) (args := #[.pointer (some ⟨w.heap.size + 1 + 1 + 1, 0, none⟩)]) (by simp) (by simp [go_sem]) ?_
    refine (idle_Sub _ _ _ c1 c2).mono ?_
    rintro e u' w'' ⟨rfl, rfl, rfl⟩
    simp [Leaves, settle, results, Try.results73, go_sem, c3, d0, d1, d2]
    exact HF.out
  · obtain ⟨c3, d0, d1, d2, HF⟩ := fall_end hR.out err
    refine leaves_cons (f := 128) (args := #[.pointer (some ⟨w.heap.size + 1 + 1 + 1, 0, none⟩)]) (by simp) (by simp [go_sem]) ?_
    refine (catch_Sub _ _ _ [] _ e0 g0).mono ?_
    rintro e u' w'' ⟨rfl, rfl, rfl⟩
    simp [Leaves, settle, results, Try.results73, go_sem, c3, d0, d1, d2]
    exact HF.out


set_option maxRecDepth 100000 in
set_option maxHeartbeats 3200000 in
theorem Less_ok {hi : Nat} {u v : Value} {T U : V} (w : World) (h : In w 0 hi u T) (h' : In w 0 hi v U) (hh : hi ≤ w.heap.size) :
    Calls Try.prog 74 #[u, v] w (MadeP w (numV T U (.mk 2 (yesV (decide (T.n < U.n))) [])).1 (numV T U (.mk 2 (yesV (decide (T.n < U.n))) [])).2) := by
  obtain ⟨A, ca, rfl, _, _, _⟩ := h.val
  obtain ⟨B, cb, rfl, _, _, _⟩ := h'.val
  have hmf : ∀ (fn : Fn) (first cap : Array Value) (w : World), (Instr.makeFunc fn first cap).run Try.prog w = .ok (.func fn first cap) w := fun _ _ _ _ => rfl
  have hrb := RB.new (below2 w (.cells #[.int .i64 T.k, .int .i64 T.n, .slice A T.l.length ca] 36) (.cells #[.int .i64 U.k, .int .i64 U.n, .slice B U.l.length cb] 36))
  rw [World.size_alloc, World.size_alloc] at hrb
  have hc := (combine_less _ (h.after (hrb.bl.mono hh)) (h'.after (hrb.bl.mono hh)) (Nat.le_trans hh hrb.bl.size)).mono
    (R' := fun e w' => ((numErr T U = 0 ∧ e = .returned (.bool (decide (T.n < U.n)))) ∨ (numErr T U ≠ 0 ∧ e = .panicked (bad (numErr T U)))) ∧ RF w (w.heap.size + 1 + 1) w')
    (fun e w' q => ⟨q.1, (hrb.below q.2).facts⟩)
  have hI : ∀ w1, Hid (RB w (w.heap.size + 1 + 1) w1) → Calls Try.prog 131 #[.bool (decide (T.n < U.n))] w1 fun e w' => e = .returned (.agg #[.int .i64 2, .int .i64 (yesV (decide (T.n < U.n))), .slice none 0 0]) ∧ RF w (w.heap.size + 1 + 1) w' := fun w1 h1 =>
    (answer_ok _ w1).mono fun e w' q => ⟨q.1, (h1.out.below q.2).facts⟩
  have HI := Lib.hid hI
  have HN := Lib.hid (show W64 (yesV (decide (T.n < U.n))) from w64_yes _)
  clear hI h h' hrb
  unfold numV
  generalize yesV (decide (T.n < U.n)) = n at hc HI HN ⊢
  generalize numErr T U = err at hc ⊢
  go_enter_defers Try.func74, Try.ntmps74
  go_wp2_with (first | (go_at_call 132; refine hc.mono ?_; rintro e w1 ⟨(⟨rfl, rfl⟩ | ⟨hne, rfl⟩), ⟨r0, r1, r2, f0, f1, f2, e0, g0, hR⟩⟩) | (go_at_call 131; refine (HI.out _ hR).mono ?_; rintro e w2 ⟨rfl, ⟨q0, q1, q2, p0, p1, p2, u0, v0, hR2⟩⟩))
  · obtain ⟨c1, c2, c3, d0, d1, d2, HF⟩ := good_end (T := .mk 2 n []) (g := w.heap.size + 4) hR2.out (leaf_in _ _ _ _ _ w64_two HN.out) (by omega)
    simp only [V.k, V.n, V.l, List.length_nil] at c1 c2 c3 d0 d1 d2
    refine leaves_cons (f := 130) (args := #[.pointer (some ⟨w.heap.size + 1 + 1 + 1, 0, none⟩)]) (by simp) (by simp [go_sem]) ?_
    refine (idle_Less _ _ _ c1 c2).mono ?_
    rintro e u' w'' ⟨rfl, rfl, rfl⟩
    simp [Leaves, settle, results, Try.results74, go_sem, c3, d0, d1, d2]
    exact HF.out
  · obtain ⟨c3, d0, d1, d2, HF⟩ := fall_end hR.out err
    refine leaves_cons (f := 130) (args := #[.pointer (some ⟨w.heap.size + 1 + 1 + 1, 0, none⟩)]) (by simp) (by simp [go_sem]) ?_
    refine (catch_Less _ _ _ [] _ e0 g0).mono ?_
    rintro e u' w'' ⟨rfl, rfl, rfl⟩
    simp [Leaves, settle, results, Try.results74, go_sem, c3, d0, d1, d2]
    exact HF.out


def eqV (T U : V) : V × Int := if rightB T && rightB U then (.mk 2 (yesV (sameB T U)) [], 0) else (zeroV, 40)
set_option maxRecDepth 100000 in
set_option maxHeartbeats 3200000 in
theorem Eq_ok {hi : Nat} {u v : Value} {T U : V} (w : World) (h : In w 0 hi u T) (h' : In w 0 hi v U) (hh : hi ≤ w.heap.size) :
    Calls Try.prog 75 #[u, v] w (MadeP w (eqV T U).1 (eqV T U).2) := by
  obtain ⟨A, ca, rfl, _, _, _⟩ := h.val
  obtain ⟨B, cb, rfl, _, _, _⟩ := h'.val
  have hmf : ∀ (fn : Fn) (first cap : Array Value) (w : World), (Instr.makeFunc fn first cap).run Try.prog w = .ok (.func fn first cap) w := fun _ _ _ _ => rfl
  have hrb := RB.new (below2 w (.cells #[.int .i64 T.k, .int .i64 T.n, .slice A T.l.length ca] 36) (.cells #[.int .i64 U.k, .int .i64 U.n, .slice B U.l.length cb] 36))
  rw [World.size_alloc, World.size_alloc] at hrb
  have hT2 := ((TB.new w (.int .i64 T.k) (.int .i64 T.n) (.slice A T.l.length ca) (.int .i64 U.k) (.int .i64 U.n) (.slice B U.l.length cb)).alloc (.cells #[.int .i64 0, .int .i64 0, .slice none 0 0] 36)).alloc (.cells #[.int .i64 0] 52)
  have hd := (demand2_ok _ (Ls.pair (Nat.le_trans hh hrb.bl.size) 36 (h.after (hrb.bl.mono hh)) (h'.after (hrb.bl.mono hh))) (by simp)).mono
    (R' := fun e w' => ((rightB T && rightB U) = true ∧ e = .returned (.tuple #[]) ∨ (rightB T && rightB U) = false ∧ e = .panicked badVal) ∧ TF w (.int .i64 T.k) (.int .i64 T.n) (.slice A T.l.length ca) (.int .i64 U.k) (.int .i64 U.n) (.slice B U.l.length cb) w' ∧ RF w (w.heap.size + 1 + 1) w')
    (fun e w' q => ⟨q.1, ((hT2.alloc _).below q.2).facts, ((hrb.alloc _).below q.2).facts⟩)
  have hs : ∀ w1, Hid (RB w (w.heap.size + 1 + 1) w1) → Calls Try.prog 135 #[.agg #[.int .i64 T.k, .int .i64 T.n, .slice A T.l.length ca], .agg #[.int .i64 U.k, .int .i64 U.n, .slice B U.l.length cb]] w1 fun e w' => e = .returned (.bool (sameB T U)) ∧ Hid (RB w (w.heap.size + 1 + 1) w') := fun w1 h1 =>
    (Same_ok w1 (h.after (h1.out.bl.mono hh)) (h'.after (h1.out.bl.mono hh)) (Nat.le_trans hh h1.out.bl.size)).mono fun e w' q => ⟨q.1, Lib.hid (h1.out.below q.2)⟩
  have hI : ∀ w1, Hid (RB w (w.heap.size + 1 + 1) w1) → Calls Try.prog 131 #[.bool (sameB T U)] w1 fun e w' => e = .returned (.agg #[.int .i64 2, .int .i64 (yesV (sameB T U)), .slice none 0 0]) ∧ RF w (w.heap.size + 1 + 1) w' := fun w1 h1 =>
    (answer_ok _ w1).mono fun e w' q => ⟨q.1, (h1.out.below q.2).facts⟩
  have HI := Lib.hid hI
  have HS := Lib.hid hs
  clear hI hs h h' hrb hT2
  simp only [World.size_alloc] at hd
  unfold eqV
  generalize sameB T U = z at HI HS ⊢
  generalize (rightB T && rightB U) = ok at hd ⊢
  go_enter_defers Try.func75, Try.ntmps75
  go_wp2_with (first | (go_at_call 122; refine hd.mono ?_; rintro e w1 ⟨(⟨rfl, rfl⟩ | ⟨rfl, rfl⟩), ⟨a0, a1, a2, b0, b1, b2, lt, hT⟩, ⟨r0, r1, r2, f0, f1, f2, e0, g0, hR⟩⟩) | (go_at_call 135; refine (HS.out _ hR).mono ?_; rintro e w2 ⟨rfl, hR1⟩) | (go_at_call 131; refine (HI.out _ hR1).mono ?_; rintro e w3 ⟨rfl, ⟨q0, q1, q2, p0, p1, p2, u0, v0, hR2⟩⟩))
  · obtain ⟨c1, c2, c3, d0, d1, d2, HF⟩ := good_end (T := .mk 2 (yesV z) []) (g := w.heap.size + 4) hR2.out (leaf_in _ _ _ _ _ w64_two (w64_yes z)) (by omega)
    simp only [V.k, V.n, V.l, List.length_nil] at c1 c2 c3 d0 d1 d2
    refine leaves_cons (f := 134) (args := #[.pointer (some ⟨w.heap.size + 1 + 1 + 1, 0, none⟩)]) (by simp) (by simp [go_sem]) ?_
    refine (idle_Eq _ _ _ c1 c2).mono ?_
    rintro e u' w'' ⟨rfl, rfl, rfl⟩
    simp [Leaves, settle, results, Try.results75, go_sem, c3, d0, d1, d2]
    exact HF.out
  · obtain ⟨c3, d0, d1, d2, HF⟩ := fall_end hR.out 40
    refine leaves_cons (f := 134) (args := #[.pointer (some ⟨w.heap.size + 1 + 1 + 1, 0, none⟩)]) (by simp) (by simp [go_sem]) ?_
    refine (catch_Eq _ _ _ [] _ e0 g0).mono ?_
    rintro e u' w'' ⟨rfl, rfl, rfl⟩
    simp [Leaves, settle, results, Try.results75, go_sem, c3, d0, d1, d2]
    exact HF.out

end Go.Proofs.Ytmfcecfcfihgaaa
