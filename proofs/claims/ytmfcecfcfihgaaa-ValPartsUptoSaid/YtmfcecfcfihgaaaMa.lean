/- Make. -/
import Derived.Test.YtmfcecfcfihgaaaPc
namespace Go.Proofs.Ytmfcecfcfihgaaa
open Go.RowKit Go.Shelf
attribute [local go_sem] Oper.semAt_some

def zeroV : V := .mk 0 0 []
/-- A value that is handed back, with an error. -/
def MadeP (w : World) (T : V) (err : Int) (e : Ending) (w' : World) : Prop :=
  ∃ S c, e = .returned (.tuple #[.agg #[.int .i64 T.k, .int .i64 T.n, .slice S T.l.length c], .int .i64 err]) ∧ In w' w.heap.size w'.heap.size (.agg #[.int .i64 T.k, .int .i64 T.n, .slice S T.l.length c]) T ∧ Below w.heap.size w w'
theorem w64_zero : W64 0 := by unfold W64; omega
theorem zero_in (W : World) (lo hi : Nat) : In W lo hi (.agg #[.int .i64 zeroV.k, .int .i64 zeroV.n, .slice none zeroV.l.length 0]) zeroV :=
  .mk 0 0 [] none 0 0 0 (fun _ => undef) w64_zero w64_zero (Nat.le_refl _) (by simp [maxLen]) (by simp) (by simp) (by simp)
/-- What is made of a value that may be, or may not be. -/
def makeV (T : V) : V × Int := if rightB T then (T, 0) else (zeroV, 40)

/-- The boxes of Make. -/
structure MB (w : World) (k n : Int) (s : Value) (W : World) : Prop where
  r : Blk W w.heap.size 36 #[.int .i64 0, .int .i64 0, .slice none 0 0]
  e : Blk W (w.heap.size + 1) 52 #[.int .i64 0]
  m : Blk W (w.heap.size + 1 + 1) 36 #[.int .i64 k, .int .i64 n, s]
  bl : Below w.heap.size w W
theorem MB.below {w W W' : World} {k n : Int} {s : Value} (h : MB w k n s W) (hb : Below W.heap.size W W') : MB w k n s W' :=
  ⟨h.r.keep (hb.block _ h.r.lt), h.e.keep (hb.block _ h.e.lt), h.m.keep (hb.block _ h.m.lt), h.bl.trans (hb.mono h.bl.size)⟩
/-- The same, cell by cell. -/
structure MF (w : World) (k n : Int) (s : Value) (W : World) : Prop where
  r0 : W.cell? ⟨w.heap.size, 0, none⟩ = some (.int .i64 0)
  r1 : W.cell? ⟨w.heap.size, 1, none⟩ = some (.int .i64 0)
  r2 : W.cell? ⟨w.heap.size, 2, none⟩ = some (.slice none 0 0)
  f0 : W.frozen? ⟨w.heap.size, 0, none⟩ = false
  f1 : W.frozen? ⟨w.heap.size, 1, none⟩ = false
  f2 : W.frozen? ⟨w.heap.size, 2, none⟩ = false
  e0 : W.cell? ⟨w.heap.size + 1, 0, none⟩ = some (.int .i64 0)
  g0 : W.frozen? ⟨w.heap.size + 1, 0, none⟩ = false
  m0 : W.cell? ⟨w.heap.size + 1 + 1, 0, none⟩ = some (.int .i64 k)
  m1 : W.cell? ⟨w.heap.size + 1 + 1, 1, none⟩ = some (.int .i64 n)
  m2 : W.cell? ⟨w.heap.size + 1 + 1, 2, none⟩ = some s
  b : Hid (MB w k n s W)
theorem MB.facts {w W : World} {k n : Int} {s : Value} (h : MB w k n s W) : MF w k n s W :=
  ⟨h.r.cells3.1, h.r.cells3.2.1, h.r.cells3.2.2, h.r.frozen _, h.r.frozen _, h.r.frozen _, by simpa using h.e.cell 0, h.e.frozen _, h.m.cells3.1, h.m.cells3.2.1, h.m.cells3.2.2, Lib.hid h⟩

theorem made_end {w w1 w2 W' : World} {v : Value} {T : V} (hv : In w2 w1.heap.size w2.heap.size v T) (hw1 : Below w.heap.size w w1) (_hsz : w1.heap.size ≤ w2.heap.size) (hb : Below w.heap.size w w2) (hk : Keep (fun k => w.heap.size ≤ k ∧ k < w1.heap.size) w2 W') :
    In W' w.heap.size W'.heap.size v T ∧ Below w.heap.size w W' :=
  ⟨(hv.keep (fun b h1 h2 => hk.block b h2 (by omega))).mono hw1.size hk.size, hb.trans (hk.below (fun k e => e.1) hb.size)⟩

set_option maxRecDepth 100000 in
set_option maxHeartbeats 3200000 in
theorem Make_ok {hi : Nat} {s : Value} {l : List V} (k n : Int) (hk : W64 k) (hn : W64 n) (w : World) (h : Ls w 0 hi s l) (hh : hi ≤ w.heap.size) :
    Calls Try.prog 123 #[.int .i64 k, .int .i64 n, s] w (MadeP w (makeV (.mk k n l)).1 (makeV (.mk k n l)).2) := by
  have hin : In w 0 hi (.agg #[.int .i64 k, .int .i64 n, s]) (.mk k n l) := In.of hk hn h
  obtain ⟨A, c, rfl, hc1, hc2⟩ := h.form
  have hmf : ∀ (fn : Fn) (first cap : Array Value) (w : World), (Instr.makeFunc fn first cap).run Try.prog w = .ok (.func fn first cap) w := fun _ _ _ _ => rfl
  obtain ⟨W3, hW3⟩ : ∃ W3, ((w.alloc (.cells #[.int .i64 0, .int .i64 0, .slice none 0 0] 36)).alloc (.cells #[.int .i64 0] 52)).alloc (.cells #[.int .i64 k, .int .i64 n, .slice A l.length c] 36) = W3 := ⟨_, rfl⟩
  have hs3 : W3.heap.size = w.heap.size + 1 + 1 + 1 := by rw [← hW3]; simp
  have hb3 : Below w.heap.size w W3 := by rw [← hW3]; exact below3 w _ _ _
  have hmb : MB w k n (.slice A l.length c) W3 := by
    rw [← hW3]
    refine ⟨((Blk.new w _ _).alloc _).alloc _, ?_, ?_, below3 w _ _ _⟩
    · have := (Blk.new (w.alloc (.cells #[.int .i64 0, .int .i64 0, .slice none 0 0] 36)) 52 #[.int .i64 0]).alloc (.cells #[.int .i64 k, .int .i64 n, .slice A l.length c] 36)
      rwa [World.size_alloc] at this
    · have := Blk.new ((w.alloc (.cells #[.int .i64 0, .int .i64 0, .slice none 0 0] 36)).alloc (.cells #[.int .i64 0] 52)) 36 #[.int .i64 k, .int .i64 n, .slice A l.length c]
      rwa [World.size_alloc, World.size_alloc] at this
  have hls := Ls.one (by omega) 36 (hin.after (hb3.mono hh))
  have hd := demand1_ok _ hls (by simp)
  have hmb4 : MB w k n (.slice A l.length c) (W3.alloc (.cells #[.int .i64 k, .int .i64 n, .slice A l.length c] 36)) := hmb.below ((Below.refl _ W3).alloc (Nat.le_refl _) _)
  have hd := hd.mono (R' := fun e w' => ((rightB (.mk k n l) = true ∧ e = .returned (.tuple #[])) ∨ (rightB (.mk k n l) = false ∧ e = .panicked badVal)) ∧ MF w k n (.slice A l.length c) w')
    (fun e w' h => ⟨h.1, (hmb4.below h.2).facts⟩)
  have hcp : rightB (.mk k n l) = true → ∀ w1, Hid (MB w k n (.slice A l.length c) w1) → Calls Try.prog 22 #[.agg #[.int .i64 k, .int .i64 n, .slice A l.length c]] w1 fun e w' =>
      ∃ S c', e = .returned (.agg #[.int .i64 k, .int .i64 n, .slice S l.length c']) ∧ MF w k n (.slice A l.length c) w' ∧ Hid (In w' w1.heap.size w'.heap.size (.agg #[.int .i64 k, .int .i64 n, .slice S l.length c']) (.mk k n l)) ∧ w1.heap.size ≤ w'.heap.size := fun hr w1 h1 => by
    have hsz : (V.mk k n l).size ≤ 256 := by
      unfold rightB at hr
      simp at hr
      exact hr.1
    refine (Copy_ok w1 (hin.after (h1.out.bl.mono hh)) (Nat.le_trans hh h1.out.bl.size) hsz).mono fun e w' hq => ?_
    obtain ⟨v', rfl, hv, hb⟩ := hq
    obtain ⟨S, c', rfl, _⟩ := hv.val
    exact ⟨S, c', rfl, (h1.out.below hb).facts, Lib.hid hv, hb.size⟩
  rw [← hW3] at hd
  have HCP := Lib.hid hcp
  clear hls hb3 hmb hmb4 hin h hcp hW3
  simp only [World.size_alloc] at hd
  unfold makeV
  go_enter_defers Try.func123, Try.ntmps123
  go_wp2_with (first | (go_at_call 122; refine hd.mono ?_; rintro e w1 ⟨(⟨hr, rfl⟩ | ⟨hr, rfl⟩), ⟨r0, r1, r2, f0, f1, f2, e0, g0, m0, m1, m2, hb⟩⟩) | (go_at_call 22; refine (HCP.out hr _ hb).mono ?_; rintro e w2 ⟨S, c', rfl, ⟨q0, q1, q2, p0, p1, p2, u0, v0, x0, x1, x2, hb2⟩, hv, hsz⟩))
  · obtain ⟨t0, t1, t2⟩ := set3_cells q0 q1 q2 (.int .i64 k) (.int .i64 n) (.slice S l.length c')
    obtain ⟨X, hX⟩ : ∃ X, (((w2.setCell ⟨w.heap.size, 0, none⟩ (.int .i64 k)).setCell ⟨w.heap.size, 1, none⟩ (.int .i64 n)).setCell ⟨w.heap.size, 2, none⟩ (.slice S l.length c')) = X := ⟨_, rfl⟩
    have hkX : Keep (fun j => w.heap.size ≤ j ∧ j < w1.heap.size) w2 X := by
      rw [← hX]
      exact keep_set3 (Keep.refl _ _) ⟨Nat.le_refl _, hb.out.r.lt⟩ _ _ _
    have y0 : X.cell? ⟨w.heap.size + 1, 0, none⟩ = some (.int .i64 0) := by rw [← hX, set3_far (by omega)]; exact u0
    have yf : X.frozen? ⟨w.heap.size + 1, 0, none⟩ = false := by rw [← hX, World.frozen?_setCell, World.frozen?_setCell, World.frozen?_setCell]; exact v0
    rw [hX] at t0 t1 t2
    have hc2 : (X.setCell ⟨w.heap.size + 1, 0, none⟩ (.int .i64 0)).cell? ⟨w.heap.size + 1, 0, none⟩ = some (.int .i64 0) := World.cell?_setCell_same _ _ _ y0
    have hc3 : ((X.setCell ⟨w.heap.size + 1, 0, none⟩ (.int .i64 0)).setCell ⟨w.heap.size + 1, 0, none⟩ (.int .i64 0)).cell? ⟨w.heap.size + 1, 0, none⟩ = some (.int .i64 0) := World.cell?_setCell_same _ _ _ hc2
    have d0 : ((X.setCell ⟨w.heap.size + 1, 0, none⟩ (.int .i64 0)).setCell ⟨w.heap.size + 1, 0, none⟩ (.int .i64 0)).cell? ⟨w.heap.size, 0, none⟩ = some (.int .i64 k) := by
      rw [World.cell?_setCell_other _ _ _ _ (by simp), World.cell?_setCell_other _ _ _ _ (by simp)]; exact t0
    have d1 : ((X.setCell ⟨w.heap.size + 1, 0, none⟩ (.int .i64 0)).setCell ⟨w.heap.size + 1, 0, none⟩ (.int .i64 0)).cell? ⟨w.heap.size, 1, none⟩ = some (.int .i64 n) := by
      rw [World.cell?_setCell_other _ _ _ _ (by simp), World.cell?_setCell_other _ _ _ _ (by simp)]; exact t1
    have d2 : ((X.setCell ⟨w.heap.size + 1, 0, none⟩ (.int .i64 0)).setCell ⟨w.heap.size + 1, 0, none⟩ (.int .i64 0)).cell? ⟨w.heap.size, 2, none⟩ = some (.slice S l.length c') := by
      rw [World.cell?_setCell_other _ _ _ _ (by simp), World.cell?_setCell_other _ _ _ _ (by simp)]; exact t2
    have hfin : MadeP w (.mk k n l) 0 (.returned (.tuple #[.agg #[.int .i64 k, .int .i64 n, .slice S l.length c'], .int .i64 0])) ((X.setCell ⟨w.heap.size + 1, 0, none⟩ (.int .i64 0)).setCell ⟨w.heap.size + 1, 0, none⟩ (.int .i64 0)) :=
      ⟨S, c', rfl, made_end hv.out hb.out.bl hsz hb2.out.bl ((hkX.setCell (.inl ⟨by simp, hb.out.e.lt⟩) _).setCell (.inl ⟨by simp, hb.out.e.lt⟩) _)⟩
    have HF := Lib.hid hfin
    rw [hX]
    clear hfin hkX hX
    refine leaves_cons (f := 162) (args := #[.pointer (some ⟨w.heap.size + 1, 0, none⟩)]) (by simp) (by simp [go_sem]) ?_
    refine (idle_Make _ _ _ hc2 (by rw [World.frozen?_setCell]; exact yf)).mono ?_
    rintro e u' w'' ⟨rfl, rfl, rfl⟩
    simp [Leaves, settle, results, Try.results123, go_sem, hc3, d0, d1, d2]
    exact HF.out
  · have hc2 : (w1.setCell ⟨w.heap.size + 1, 0, none⟩ (.int .i64 40)).cell? ⟨w.heap.size + 1, 0, none⟩ = some (.int .i64 40) := World.cell?_setCell_same _ _ _ e0
    have d0 : (w1.setCell ⟨w.heap.size + 1, 0, none⟩ (.int .i64 40)).cell? ⟨w.heap.size, 0, none⟩ = some (.int .i64 0) := by
      rw [World.cell?_setCell_other _ _ _ _ (by simp)]; exact r0
    have d1 : (w1.setCell ⟨w.heap.size + 1, 0, none⟩ (.int .i64 40)).cell? ⟨w.heap.size, 1, none⟩ = some (.int .i64 0) := by
      rw [World.cell?_setCell_other _ _ _ _ (by simp)]; exact r1
    have d2 : (w1.setCell ⟨w.heap.size + 1, 0, none⟩ (.int .i64 40)).cell? ⟨w.heap.size, 2, none⟩ = some (.slice none 0 0) := by
      rw [World.cell?_setCell_other _ _ _ _ (by simp)]; exact r2
    have hfin : MadeP w zeroV 40 (.returned (.tuple #[.agg #[.int .i64 0, .int .i64 0, .slice none 0 0], .int .i64 40])) (w1.setCell ⟨w.heap.size + 1, 0, none⟩ (.int .i64 40)) :=
      ⟨none, 0, rfl, zero_in _ _ _, hb.out.bl.setCell (by simp) _⟩
    have HF := Lib.hid hfin
    clear hfin
    refine leaves_cons (f := 162) (args := #[.pointer (some ⟨w.heap.size + 1, 0, none⟩)]) (by simp) (by simp [go_sem]) ?_
    refine (catch_Make _ _ _ [] _ e0 g0).mono ?_
    rintro e u' w'' ⟨rfl, rfl, rfl⟩
    simp [Leaves, settle, results, Try.results123, go_sem, hc2, d0, d1, d2]
    exact HF.out
end Go.Proofs.Ytmfcecfcfihgaaa
