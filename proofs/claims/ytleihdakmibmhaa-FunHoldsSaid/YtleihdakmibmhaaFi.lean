/- has, Where, Check, Depth, Parent. -/
import Derived.Test.YtleihdakmibmhaaFh
namespace Go.Proofs.Ytleihdakmibmhaa
open Go.RowKit Go.Shelf
attribute [local go_sem] Oper.semAt_some

theorem FunI.form {W : World} {lo hi : Nat} {v : Value} {F : Fd} (h : FunI W lo hi v F) : ∃ A c, v = .agg #[.int .i64 F.p, .slice A F.ns.length c] := by
  obtain ⟨s, rfl, _, hn⟩ := h
  obtain ⟨A, c, rfl, _, _⟩ := hn.form
  exact ⟨A, c, rfl⟩
/-- How examine ends, in a world behind w, with what else stood there. -/
theorem examine_at {F : Fd} {v : Value} {w W : World} (h : FunI w 0 w.heap.size v F) (hb : Below w.heap.size w W) : Calls Try.prog 31 #[v] W fun e w' =>
    ((∃ st bv gp gv A c, placesF F = .ok st ∧ e = .returned (.pointer (some ⟨bv, 0, none⟩)) ∧ ViewS W bv gp gv F A c st w') ∨ (∃ k : Nat, placesF F = .bad k ∧ e = .panicked [wrongP (k : Int)])) ∧ Below W.heap.size W w' :=
  (examine_ok W ((h.below hb (Nat.le_refl _)).mono (Nat.le_refl _) hb.size)).mono fun e w' q => by
    rcases q with ⟨st, bv, gp, gv, A, c, h1, h2, h3⟩ | ⟨k, h1, h2, h3⟩
    · exact ⟨.inl ⟨st, bv, gp, gv, A, c, h1, h2, h3⟩, h3.bl⟩
    · exact ⟨.inr ⟨k, h1, h2⟩, h3⟩

set_option maxRecDepth 100000 in
set_option maxHeartbeats 3200000 in
theorem Where_ok {F : Fd} {v : Value} (w : World) (h : FunI w 0 w.heap.size v F) :
    Calls Try.prog 11 #[v] w fun e w' => e = .returned (.tuple #[.int .i64 (whereF F).1, .int .i64 (whereF F).2]) ∧ Below w.heap.size w w' := by
  obtain ⟨A, c, rfl⟩ := h.form
  have hmf : ∀ (fn : Fn) (first cap : Array Value) (w : World), (Instr.makeFunc fn first cap).run Try.prog w = .ok (.func fn first cap) w := fun _ _ _ _ => rfl
  obtain ⟨W3, hW3⟩ : ∃ X, ((w.alloc (.cells #[.int .i64 F.p, .slice A F.ns.length c] 24)).alloc (.cells #[.int .i64 0] 3)).alloc (.cells #[.int .i64 0] 27) = X := ⟨_, rfl⟩
  have hB3 : Below w.heap.size w W3 := by rw [← hW3]; exact (((Below.refl _ w).alloc (Nat.le_refl _) _).alloc (by simp) _).alloc (by simp; omega) _
  have hn3 : Blk W3 (w.heap.size + 1) 3 #[.int .i64 0] := by rw [← hW3]; exact (blkN (by simp) _ _).alloc _
  have he3 : Blk W3 (w.heap.size + 1 + 1) 27 #[.int .i64 0] := by rw [← hW3]; exact blkN (by simp) _ _
  have hex := (examine_at h hB3).mono
    (R' := fun e w' => ((∃ st bv, placesF F = .ok st ∧ e = .returned (.pointer (some ⟨bv, 0, none⟩))) ∨ (∃ k : Nat, placesF F = .bad k ∧ e = .panicked [wrongP (k : Int)])) ∧
      w'.cell? ⟨w.heap.size + 1, 0, none⟩ = some (.int .i64 0) ∧ w'.frozen? ⟨w.heap.size + 1, 0, none⟩ = false ∧ w'.cell? ⟨w.heap.size + 1 + 1, 0, none⟩ = some (.int .i64 0) ∧ w'.frozen? ⟨w.heap.size + 1 + 1, 0, none⟩ = false ∧ Hid (Below w.heap.size w w' ∧ Blk w' (w.heap.size + 1) 3 #[.int .i64 0] ∧ Blk w' (w.heap.size + 1 + 1) 27 #[.int .i64 0]))
    (fun e w' q => by
      obtain ⟨q1, q2⟩ := q
      have k1 := hn3.keep (q2.block _ hn3.lt)
      have k2 := he3.keep (q2.block _ he3.lt)
      refine ⟨?_, by simpa using k1.cell 0, k1.frozen 0, by simpa using k2.cell 0, k2.frozen 0, Lib.hid ⟨hB3.trans (q2.mono hB3.size), k1, k2⟩⟩
      rcases q1 with ⟨st, bv, _, _, _, _, h1, h2, _⟩ | ⟨k, h1, h2⟩
      · exact .inl ⟨st, bv, h1, h2⟩
      · exact .inr ⟨k, h1, h2⟩)
  rw [← hW3] at hex
  have HEX := Lib.hid hex
  clear hex hB3 hn3 he3 hW3 h
  go_enter_defers Try.func11, Try.ntmps11
  go_wp2_with (go_at_call 31; (with_reducible refine HEX.out.mono ?_); rintro e w' ⟨(⟨st, bv, hp, rfl⟩ | ⟨k, hp, rfl⟩), n0, fn, e0, fe, hb⟩)
  · obtain ⟨hB, k1, k2⟩ := hb.out
    have hne : w.heap.size + 1 + 1 ≠ w.heap.size + 1 := by omega
    have x1 := ((k1.set 0 (.int .i64 0)).far (p := ⟨w.heap.size + 1 + 1, 0, none⟩) (by simp) (.int .i64 0))
    have x2 := ((k2.far (p := ⟨w.heap.size + 1, 0, none⟩) (by simp) (.int .i64 0)).set 0 (.int .i64 0))
    refine leaves_cons (f := 29) (args := #[.pointer (some ⟨w.heap.size + 1 + 1, 0, none⟩), .pointer (some ⟨w.heap.size + 1, 0, none⟩)]) (by simp) (by simp [go_sem]) ?_
    refine (idle_Where _ _ 0 0 _ (by simpa using x2.cell 0) (x2.frozen 0) (by simpa using x1.cell 0) (x1.frozen 0) hne).mono ?_
    rintro e u' w'' ⟨rfl, rfl, hw''⟩
    have y1 := ((x1.drew.set 0 (.int .i64 0)).far (p := ⟨w.heap.size + 1 + 1, 0, none⟩) (by simp) (.int .i64 0)).cell 0
    have y2 := ((x2.drew.far (p := ⟨w.heap.size + 1, 0, none⟩) (by simp) (.int .i64 0)).set 0 (.int .i64 0)).cell 0
    rw [← hw''] at y1 y2
    simp at y1 y2
    have hw : whereF F = (0, 0) := by unfold whereF; rw [hp]
    rw [hw]
    simp only [settle, Leaves]
    exact ⟨.tuple #[.int .i64 0, .int .i64 0], by simp [results, Try.results11, go_sem, y1, y2], rfl, by rw [hw'']; exact (((hB.setCell (by simp <;> omega) _).setCell (by simp <;> omega) _).drew.setCell (by simp <;> omega) _).setCell (by simp <;> omega) _⟩
  · obtain ⟨hB, k1, k2⟩ := hb.out
    have hne : w.heap.size + 1 + 1 ≠ w.heap.size + 1 := by omega
    refine leaves_cons (f := 29) (args := #[.pointer (some ⟨w.heap.size + 1 + 1, 0, none⟩), .pointer (some ⟨w.heap.size + 1, 0, none⟩)]) (by simp) (by simp [go_sem]) ?_
    refine (catch_Where _ _ 0 0 (k : Int) [] _ e0 fe n0 fn hne).mono ?_
    rintro e u' w'' ⟨rfl, rfl, hw''⟩
    have y1 := ((k1.drew.set 0 (.int .i64 (k : Int))).far (p := ⟨w.heap.size + 1 + 1, 0, none⟩) (by simp) (.int .i64 60)).cell 0
    have y2 := ((k2.drew.far (p := ⟨w.heap.size + 1, 0, none⟩) (by simp) (.int .i64 (k : Int))).set 0 (.int .i64 60)).cell 0
    rw [← hw''] at y1 y2
    simp at y1 y2
    have hw : whereF F = ((k : Int), 60) := by unfold whereF; rw [hp]
    rw [hw]
    simp only [settle, List.dropWhile]
    simp only [Leaves]
    exact ⟨.tuple #[.int .i64 (k : Int), .int .i64 60], by simp [results, Try.results11, go_sem, y1, y2], rfl, by rw [hw'']; exact (hB.drew.setCell (by simp <;> omega) _).setCell (by simp <;> omega) _⟩

theorem Check_ok6 {F : Fd} {v : Value} (w : World) (h : FunI w 0 w.heap.size v F) : Calls Try.prog 14 #[v] w fun e w' => e = .returned (.int .i64 (whereF F).2) ∧ Below w.heap.size w w' := by
  obtain ⟨A, c, rfl⟩ := h.form
  have hb : Below w.heap.size w (w.alloc (.cells #[.int .i64 F.p, .slice A F.ns.length c] 24)) := (Below.refl _ w).alloc (Nat.le_refl _) _
  have hw := Lib.hid ((Where_ok _ ((h.below hb (Nat.le_refl _)).mono (Nat.le_refl _) hb.size)).mono (R' := fun e w' => e = .returned (.tuple #[.int .i64 (whereF F).1, .int .i64 (whereF F).2]) ∧ Hid (Below w.heap.size w w')) fun e w' q => ⟨q.1, Lib.hid (hb.trans (q.2.mono hb.size))⟩)
  generalize (whereF F).1 = a at *
  generalize (whereF F).2 = b at *
  clear hb h
  go_enter Try.func14, Try.ntmps14
  go_wp2_with (go_at_call 11; (with_reducible refine hw.out.mono ?_); rintro e w' ⟨rfl, hB⟩)
  go_ret
  exact ⟨rfl, hB.out⟩

def hasB (node : Int) (n : Nat) : Bool := decide (0 ≤ node ∧ node < n)
theorem has_ok {w W : World} {bv gp gv : Nat} {F : Fd} {A : Option Addr} {c : Nat} {st : ST} (hV : ViewS w bv gp gv F A c st W) (hn : F.ns.length ≤ 200) (node : Int) :
    Calls Try.prog 34 #[.pointer (some ⟨bv, 0, none⟩), .int .i64 node] W fun e w' => e = .returned (.bool (hasB node F.ns.length)) ∧ Below W.heap.size W w' := by
  obtain ⟨z0, z1, z2, z3⟩ := hV.cells
  have hw2 : IntKind.i64.wrap ((F.ns.length : Int) - 1) = (F.ns.length : Int) - 1 := IntWalk.i64_in _ (by omega)
  have hwi := within2 node 0 ((F.ns.length : Int) - 1) W W.heap.size rfl (by unfold W64; omega) (by unfold W64; omega)
  have hwb : withinB node [0, (F.ns.length : Int) - 1] = hasB node F.ns.length := by
    unfold withinB hasB
    rw [Bool.eq_iff_iff]
    constructor <;> (intro hx; simp at hx ⊢; omega)
  rw [hwb] at hwi
  have HW := Lib.hid hwi
  obtain ⟨_, c', e', hc1, hc2, _⟩ := hV.nodes
  simp only [Value.slice.injEq] at e'
  obtain ⟨rfl, -, rfl⟩ := e'
  unfold maxLen at hc2
  have lb := hV.box.lt
  clear hwi hwb hV
  go_enter Try.func34, Try.ntmps34
  go_wp2_with (go_at_call 51; (with_reducible refine HW.out.mono ?_); rintro e w' ⟨rfl, rfl⟩)
  go_ret
  exact ⟨rfl, (Below.refl _ W).alloc (Nat.le_refl _) _⟩

theorem places_len {F : Fd} {st : ST} (h : placesF F = .ok st) : F.ns.length ≤ 200 := by
  unfold placesF at h
  split at h
  · rename_i hb
    unfold boundsB at hb
    simp at hb
    omega
  · cases h
def depthF (F : Fd) (node : Int) : Int × Int := match placesF F with
  | .bad _ => (0, 60)
  | .ok st => if hasB node F.ns.length = true then (st.2.getD node.toNat 0, 0) else (0, 4)
def parentF (F : Fd) (node : Int) : Int × Int := match placesF F with
  | .bad _ => (0, 60)
  | .ok st => if hasB node F.ns.length = true then (if st.1.getD node.toNat 0 = -1 then (0, 5) else (st.1.getD node.toNat 0, 0)) else (0, 4)
end Go.Proofs.Ytleihdakmibmhaa
