/- place: a node's copy, its numbers in the front of a room. -/
import Derived.Test.YtleihdakmibmhaaFh
import Derived.Laws.CopyRow
namespace Go.Proofs.Ytleihdakmibmhaa
open Go.RowKit Go.Shelf
attribute [local go_sem] Oper.semAt_some

/-- The rest of a room: m numbers from off on, in the block g. -/
def RoomI (A : Option Addr) (g off m : Nat) : Prop := m ≠ 0 → A = some ⟨g, off, none⟩
/-- A row of numbers put over others. -/
def putI (cs : Array Value) (off : Nat) (l : List Int) : Array Value := (cs.toList.take off ++ l.map (Value.int .i64) ++ cs.toList.drop (off + (l.map (Value.int .i64)).length)).toArray
theorem putI_nil (cs : Array Value) (off : Nat) : putI cs off [] = cs := by unfold putI; simp
def sliceAt (g off : Nat) (l : List Int) : Value := if l = [] then .slice none 0 0 else .slice (some ⟨g, off, none⟩) l.length l.length
def PlaceP (w : World) (g off : Nat) (x : Nd) (m : Nat) (cs : Array Value) (e : Ending) (w' : World) : Prop :=
  ∃ B, e = .returned (.tuple #[.agg #[.int .i64 x.op, .int .i64 x.n, sliceAt g off x.l], .slice B (m - x.l.length) (m - x.l.length)]) ∧ RoomI B g (off + x.l.length) (m - x.l.length) ∧ Blk w' g 3 (putI cs off x.l) ∧ Keep (fun k => k = g) w w'
theorem below2' (w : World) (o1 o2 : Obj) : Below w.heap.size w ((w.alloc o1).alloc o2) := ((Below.refl _ w).alloc (Nat.le_refl _) _).alloc (by simp) _
theorem Keep.setRow6 {F : Nat → Prop} {a w : World} (h : Keep F a w) {g : Nat} (hg : F g) (cs : Array Value) : Keep F a (w.setRow g cs) :=
  h.trans ⟨rfl, rfl, rfl, by simp [World.setRow], fun k _ hk => setRow_other w g k cs (fun e => hk (e ▸ hg))⟩
theorem Keep.ofB {F : Nat → Prop} {a w : World} (h : Below a.heap.size a w) : Keep F a w := Keep.of_below h (fun _ h1 h2 => absurd h1 (by omega))
theorem Blk.row_far {w : World} {g q : Nat} {t : TypeId} {cs : Array Value} (h : Blk w q t cs) (hne : q ≠ g) (ds : Array Value) : Blk (w.setRow g ds) q t cs := h.keep (setRow_other w g q ds hne)
theorem set3_cells6 {X : World} {q : Nat} {a b c : Value} (h0 : X.cell? ⟨q, 0, none⟩ = some a) (h1 : X.cell? ⟨q, 1, none⟩ = some b) (h2 : X.cell? ⟨q, 2, none⟩ = some c) (x y z : Value) :
    (((X.setCell ⟨q, 0, none⟩ x).setCell ⟨q, 1, none⟩ y).setCell ⟨q, 2, none⟩ z).cell? ⟨q, 0, none⟩ = some x ∧ (((X.setCell ⟨q, 0, none⟩ x).setCell ⟨q, 1, none⟩ y).setCell ⟨q, 2, none⟩ z).cell? ⟨q, 1, none⟩ = some y ∧
    (((X.setCell ⟨q, 0, none⟩ x).setCell ⟨q, 1, none⟩ y).setCell ⟨q, 2, none⟩ z).cell? ⟨q, 2, none⟩ = some z := by
  refine ⟨?_, ?_, ?_⟩
  · rw [World.cell?_setCell_other _ _ _ _ (by simp), World.cell?_setCell_other _ _ _ _ (by simp)]
    exact World.cell?_setCell_same _ _ _ h0
  · rw [World.cell?_setCell_other _ _ _ _ (by simp)]
    exact World.cell?_setCell_same _ _ _ (by rw [World.cell?_setCell_other _ _ _ _ (by simp)]; exact h1)
  · exact World.cell?_setCell_same _ _ _ (by rw [World.cell?_setCell_other _ _ _ _ (by simp), World.cell?_setCell_other _ _ _ _ (by simp)]; exact h2)
theorem keep_set36 {F : Nat → Prop} {a X : World} {q : Nat} (h : Keep F a X) (hq : F q ∨ a.heap.size ≤ q) (x y z : Value) : Keep F a (((X.setCell ⟨q, 0, none⟩ x).setCell ⟨q, 1, none⟩ y).setCell ⟨q, 2, none⟩ z) :=
  ((h.setCell hq _).setCell hq _).setCell hq _
theorem Blk.far3 {w : World} {g q : Nat} {t : TypeId} {cs : Array Value} (h : Blk w g t cs) (hne : g ≠ q) (x y z : Value) : Blk (((w.setCell ⟨q, 0, none⟩ x).setCell ⟨q, 1, none⟩ y).setCell ⟨q, 2, none⟩ z) g t cs :=
  ((h.far (p := ⟨q, 0, none⟩) hne x).far (p := ⟨q, 1, none⟩) hne y).far (p := ⟨q, 2, none⟩) hne z

set_option maxRecDepth 100000 in
set_option maxHeartbeats 3200000 in
theorem place6_ok {lo hi g off m : Nat} {u : Value} {x : Nd} {A : Option Addr} {cs : Array Value} (w : World) (h : IntsI w lo hi u x.l) (hb : Blk w g 3 cs) (hfit : off + m ≤ cs.size) (hl : x.l.length ≤ m) (_hm : m ≤ maxLen) (hr : RoomI A g off m) :
    Calls Try.prog 36 #[.agg #[.int .i64 x.op, .int .i64 x.n, u], .slice A m m] w (PlaceP w g off x m cs) := by
  obtain ⟨S, c, rfl, hc1, hc2⟩ := h.form
  unfold maxLen at _hm hc2
  by_cases hl0 : x.l = []
  · have HP : Hid (∀ w', Below w.heap.size w w' → PlaceP w g off x m cs (.returned (.tuple #[.agg #[.int .i64 x.op, .int .i64 x.n, .slice none 0 0], .slice A m m])) w') :=
      Lib.hid fun w' hk => ⟨A, by unfold sliceAt; rw [if_pos hl0, hl0]; rfl, by rw [hl0]; exact hr, by rw [hl0, putI_nil]; exact hb.keep (hk.block _ hb.lt), Keep.ofB hk⟩
    have hE : x.l.length = 0 := by rw [hl0]; rfl
    rw [hE]
    clear h hb hl0 hE hc1 hr hl
    go_enter Try.func36, Try.ntmps36
    go_wp2_with fail
    refine bodyPost_ret (v := .tuple #[.agg #[.int .i64 x.op, .int .i64 x.n, .slice none 0 0], .slice A m m]) (by simp [results, Try.results36, go_sem]) rfl ?_
    exact HP.out _ (below2' w _ _)
  · have hlen : 0 < x.l.length := List.length_pos_iff.2 hl0
    obtain rfl : A = some ⟨g, off, none⟩ := hr (by omega)
    obtain ⟨y, hy⟩ : ∃ y, x.l[0]? = some y := ⟨_, List.getElem?_eq_getElem hlen⟩
    obtain ⟨b, o, rfl, _, _, _, _⟩ := h.at_ hy
    have hsrc : ∀ (j : Nat) v, (x.l.map (Value.int .i64))[j]? = some v → w.cell? ⟨b, o + j, none⟩ = some v := fun j v hv => by
      rw [List.getElem?_map] at hv
      cases hq : x.l[j]? with
      | none => simp [hq] at hv
      | some z =>
        obtain ⟨b', o', e, _, _, hc, _⟩ := h.at_ hq
        simp only [Option.some.injEq, Addr.mk.injEq, and_true] at e
        obtain ⟨rfl, rfl⟩ := e
        simp [hq] at hv
        subst hv
        exact hc
    obtain ⟨W2, hW2⟩ : ∃ X, (w.alloc (.cells #[.int .i64 x.op, .int .i64 x.n, .slice (some ⟨b, o, none⟩) x.l.length c] 47)).alloc (.cells #[.int .i64 0, .int .i64 0, .slice none 0 0] 47) = X := ⟨_, rfl⟩
    have hB2 : Below w.heap.size w W2 := by rw [← hW2]; exact below2' w _ _
    have hn2 : Blk W2 w.heap.size 47 #[.int .i64 x.op, .int .i64 x.n, .slice (some ⟨b, o, none⟩) x.l.length c] := by rw [← hW2]; exact (Blk.new _ _ _).alloc _
    have hr2 : Blk W2 (w.heap.size + 1) 47 #[.int .i64 0, .int .i64 0, .slice none 0 0] := by rw [← hW2]; exact blkN (by simp) _ _
    have hg2 : Blk W2 g 3 cs := hb.keep (hB2.block _ hb.lt)
    obtain ⟨i0, hi0', hz0, hz1, hz2⟩ := info_parts6 intInfo
    have hsz1 : (Try.prog.info? 3).map (·.size) = some 1 := by rw [hi0']; simp [hz1]
    have hcp : ∀ ty, (Builtin.copy_ #[45, 45] ty #[.slice (some ⟨g, off, none⟩) x.l.length x.l.length, .slice (some ⟨b, o, none⟩) x.l.length c]).run Try.prog W2 = .ok (.int .i64 (x.l.length : Int)) (W2.setRow g (putI cs off x.l)) := fun ty => by
      have hr := run_copy_row (P := Try.prog) W2 45 45 ty 3 g off x.l.length x.l.length ⟨b, o, none⟩ x.l.length c cs 3 (x.l.map (Value.int .i64)) Try.underlying45 hsz1 hg2 (by simp)
        (fun j v hv => by rw [Addr.add_lit]; exact belC hB2 (hsrc j v hv)) (by simp; omega) (by intro v hv; simp at hv; obtain ⟨z, _, rfl⟩ := hv; rfl)
      rw [hr]
      simp [goInt, putI]
    have hne : w.heap.size ≠ g ∧ w.heap.size + 1 ≠ g := ⟨by have := hb.lt; omega, by have := hb.lt; omega⟩
    obtain ⟨W3, hW3⟩ : ∃ X, W2.setRow g (putI cs off x.l) = X := ⟨_, rfl⟩
    rw [hW3] at hcp
    have hn3 : Blk W3 w.heap.size 47 #[.int .i64 x.op, .int .i64 x.n, .slice (some ⟨b, o, none⟩) x.l.length c] := by rw [← hW3]; exact hn2.row_far hne.1 _
    have hr3 : Blk W3 (w.heap.size + 1) 47 #[.int .i64 0, .int .i64 0, .slice none 0 0] := by rw [← hW3]; exact hr2.row_far hne.2 _
    have hg3 : Blk W3 g 3 (putI cs off x.l) := by rw [← hW3]; exact hg2.setRow6 _
    have hK3 : Keep (fun k => k = g) w W3 := by rw [← hW3]; exact Keep.setRow6 (F := fun k => k = g) (Keep.ofB hB2) rfl _
    obtain ⟨y0, y1, y2⟩ : W2.cell? ⟨w.heap.size, 0, none⟩ = some (.int .i64 x.op) ∧ W2.cell? ⟨w.heap.size, 1, none⟩ = some (.int .i64 x.n) ∧ W2.cell? ⟨w.heap.size, 2, none⟩ = some (.slice (some ⟨b, o, none⟩) x.l.length c) := ⟨by simpa using hn2.cell 0, by simpa using hn2.cell 1, by simpa using hn2.cell 2⟩
    have hlI : ((x.l.length : Int) == 0) = false := by simp; exact hl0
    have hl0' : (0 : Int) ≤ (x.l.length : Int) := by omega
    have hlm : (x.l.length : Int) ≤ (m : Int) := by omega
    have ln := hn2.lt
    have hcp' := hcp
    have H3 := Lib.hid (And.intro hn3 (And.intro hr3 (And.intro hg3 hK3)))
    have HR := Lib.hid hr
    have HL := Lib.hid hl0
    clear hsz1 hi0' hz0 hz1 hz2 i0 hn3 hr3 hg3 hK3 hW3 hn2 hr2 hg2 hB2 hsrc h hb hy hl0 hr hcp'
    go_enter Try.func36, Try.ntmps36
    go_upto_region 6 with fail
    obtain ⟨hn3, hr3, hg3, hK3⟩ := H3.out
    obtain ⟨z0, z1, z2⟩ : W3.cell? ⟨w.heap.size, 0, none⟩ = some (.int .i64 x.op) ∧ W3.cell? ⟨w.heap.size, 1, none⟩ = some (.int .i64 x.n) ∧ W3.cell? ⟨w.heap.size, 2, none⟩ = some (.slice (some ⟨b, o, none⟩) x.l.length c) := ⟨by simpa using hn3.cell 0, by simpa using hn3.cell 1, by simpa using hn3.cell 2⟩
    obtain ⟨r0, r1, r2⟩ : W3.cell? ⟨w.heap.size + 1, 0, none⟩ = some (.int .i64 0) ∧ W3.cell? ⟨w.heap.size + 1, 1, none⟩ = some (.int .i64 0) ∧ W3.cell? ⟨w.heap.size + 1, 2, none⟩ = some (.slice none 0 0) := ⟨by simpa using hr3.cell 0, by simpa using hr3.cell 1, by simpa using hr3.cell 2⟩
    have s0 := hr3.frozen 0
    have s1 := hr3.frozen 1
    have s2 := hr3.frozen 2
    have lr := hr3.lt
    have ln3 := hn3.lt
    clear y0 y1 y2 hn3 hr3 hg3 hK3 hcp hW2 ln
    go_region
    obtain ⟨B, hB⟩ : ∃ B, (if m = x.l.length then some (⟨g, off, none⟩ : Addr) else some ⟨g, off + x.l.length, none⟩) = B := ⟨_, rfl⟩
    rw [hB]
    obtain ⟨t0, t1, t2⟩ := set3_cells6 r0 r1 r2 (.int .i64 x.op) (.int .i64 x.n) (.slice (some ⟨g, off, none⟩) x.l.length x.l.length)
    have HB := Lib.hid hB
    clear hB
    go_wp2_with fail
    refine bodyPost_ret (v := .tuple #[.agg #[.int .i64 x.op, .int .i64 x.n, .slice (some ⟨g, off, none⟩) x.l.length x.l.length], .slice B (m - x.l.length) (m - x.l.length)]) (by simp [results, Try.results36, go_sem, t0, t1, t2]) rfl ?_
    obtain ⟨hn3, hr3, hg3, hK3⟩ := H3.out
    refine ⟨B, by unfold sliceAt; rw [if_neg HL.out], fun hne' => by rw [← HB.out, if_neg (by omega)], ?_, ?_⟩
    · exact (hg3.far3 (fun e => hne.2 e.symm) _ _ _).drew
    · exact (keep_set36 hK3 (.inr (by omega)) _ _ _).drew
end Go.Proofs.Ytleihdakmibmhaa
