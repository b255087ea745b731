/- SpinPlays: the document's States of two places. -/
import Derived.Test.YthiaaapcbiameaaDoorTa
namespace Go.Proofs.YthiaaapcbiameaaDoor
open Go.RowKit Go.Shelf
attribute [local go_sem] Oper.semAt_some
/-- Two places, read one behind the other. -/
def statesSt (s : St) (j0 j1 : Int) : St × List Bool × Int :=
  if inSt s j0 = true ∧ inSt s j1 = true then ((doSt (doSt s 1 j0 0 0).1 1 j1 0 0).1, [(doSt s 1 j0 0 0).2.1.old != 0, (doSt (doSt s 1 j0 0 0).1 1 j1 0 0).2.1.old != 0], 0) else (s, [], 4)
def StatesOut (w : World) (v : Value) (z : St × List Bool × Int) (e : Ending) (w' : World) : Prop :=
  ∃ v' u, e = .returned (.tuple #[v', u, .int .i64 z.2.2]) ∧ RefS w' v' z.1 ∧ Bools w' u z.2.1 ∧ Below w.heap.size w w' ∧ (∀ k, ownR v' k → ownR v k ∨ w.heap.size ≤ k)

/-- Behind a look at a place: what was answered lies in a block of its own, the box is as it was. -/
structure Rmid (w : World) (v : Value) (s' : St) (l : List Bool) (u x y z a b c : Value) (nb p : Nat) (j0 j1 : Int) (W : World) : Prop where
  bl : Below w.heap.size w W
  rb : Blk W (w.heap.size + 1) 31 #[.slice none 0 0, .int .i64 0, .slice none 0 0]
  bx : Blk W w.heap.size 31 #[x, y, z]
  nw : Blk W nb 31 #[a, b, c]
  rs : RefS W (.agg #[a, b, c]) s'
  ho : ∀ k, ownR (.agg #[a, b, c]) k → ownR v k ∨ w.heap.size ≤ k
  row : Bools W u l
  un : ∀ k, u.ownBlock = some k → w.heap.size + 2 ≤ k
  hp : Blk W p 3 #[.int .i64 j0, .int .i64 j1]
  hpl : p < w.heap.size
  lt : w.heap.size + 2 ≤ nb
theorem Rmid.ofAlloc {w wr w3 : World} {v v0 : Value} {s s' : St} {l : List Bool} {u x y z a b c : Value} {p : Nat} {j0 j1 : Int} (h : RTri w v s l u wr) (hbx : Blk wr w.heap.size 31 #[x, y, z]) (hr : RefS w3 (.agg #[a, b, c]) s') (hB : Below wr.heap.size wr w3)
    (ho : ∀ k, ownR (.agg #[a, b, c]) k → ownR v k ∨ w.heap.size ≤ k) (hp : Blk wr p 3 #[.int .i64 j0, .int .i64 j1]) (hpl : p < w.heap.size) :
    Rmid w v s' l u x y z a b c w3.heap.size p j0 j1 (w3.alloc (.cells #[a, b, c] 31)) := by
  have h1 := h.rb.lt
  have h2 := hB.size
  have hb3 := h.bl.trans (hB.mono h.bl.size)
  exact ⟨hb3.alloc hb3.size _, (h.rb.keep (hB.block _ h1)).alloc _, (hbx.keep (hB.block _ hbx.lt)).alloc _, Blk.new w3 31 _, hr.alloc _, ho, (h.row.below hB).below ((Below.refl _ _).alloc (Nat.le_refl _) _), h.un, (hp.keep (hB.block _ hp.lt)).alloc _, hpl, by omega⟩
theorem Rmid.ofSet {w wr w3 : World} {v : Value} {s s' : St} {l : List Bool} {u x y z a b c a0 a1 a2 : Value} {p : Nat} {j0 j1 : Int} (h : RTri w v s l u wr) (hbx : Blk wr w.heap.size 31 #[x, y, z]) (hr : RefS w3 (.agg #[a, b, c]) s') (hB : Below wr.heap.size wr w3)
    (ho : ∀ k, ownR (.agg #[a, b, c]) k → ownR v k ∨ w.heap.size ≤ k) (hp : Blk wr p 3 #[.int .i64 j0, .int .i64 j1]) (hpl : p < w.heap.size) (hn : Blk w3 wr.heap.size 31 #[a0, a1, a2]) :
    Rmid w v s' l u x y z a b c wr.heap.size p j0 j1 (((w3.setCell ⟨wr.heap.size, 0, none⟩ a).setCell ⟨wr.heap.size, 1, none⟩ b).setCell ⟨wr.heap.size, 2, none⟩ c) := by
  have h1 := h.rb.lt
  have h2 := hB.size
  have hb3 := h.bl.trans (hB.mono h.bl.size)
  have hs := h.bl.size
  have K := Keep.three w3 wr.heap.size a b c
  exact ⟨((hb3.setCell (p := ⟨wr.heap.size, 0, none⟩) hs _).setCell (p := ⟨wr.heap.size, 1, none⟩) hs _).setCell (p := ⟨wr.heap.size, 2, none⟩) hs _, (h.rb.keep (hB.block _ h1)).keep (K.block _ (by omega) (by omega)), (hbx.keep (hB.block _ hbx.lt)).keep (K.block _ (by have := hbx.lt; omega) (by have := hbx.lt; omega)), blk_three hn, hr.three hn, ho,
    Row.keep (h.row.below hB) (fun k hk => K.block k (Row.lt (h.row.below hB) k hk) (fun e => by have := Row.lt h.row k hk; omega)), h.un, (hp.keep (hB.block _ hp.lt)).keep (K.block _ (by have := hp.lt; omega) (by have := hp.lt; omega)), hpl, by omega⟩
theorem Rmid.put {w W : World} {v : Value} {s' : St} {l : List Bool} {u x y z a b c : Value} {nb p : Nat} {j0 j1 : Int} (h : Rmid w v s' l u x y z a b c nb p j0 j1 W) :
    RTri w v s' l u (((W.setCell ⟨w.heap.size, 0, none⟩ a).setCell ⟨w.heap.size, 1, none⟩ b).setCell ⟨w.heap.size, 2, none⟩ c) ∧ Blk (((W.setCell ⟨w.heap.size, 0, none⟩ a).setCell ⟨w.heap.size, 1, none⟩ b).setCell ⟨w.heap.size, 2, none⟩ c) w.heap.size 31 #[a, b, c] ∧
    RefS (((W.setCell ⟨w.heap.size, 0, none⟩ a).setCell ⟨w.heap.size, 1, none⟩ b).setCell ⟨w.heap.size, 2, none⟩ c) (.agg #[a, b, c]) s' ∧ Blk (((W.setCell ⟨w.heap.size, 0, none⟩ a).setCell ⟨w.heap.size, 1, none⟩ b).setCell ⟨w.heap.size, 2, none⟩ c) p 3 #[.int .i64 j0, .int .i64 j1] := by
  have K := Keep.three W w.heap.size a b c
  have hb := blk_three (x := a) (y := b) (z := c) h.bx
  have hr := h.rs.three (x := a) (y := b) (z := c) h.bx
  have hpl := h.hpl
  exact ⟨⟨((h.bl.setCell (p := ⟨w.heap.size, 0, none⟩) (Nat.le_refl _) _).setCell (p := ⟨w.heap.size, 1, none⟩) (Nat.le_refl _) _).setCell (p := ⟨w.heap.size, 2, none⟩) (Nat.le_refl _) _, h.rb.keep (K.block _ h.rb.lt (by omega)), ⟨a, b, c, hb, hr, h.ho⟩, Row.keep h.row (fun k hk => K.block k (Row.lt h.row k hk) (fun e => by have := h.un k hk; omega)), h.un⟩, hb, hr, h.hp.keep (K.block _ h.hp.lt (by omega))⟩

set_option maxRecDepth 100000 in
set_option maxHeartbeats 3200000 in
theorem states3_in {s : St} {v : Value} (j0 j1 : Int) (p : Nat) (w : World) (h : RefS w v s) (hh : s.hist.length < 1000000) (hp : Blk w p 3 #[.int .i64 j0, .int .i64 j1]) (h0 : inSt s j0 = true) (h1 : inSt s j1 = true) :
    Calls Tryd.prog 27 #[v, .slice (some ⟨p, 0, none⟩) 2 2] w (StatesOut w v (statesSt s j0 j1)) := by
  have hlt := h.lt
  obtain ⟨A0, c0, A0', c0', rfl⟩ := h.form
  have BA : Below w.heap.size w ((w.alloc (.cells #[.slice A0 s.cs.length c0, .int .i64 s.most, .slice A0' s.hist.length c0'] 31)).alloc (.cells #[.slice none 0 0, .int .i64 0, .slice none 0 0] 31)) := ((Below.refl _ _).alloc (Nat.le_refl _) _).alloc (by simp) _
  have rsA := Blk.new (w.alloc (.cells #[.slice A0 s.cs.length c0, .int .i64 s.most, .slice A0' s.hist.length c0'] 31)) 31 #[.slice none 0 0, .int .i64 0, .slice none 0 0]
  rw [World.size_alloc] at rsA
  have bxA : Blk ((w.alloc (.cells #[.slice A0 s.cs.length c0, .int .i64 s.most, .slice A0' s.hist.length c0'] 31)).alloc (.cells #[.slice none 0 0, .int .i64 0, .slice none 0 0] 31)) w.heap.size 31 #[.slice A0 s.cs.length c0, .int .i64 s.most, .slice A0' s.hist.length c0'] := (Blk.new w _ _).alloc _
  have hpA := hp.keep (BA.block _ hp.lt)
  have hrA := h.below BA
  have hpl := hp.lt
  go_enter Tryd.func27, Tryd.ntmps27
  go_wp2_with fail
  revert BA rsA bxA hpA hrA
  generalize ((w.alloc (.cells #[.slice A0 s.cs.length c0, .int .i64 s.most, .slice A0' s.hist.length c0'] 31)).alloc (.cells #[.slice none 0 0, .int .i64 0, .slice none 0 0] 31)) = wA
  intro BA rsA bxA hpA hrA
  have p0 := hpA.cell 0
  have p1 := hpA.cell 1
  have b0 := bxA.cell 0
  have b1 := bxA.cell 1
  have b2 := bxA.cell 2
  have r0 := rsA.cell 0
  have r1 := rsA.cell 1
  have r2 := rsA.cell 2
  have f0 := rsA.frozen 0
  have f1 := rsA.frozen 1
  have f2 := rsA.frozen 2
  simp at p0 p1 b0 b1 b2 r0 r1 r2
  have q0 : (0 : Int) ≤ j0 ∧ j0 < (s.cs.length : Int) := by simpa [inSt] using h0
  have q1 : (0 : Int) ≤ j1 ∧ j1 < (s.cs.length : Int) := by simpa [inSt] using h1
  have t0 : ¬ j0 < 0 := by omega
  have t1 : decide (j0 < 0) = false := by simp; omega
  have t2 : ¬ (s.cs.length : Int) ≤ j0 := by omega
  have t3 : decide ((s.cs.length : Int) ≤ j0) = false := by simp; omega
  have t4 : ¬ j1 < 0 := by omega
  have t5 : decide (j1 < 0) = false := by simp; omega
  have t6 : ¬ (s.cs.length : Int) ≤ j1 := by omega
  have t7 : decide ((s.cs.length : Int) ≤ j1) = false := by simp; omega
  refine wp_loop_rounds 3 ?_
  rw [rounds_succ]
  go_wp2_with fail
  go_quiet (fail)
  obtain ⟨nA, hnA⟩ : ∃ n, nq = n := ⟨_, rfl⟩
  rw [hnA]
  clear hnA
  go_wp2_with fail
  rw [rounds_succ]
  go_wp2_with fail
  go_quiet (fail)
  go_wp2_with fail
  rw [rounds_succ]
  go_wp2_with fail
  obtain ⟨wB, hwB⟩ : ∃ wB, wA.drewN (nA + nq) = wB := ⟨_, rfl⟩
  rw [hwB]
  have hpB : Blk wB p 3 #[.int .i64 j0, .int .i64 j1] := by rw [← hwB]; exact hpA
  have R0 : RTri w (.agg #[.slice A0 s.cs.length c0, .int .i64 s.most, .slice A0' s.hist.length c0']) s [] (.slice none 0 0) wB := by
    rw [← hwB]
    exact ⟨below_drewN BA (nA + nq), rsA, ⟨_, _, _, bxA, hrA.keep (fun _ _ => rfl), fun _ hk => .inl hk⟩, Bools.nil _, by simp [Value.ownBlock]⟩
  clear hwB p0 p1 b0 b1 b2 r0 r1 r2 f0 f1 f2 hrA hpA bxA rsA BA t0 t1 t2 t3 t4 t5 t6 t7
  go_loopw [8, 9] (fun u i wr => Blk wr p 3 #[.int .i64 j0, .int .i64 j1] ∧ ((i = .int .i64 0 ∧ RTri w (.agg #[.slice A0 s.cs.length c0, .int .i64 s.most, .slice A0' s.hist.length c0']) s [] u wr) ∨ (i = .int .i64 1 ∧ RTri w (.agg #[.slice A0 s.cs.length c0, .int .i64 s.most, .slice A0' s.hist.length c0']) (doSt s 1 j0 0 0).1 [(doSt s 1 j0 0 0).2.1.old != 0] u wr) ∨
      (i = .int .i64 2 ∧ RTri w (.agg #[.slice A0 s.cs.length c0, .int .i64 s.most, .slice A0' s.hist.length c0']) (doSt (doSt s 1 j0 0 0).1 1 j1 0 0).1 [(doSt s 1 j0 0 0).2.1.old != 0, (doSt (doSt s 1 j0 0 0).1 1 j1 0 0).2.1.old != 0] u wr))) (fun _ i _ => (2 - intOf i).toNat)
  case atStart => exact ⟨hpB, .inl ⟨rfl, R0⟩⟩
  case round =>
    obtain ⟨hpW, hrel⟩ := hrel
    clear R0 hpB
    rcases hrel with ⟨rfl, hR⟩ | ⟨rfl, hR⟩ | ⟨rfl, hR⟩
    all_goals
      obtain ⟨x, y, z, hbx, hrsK, hown⟩ := hR.ex
      obtain ⟨Ax, cx, Ax', cx', hxyz⟩ := hrsK.form
      simp at hxyz
      obtain ⟨rfl, rfl, rfl⟩ := hxyz
      obtain ⟨Au, cu, rfl, hu1, hu2⟩ := Row.form hR.row
      have p0 := hpW.cell 0
      have p1 := hpW.cell 1
      have b0 := hbx.cell 0
      have b1 := hbx.cell 1
      have b2 := hbx.cell 2
      have g0 := hbx.frozen 0
      have g1 := hbx.frozen 1
      have g2 := hbx.frozen 2
      simp at p0 p1 b0 b1 b2
    · have hrs := hrsK
      have hT := refHeld3 j0 wr hrs (by omega)
      have hT1 := refHeld3 j0 wr.drew (hrs.keep (fun _ _ => rfl)) (by omega)
      have hT2 := refHeld3 j0 (wr.alloc (.cells #[.slice none 0 0, .int .i64 0, .slice none 0 0] 31)).drew ((hrs.alloc (.cells #[.slice none 0 0, .int .i64 0, .slice none 0 0] 31)).keep (fun _ _ => rfl)) (by omega)
      have BD : Below wr.heap.size wr wr.drew := (Below.refl _ _).drew
      have BN : Below wr.heap.size wr (wr.alloc (.cells #[.slice none 0 0, .int .i64 0, .slice none 0 0] 31)).drew := ((Below.refl _ _).alloc (Nat.le_refl _) _).drew
      have n0 := (hpW.keep (BN.block _ hpW.lt)).cell 0
      have w0 := (hbx.keep (BN.block _ hbx.lt)).cell 0
      have w1' := (hbx.keep (BN.block _ hbx.lt)).cell 1
      have w2' := (hbx.keep (BN.block _ hbx.lt)).cell 2
      have nn1 : wr.heap.size ≠ w.heap.size := by have := hbx.lt; omega
      have nn2 : wr.heap.size ≠ p := by have := hpW.lt; omega
      simp only [List.getElem?_toArray, List.getElem?_cons_zero, List.getElem?_cons_succ] at n0 w0 w1' w2'
      go_wp2_with fail
      go_region_held3 (fun w' => w'.cell? ⟨w.heap.size, 0, none⟩ = some (.slice Ax s.cs.length cx) ∧ w'.cell? ⟨w.heap.size, 1, none⟩ = some (.int .i64 s.most) ∧ w'.cell? ⟨w.heap.size, 2, none⟩ = some (.slice Ax' s.hist.length cx') ∧ w'.cell? ⟨p, 0, none⟩ = some (.int .i64 j0))
        (first
          | with_reducible exact ⟨b0, b1, b2, p0⟩
          | with_reducible exact ⟨w0, w1', w2', n0⟩
          | with_reducible exact ⟨u0, u1, u2, m0⟩
          | ((refine ⟨?_, ?_, ?_, ?_⟩ <;> (repeat (rw [World.cell?_setCell_far _ _ _ _ (by with_reducible first | exact nn1 | exact nn2)]))) <;> with_reducible (first | exact u0 | exact u1 | exact u2 | exact m0))
          | go_keep)
        ((first
        | (go_at_call 24
           refine hT1.mono ?_
           rintro e w3 ⟨v3, rfl, hr3, hB3, ho3⟩
           obtain ⟨A3, c3, A3', c3', rfl⟩ := hr3.form
           have HB := BD.trans (hB3.mono BD.size)
           have ho3' : ∀ k, ownR (.agg #[.slice A3 (doSt s 1 j0 0 0).1.cs.length c3, .int .i64 (doSt s 1 j0 0 0).1.most, .slice A3' (doSt s 1 j0 0 0).1.hist.length c3']) k → ownR (.agg #[.slice A0 s.cs.length c0, .int .i64 s.most, .slice A0' s.hist.length c0']) k ∨ w.heap.size ≤ k := fun k hk => (ho3 k hk).elim (hown k) (fun h => .inr (Nat.le_trans hR.bl.size (Nat.le_trans BD.size h)))
           have bx3 := hbx.keep (HB.block _ hbx.lt)
           have hp3 := hpW.keep (HB.block _ hpW.lt)
           have u0 := bx3.cell 0
           have u1 := bx3.cell 1
           have u2 := bx3.cell 2
           have m0 := hp3.cell 0
           simp at u0 u1 u2 m0)
        | (go_at_call 24
           refine hT2.mono ?_
           rintro e w3 ⟨v3, rfl, hr3, hB3, ho3⟩
           obtain ⟨A3, c3, A3', c3', rfl⟩ := hr3.form
           have HB := BN.trans (hB3.mono BN.size)
           have ho3' : ∀ k, ownR (.agg #[.slice A3 (doSt s 1 j0 0 0).1.cs.length c3, .int .i64 (doSt s 1 j0 0 0).1.most, .slice A3' (doSt s 1 j0 0 0).1.hist.length c3']) k → ownR (.agg #[.slice A0 s.cs.length c0, .int .i64 s.most, .slice A0' s.hist.length c0']) k ∨ w.heap.size ≤ k := fun k hk => (ho3 k hk).elim (hown k) (fun h => .inr (Nat.le_trans hR.bl.size (Nat.le_trans BN.size h)))
           have bx3 := hbx.keep (HB.block _ hbx.lt)
           have hp3 := hpW.keep (HB.block _ hpW.lt)
           have u0 := bx3.cell 0
           have u1 := bx3.cell 1
           have u2 := bx3.cell 2
           have m0 := hp3.cell 0
           have pb3 := ((Blk.new wr 31 #[.slice none 0 0, .int .i64 0, .slice none 0 0]).drew).keep (hB3.block _ (by show wr.heap.size < (wr.alloc _).heap.size; simp))
           have f0 := pb3.cell 0
           have f1 := pb3.cell 1
           have f2 := pb3.cell 2
           have f3 := pb3.frozen 0
           have f4 := pb3.frozen 1
           have f5 := pb3.frozen 2
           simp at u0 u1 u2 m0 f0 f1 f2)))
      all_goals
        rename_i hHeld
        clear hHeld
        first
          | (obtain ⟨nb, wF, hpe, hwf, hq⟩ : ∃ nb wF, nb = wr.heap.size ∧ wF = (((w3.setCell ⟨wr.heap.size, 0, none⟩ (.slice A3 (doSt s 1 j0 0 0).1.cs.length c3)).setCell ⟨wr.heap.size, 1, none⟩ (.int .i64 (doSt s 1 j0 0 0).1.most)).setCell ⟨wr.heap.size, 2, none⟩ (.slice A3' (doSt s 1 j0 0 0).1.hist.length c3')) ∧ Rmid w (.agg #[.slice A0 s.cs.length c0, .int .i64 s.most, .slice A0' s.hist.length c0']) (doSt s 1 j0 0 0).1 [] (.slice Au [].length cu) (.slice Ax s.cs.length cx) (.int .i64 s.most) (.slice Ax' s.hist.length cx') (.slice A3 (doSt s 1 j0 0 0).1.cs.length c3) (.int .i64 (doSt s 1 j0 0 0).1.most) (.slice A3' (doSt s 1 j0 0 0).1.hist.length c3') nb p j0 j1 wF :=
               ⟨_, _, rfl, rfl, Rmid.ofSet hR hbx hr3 HB ho3' hpW (by omega) pb3⟩
             rw [← hwf, ← hpe])
          | (obtain ⟨nb, wF, hpe, hwf, hq⟩ : ∃ nb wF, nb = w3.heap.size ∧ wF = (w3.alloc (.cells #[.slice A3 (doSt s 1 j0 0 0).1.cs.length c3, .int .i64 (doSt s 1 j0 0 0).1.most, .slice A3' (doSt s 1 j0 0 0).1.hist.length c3'] 31)) ∧ Rmid w (.agg #[.slice A0 s.cs.length c0, .int .i64 s.most, .slice A0' s.hist.length c0']) (doSt s 1 j0 0 0).1 [] (.slice Au [].length cu) (.slice Ax s.cs.length cx) (.int .i64 s.most) (.slice Ax' s.hist.length cx') (.slice A3 (doSt s 1 j0 0 0).1.cs.length c3) (.int .i64 (doSt s 1 j0 0 0).1.most) (.slice A3' (doSt s 1 j0 0 0).1.hist.length c3') nb p j0 j1 wF :=
               ⟨_, _, rfl, rfl, Rmid.ofAlloc (v0 := .nilFunc) hR hbx hr3 HB ho3' hpW (by omega)⟩
             rw [← hwf, ← hpe])
        clear hpe hwf hr3 HB ho3' hpW hB3 ho3 bx3 hp3 u0 u1 u2 m0 hT hT1 hT2 BD BN n0 w0 w1' w2' nn1 nn2 hbx hrs hrsK hR p0 p1 b0 b1 b2 g0 g1 g2
        obtain ⟨R4, bx4, rs4, hp4⟩ := hq.put
        have z0 := hq.nw.cell 0
        have z1 := hq.nw.cell 1
        have z2 := hq.nw.cell 2
        have y0 := hq.bx.cell 0
        have y1 := hq.bx.cell 1
        have y2 := hq.bx.cell 2
        have x0 := hq.bx.frozen 0
        have x1 := hq.bx.frozen 1
        have x2 := hq.bx.frozen 2
        have hplt := hq.hpl
        have hS := R4.rb.lt
        have hun := R4.un
        simp at z0 z1 z2 y0 y1 y2
        obtain ⟨i0, hi0, hz0, hz1, hz2⟩ := info_parts info4
        have HR := Lib.hid R4
        have HB4 := Lib.hid bx4
        have HS4 := Lib.hid rs4
        have HP4 := Lib.hid hp4
        have HO := Lib.hid hq.ho
        have szq : (((wF.setCell ⟨w.heap.size, 0, none⟩ (.slice A3 (doSt s 1 j0 0 0).1.cs.length c3)).setCell ⟨w.heap.size, 1, none⟩ (.int .i64 (doSt s 1 j0 0 0).1.most)).setCell ⟨w.heap.size, 2, none⟩ (.slice A3' (doSt s 1 j0 0 0).1.hist.length c3')).heap.size = wF.heap.size := by simp [World.setCell]
        rw [szq] at hS
        clear R4 bx4 rs4 hp4 hq
        go_wp2_with (at_builtin
                     refine wpList_append_row _ rfl (.tmp 52) (.tmp 54) 56 rfl 4 4 i0 _ 1 1 Tryd.underlying56 hi0 hz0 hz1 hz2 rfl (.slice Au 0 cu) 0 _ rfl (HR.out.row.alloc (.cells #[.bool ((doSt s 1 j0 0 0).2.1.old != 0)] 4)) (.slice (some ⟨wF.heap.size, 0, none⟩) 1 1) 1 [.bool ((doSt s 1 j0 0 0).2.1.old != 0)] rfl
                       (Row.made_at (((wF.setCell ⟨w.heap.size, 0, none⟩ (.slice A3 (doSt s 1 j0 0 0).1.cs.length c3)).setCell ⟨w.heap.size, 1, none⟩ (.int .i64 (doSt s 1 j0 0 0).1.most)).setCell ⟨w.heap.size, 2, none⟩ (.slice A3' (doSt s 1 j0 0 0).1.hist.length c3')) wF.heap.size (by rw [szq]) 4 1 1 #[.bool ((doSt s 1 j0 0 0).2.1.old != 0)] [.bool ((doSt s 1 j0 0 0).2.1.old != 0)] rfl (by simp [maxLen]) rfl) (by simp [Value.oneCell']) (by simp only [maxLen]; omega) (by omega) ?_
                     intro v4 w4 hown4 hgrow hat
                     obtain ⟨A4, c4, rfl, hc4, hm4⟩ := Row.form hown4
                     have hbl := HR.out.bl
                     obtain ⟨R5, bx5, rs5⟩ := rtri_app (hbl.alloc hbl.size (.cells #[.bool ((doSt s 1 j0 0 0).2.1.old != 0)] 4)) (HB4.out.alloc _) (HR.out.rb.alloc _) (HS4.out.alloc _) HO.out (HR.out.row.alloc _) hun hown4 hgrow hat (by rw [World.size_alloc, szq]; omega)
                     have hp5 := (HP4.out.alloc (.cells #[.bool ((doSt s 1 j0 0 0).2.1.old != 0)] 4)).keep (hgrow.block _ (by rw [World.size_alloc, szq]; omega) (fun e => by have := hun _ e.symm; omega))
                     clear hat hgrow hown4)
        exact ⟨⟨hp5, .inr (.inl ⟨by simp, by simpa using R5⟩)⟩, by simp [intOf]⟩
    · have hrs := hrsK
      have hT := refHeld3 j1 wr hrs (by have := doSt_hist s 1 j0 0 0; omega)
      have hT1 := refHeld3 j1 wr.drew (hrs.keep (fun _ _ => rfl)) (by have := doSt_hist s 1 j0 0 0; omega)
      have hT2 := refHeld3 j1 (wr.alloc (.cells #[.slice none 0 0, .int .i64 0, .slice none 0 0] 31)).drew ((hrs.alloc (.cells #[.slice none 0 0, .int .i64 0, .slice none 0 0] 31)).keep (fun _ _ => rfl)) (by have := doSt_hist s 1 j0 0 0; omega)
      have BD : Below wr.heap.size wr wr.drew := (Below.refl _ _).drew
      have BN : Below wr.heap.size wr (wr.alloc (.cells #[.slice none 0 0, .int .i64 0, .slice none 0 0] 31)).drew := ((Below.refl _ _).alloc (Nat.le_refl _) _).drew
      have n0 := (hpW.keep (BN.block _ hpW.lt)).cell 1
      have w0 := (hbx.keep (BN.block _ hbx.lt)).cell 0
      have w1' := (hbx.keep (BN.block _ hbx.lt)).cell 1
      have w2' := (hbx.keep (BN.block _ hbx.lt)).cell 2
      have nn1 : wr.heap.size ≠ w.heap.size := by have := hbx.lt; omega
      have nn2 : wr.heap.size ≠ p := by have := hpW.lt; omega
      simp only [List.getElem?_toArray, List.getElem?_cons_zero, List.getElem?_cons_succ] at n0 w0 w1' w2'
      go_wp2_with fail
      go_region_held3 (fun w' => w'.cell? ⟨w.heap.size, 0, none⟩ = some (.slice Ax (doSt s 1 j0 0 0).1.cs.length cx) ∧ w'.cell? ⟨w.heap.size, 1, none⟩ = some (.int .i64 (doSt s 1 j0 0 0).1.most) ∧ w'.cell? ⟨w.heap.size, 2, none⟩ = some (.slice Ax' (doSt s 1 j0 0 0).1.hist.length cx') ∧ w'.cell? ⟨p, 1, none⟩ = some (.int .i64 j1))
        (first
          | with_reducible exact ⟨b0, b1, b2, p1⟩
          | with_reducible exact ⟨w0, w1', w2', n0⟩
          | with_reducible exact ⟨u0, u1, u2, m0⟩
          | ((refine ⟨?_, ?_, ?_, ?_⟩ <;> (repeat (rw [World.cell?_setCell_far _ _ _ _ (by with_reducible first | exact nn1 | exact nn2)]))) <;> with_reducible (first | exact u0 | exact u1 | exact u2 | exact m0))
          | go_keep)
        ((first
        | (go_at_call 24
           refine hT1.mono ?_
           rintro e w3 ⟨v3, rfl, hr3, hB3, ho3⟩
           obtain ⟨A3, c3, A3', c3', rfl⟩ := hr3.form
           have HB := BD.trans (hB3.mono BD.size)
           have ho3' : ∀ k, ownR (.agg #[.slice A3 (doSt (doSt s 1 j0 0 0).1 1 j1 0 0).1.cs.length c3, .int .i64 (doSt (doSt s 1 j0 0 0).1 1 j1 0 0).1.most, .slice A3' (doSt (doSt s 1 j0 0 0).1 1 j1 0 0).1.hist.length c3']) k → ownR (.agg #[.slice A0 s.cs.length c0, .int .i64 s.most, .slice A0' s.hist.length c0']) k ∨ w.heap.size ≤ k := fun k hk => (ho3 k hk).elim (hown k) (fun h => .inr (Nat.le_trans hR.bl.size (Nat.le_trans BD.size h)))
           have bx3 := hbx.keep (HB.block _ hbx.lt)
           have hp3 := hpW.keep (HB.block _ hpW.lt)
           have u0 := bx3.cell 0
           have u1 := bx3.cell 1
           have u2 := bx3.cell 2
           have m0 := hp3.cell 1
           simp at u0 u1 u2 m0)
        | (go_at_call 24
           refine hT2.mono ?_
           rintro e w3 ⟨v3, rfl, hr3, hB3, ho3⟩
           obtain ⟨A3, c3, A3', c3', rfl⟩ := hr3.form
           have HB := BN.trans (hB3.mono BN.size)
           have ho3' : ∀ k, ownR (.agg #[.slice A3 (doSt (doSt s 1 j0 0 0).1 1 j1 0 0).1.cs.length c3, .int .i64 (doSt (doSt s 1 j0 0 0).1 1 j1 0 0).1.most, .slice A3' (doSt (doSt s 1 j0 0 0).1 1 j1 0 0).1.hist.length c3']) k → ownR (.agg #[.slice A0 s.cs.length c0, .int .i64 s.most, .slice A0' s.hist.length c0']) k ∨ w.heap.size ≤ k := fun k hk => (ho3 k hk).elim (hown k) (fun h => .inr (Nat.le_trans hR.bl.size (Nat.le_trans BN.size h)))
           have bx3 := hbx.keep (HB.block _ hbx.lt)
           have hp3 := hpW.keep (HB.block _ hpW.lt)
           have u0 := bx3.cell 0
           have u1 := bx3.cell 1
           have u2 := bx3.cell 2
           have m0 := hp3.cell 1
           have pb3 := ((Blk.new wr 31 #[.slice none 0 0, .int .i64 0, .slice none 0 0]).drew).keep (hB3.block _ (by show wr.heap.size < (wr.alloc _).heap.size; simp))
           have f0 := pb3.cell 0
           have f1 := pb3.cell 1
           have f2 := pb3.cell 2
           have f3 := pb3.frozen 0
           have f4 := pb3.frozen 1
           have f5 := pb3.frozen 2
           simp at u0 u1 u2 m0 f0 f1 f2)))
      all_goals
        rename_i hHeld
        clear hHeld
        first
          | (obtain ⟨nb, wF, hpe, hwf, hq⟩ : ∃ nb wF, nb = wr.heap.size ∧ wF = (((w3.setCell ⟨wr.heap.size, 0, none⟩ (.slice A3 (doSt (doSt s 1 j0 0 0).1 1 j1 0 0).1.cs.length c3)).setCell ⟨wr.heap.size, 1, none⟩ (.int .i64 (doSt (doSt s 1 j0 0 0).1 1 j1 0 0).1.most)).setCell ⟨wr.heap.size, 2, none⟩ (.slice A3' (doSt (doSt s 1 j0 0 0).1 1 j1 0 0).1.hist.length c3')) ∧ Rmid w (.agg #[.slice A0 s.cs.length c0, .int .i64 s.most, .slice A0' s.hist.length c0']) (doSt (doSt s 1 j0 0 0).1 1 j1 0 0).1 [(doSt s 1 j0 0 0).2.1.old != 0] (.slice Au [(doSt s 1 j0 0 0).2.1.old != 0].length cu) (.slice Ax (doSt s 1 j0 0 0).1.cs.length cx) (.int .i64 (doSt s 1 j0 0 0).1.most) (.slice Ax' (doSt s 1 j0 0 0).1.hist.length cx') (.slice A3 (doSt (doSt s 1 j0 0 0).1 1 j1 0 0).1.cs.length c3) (.int .i64 (doSt (doSt s 1 j0 0 0).1 1 j1 0 0).1.most) (.slice A3' (doSt (doSt s 1 j0 0 0).1 1 j1 0 0).1.hist.length c3') nb p j0 j1 wF :=
               ⟨_, _, rfl, rfl, Rmid.ofSet hR hbx hr3 HB ho3' hpW (by omega) pb3⟩
             rw [← hwf, ← hpe])
          | (obtain ⟨nb, wF, hpe, hwf, hq⟩ : ∃ nb wF, nb = w3.heap.size ∧ wF = (w3.alloc (.cells #[.slice A3 (doSt (doSt s 1 j0 0 0).1 1 j1 0 0).1.cs.length c3, .int .i64 (doSt (doSt s 1 j0 0 0).1 1 j1 0 0).1.most, .slice A3' (doSt (doSt s 1 j0 0 0).1 1 j1 0 0).1.hist.length c3'] 31)) ∧ Rmid w (.agg #[.slice A0 s.cs.length c0, .int .i64 s.most, .slice A0' s.hist.length c0']) (doSt (doSt s 1 j0 0 0).1 1 j1 0 0).1 [(doSt s 1 j0 0 0).2.1.old != 0] (.slice Au [(doSt s 1 j0 0 0).2.1.old != 0].length cu) (.slice Ax (doSt s 1 j0 0 0).1.cs.length cx) (.int .i64 (doSt s 1 j0 0 0).1.most) (.slice Ax' (doSt s 1 j0 0 0).1.hist.length cx') (.slice A3 (doSt (doSt s 1 j0 0 0).1 1 j1 0 0).1.cs.length c3) (.int .i64 (doSt (doSt s 1 j0 0 0).1 1 j1 0 0).1.most) (.slice A3' (doSt (doSt s 1 j0 0 0).1 1 j1 0 0).1.hist.length c3') nb p j0 j1 wF :=
               ⟨_, _, rfl, rfl, Rmid.ofAlloc (v0 := .nilFunc) hR hbx hr3 HB ho3' hpW (by omega)⟩
             rw [← hwf, ← hpe])
        clear hpe hwf hr3 HB ho3' hpW hB3 ho3 bx3 hp3 u0 u1 u2 m0 hT hT1 hT2 BD BN n0 w0 w1' w2' nn1 nn2 hbx hrs hrsK hR p0 p1 b0 b1 b2 g0 g1 g2
        obtain ⟨R4, bx4, rs4, hp4⟩ := hq.put
        have z0 := hq.nw.cell 0
        have z1 := hq.nw.cell 1
        have z2 := hq.nw.cell 2
        have y0 := hq.bx.cell 0
        have y1 := hq.bx.cell 1
        have y2 := hq.bx.cell 2
        have x0 := hq.bx.frozen 0
        have x1 := hq.bx.frozen 1
        have x2 := hq.bx.frozen 2
        have hplt := hq.hpl
        have hS := R4.rb.lt
        have hun := R4.un
        simp at z0 z1 z2 y0 y1 y2
        obtain ⟨i0, hi0, hz0, hz1, hz2⟩ := info_parts info4
        have HR := Lib.hid R4
        have HB4 := Lib.hid bx4
        have HS4 := Lib.hid rs4
        have HP4 := Lib.hid hp4
        have HO := Lib.hid hq.ho
        have szq : (((wF.setCell ⟨w.heap.size, 0, none⟩ (.slice A3 (doSt (doSt s 1 j0 0 0).1 1 j1 0 0).1.cs.length c3)).setCell ⟨w.heap.size, 1, none⟩ (.int .i64 (doSt (doSt s 1 j0 0 0).1 1 j1 0 0).1.most)).setCell ⟨w.heap.size, 2, none⟩ (.slice A3' (doSt (doSt s 1 j0 0 0).1 1 j1 0 0).1.hist.length c3')).heap.size = wF.heap.size := by simp [World.setCell]
        rw [szq] at hS
        clear R4 bx4 rs4 hp4 hq
        go_wp2_with (at_builtin
                     refine wpList_append_row _ rfl (.tmp 52) (.tmp 54) 56 rfl 4 4 i0 _ 1 1 Tryd.underlying56 hi0 hz0 hz1 hz2 rfl (.slice Au 1 cu) 1 _ rfl (HR.out.row.alloc (.cells #[.bool ((doSt (doSt s 1 j0 0 0).1 1 j1 0 0).2.1.old != 0)] 4)) (.slice (some ⟨wF.heap.size, 0, none⟩) 1 1) 1 [.bool ((doSt (doSt s 1 j0 0 0).1 1 j1 0 0).2.1.old != 0)] rfl
                       (Row.made_at (((wF.setCell ⟨w.heap.size, 0, none⟩ (.slice A3 (doSt (doSt s 1 j0 0 0).1 1 j1 0 0).1.cs.length c3)).setCell ⟨w.heap.size, 1, none⟩ (.int .i64 (doSt (doSt s 1 j0 0 0).1 1 j1 0 0).1.most)).setCell ⟨w.heap.size, 2, none⟩ (.slice A3' (doSt (doSt s 1 j0 0 0).1 1 j1 0 0).1.hist.length c3')) wF.heap.size (by rw [szq]) 4 1 1 #[.bool ((doSt (doSt s 1 j0 0 0).1 1 j1 0 0).2.1.old != 0)] [.bool ((doSt (doSt s 1 j0 0 0).1 1 j1 0 0).2.1.old != 0)] rfl (by simp [maxLen]) rfl) (by simp [Value.oneCell']) (by simp only [maxLen]; omega) (by omega) ?_
                     intro v4 w4 hown4 hgrow hat
                     obtain ⟨A4, c4, rfl, hc4, hm4⟩ := Row.form hown4
                     have hbl := HR.out.bl
                     obtain ⟨R5, bx5, rs5⟩ := rtri_app (hbl.alloc hbl.size (.cells #[.bool ((doSt (doSt s 1 j0 0 0).1 1 j1 0 0).2.1.old != 0)] 4)) (HB4.out.alloc _) (HR.out.rb.alloc _) (HS4.out.alloc _) HO.out (HR.out.row.alloc _) hun hown4 hgrow hat (by rw [World.size_alloc, szq]; omega)
                     have hp5 := (HP4.out.alloc (.cells #[.bool ((doSt (doSt s 1 j0 0 0).1 1 j1 0 0).2.1.old != 0)] 4)).keep (hgrow.block _ (by rw [World.size_alloc, szq]; omega) (fun e => by have := hun _ e.symm; omega))
                     clear hat hgrow hown4)
        exact ⟨⟨hp5, .inr (.inr ⟨by simp, by simpa using R5⟩)⟩, by simp [intOf]⟩
    · have hrb := hR.rb
      have r0 := hrb.cell 0
      have r1 := hrb.cell 1
      have r2 := hrb.cell 2
      have f0 := hrb.frozen 0
      have f1 := hrb.frozen 1
      have f2 := hrb.frozen 2
      simp at r0 r1 r2
      obtain ⟨hfin, hb⟩ := tri_out hR.bl hrb hrsK hown hR.row hR.un
      have q0 := hb.cell 0
      have q1 := hb.cell 1
      have q2 := hb.cell 2
      simp at q0 q1 q2
      have hst : statesSt s j0 j1 = ((doSt (doSt s 1 j0 0 0).1 1 j1 0 0).1, [(doSt s 1 j0 0 0).2.1.old != 0, (doSt (doSt s 1 j0 0 0).1 1 j1 0 0).2.1.old != 0], 0) := by unfold statesSt; rw [if_pos ⟨h0, h1⟩]
      have HF : StatesOut w (.agg #[.slice A0 s.cs.length c0, .int .i64 s.most, .slice A0' s.hist.length c0']) ((doSt (doSt s 1 j0 0 0).1 1 j1 0 0).1, [(doSt s 1 j0 0 0).2.1.old != 0, (doSt (doSt s 1 j0 0 0).1 1 j1 0 0).2.1.old != 0], 0) (.returned (.tuple #[.agg #[.slice Ax (doSt (doSt s 1 j0 0 0).1 1 j1 0 0).1.cs.length cx, .int .i64 (doSt (doSt s 1 j0 0 0).1 1 j1 0 0).1.most, .slice Ax' (doSt (doSt s 1 j0 0 0).1 1 j1 0 0).1.hist.length cx'], .slice Au 2 cu, .int .i64 0])) (((wr.setCell ⟨w.heap.size + 1, 0, none⟩ (.slice Ax (doSt (doSt s 1 j0 0 0).1 1 j1 0 0).1.cs.length cx)).setCell ⟨w.heap.size + 1, 1, none⟩ (.int .i64 (doSt (doSt s 1 j0 0 0).1 1 j1 0 0).1.most)).setCell ⟨w.heap.size + 1, 2, none⟩ (.slice Ax' (doSt (doSt s 1 j0 0 0).1 1 j1 0 0).1.hist.length cx')) := by
        obtain ⟨v', u', e1, e2⟩ := hfin
        injection e1 with e1
        injection e1 with e1
        simp at e1
        obtain ⟨rfl, rfl⟩ := e1
        exact ⟨_, _, rfl, e2⟩
      rw [← hst] at HF
      clear hst
      go_wp2_with fail
      exact bodyPost_ret (v := .tuple #[.agg #[.slice Ax (doSt (doSt s 1 j0 0 0).1 1 j1 0 0).1.cs.length cx, .int .i64 (doSt (doSt s 1 j0 0 0).1 1 j1 0 0).1.most, .slice Ax' (doSt (doSt s 1 j0 0 0).1 1 j1 0 0).1.hist.length cx'], .slice Au 2 cu, .int .i64 0]) (by simp [results, Tryd.results27, go_sem, q0, q1, q2]) rfl HF
set_option maxRecDepth 100000 in
set_option maxHeartbeats 3200000 in
theorem states3_out {s : St} {v : Value} (j0 j1 : Int) (p : Nat) (w : World) (h : RefS w v s) (hh : s.hist.length < 1000000) (hp : Blk w p 3 #[.int .i64 j0, .int .i64 j1]) (hn : ¬ (inSt s j0 = true ∧ inSt s j1 = true)) :
    Calls Tryd.prog 27 #[v, .slice (some ⟨p, 0, none⟩) 2 2] w (StatesOut w v (statesSt s j0 j1)) := by
  have hlt := h.lt
  obtain ⟨A0, c0, A0', c0', rfl⟩ := h.form
  have BA : Below w.heap.size w ((w.alloc (.cells #[.slice A0 s.cs.length c0, .int .i64 s.most, .slice A0' s.hist.length c0'] 31)).alloc (.cells #[.slice none 0 0, .int .i64 0, .slice none 0 0] 31)) := ((Below.refl _ _).alloc (Nat.le_refl _) _).alloc (by simp) _
  have rsA := Blk.new (w.alloc (.cells #[.slice A0 s.cs.length c0, .int .i64 s.most, .slice A0' s.hist.length c0'] 31)) 31 #[.slice none 0 0, .int .i64 0, .slice none 0 0]
  rw [World.size_alloc] at rsA
  have bxA : Blk ((w.alloc (.cells #[.slice A0 s.cs.length c0, .int .i64 s.most, .slice A0' s.hist.length c0'] 31)).alloc (.cells #[.slice none 0 0, .int .i64 0, .slice none 0 0] 31)) w.heap.size 31 #[.slice A0 s.cs.length c0, .int .i64 s.most, .slice A0' s.hist.length c0'] := (Blk.new w _ _).alloc _
  have hpA := hp.keep (BA.block _ hp.lt)
  have hrA := h.below BA
  have hpl := hp.lt
  go_enter Tryd.func27, Tryd.ntmps27
  go_wp2_with fail
  revert BA rsA bxA hpA hrA
  generalize ((w.alloc (.cells #[.slice A0 s.cs.length c0, .int .i64 s.most, .slice A0' s.hist.length c0'] 31)).alloc (.cells #[.slice none 0 0, .int .i64 0, .slice none 0 0] 31)) = wA
  intro BA rsA bxA hpA hrA
  have p0 := hpA.cell 0
  have p1 := hpA.cell 1
  have b0 := bxA.cell 0
  have b1 := bxA.cell 1
  have b2 := bxA.cell 2
  have r0 := rsA.cell 0
  have r1 := rsA.cell 1
  have r2 := rsA.cell 2
  have f0 := rsA.frozen 0
  have f1 := rsA.frozen 1
  have f2 := rsA.frozen 2
  simp at p0 p1 b0 b1 b2 r0 r1 r2
  have hst : statesSt s j0 j1 = (s, [], 4) := by unfold statesSt; rw [if_neg hn]
  have HO : ∀ n, StatesOut w (.agg #[.slice A0 s.cs.length c0, .int .i64 s.most, .slice A0' s.hist.length c0']) (statesSt s j0 j1) (.returned (.tuple #[.agg #[.slice A0 s.cs.length c0, .int .i64 s.most, .slice A0' s.hist.length c0'], .slice none 0 0, .int .i64 4])) ((((wA.drewN n).setCell ⟨w.heap.size + 1, 0, none⟩ (.slice A0 s.cs.length c0)).setCell ⟨w.heap.size + 1, 1, none⟩ (.int .i64 s.most)).setCell ⟨w.heap.size + 1, 2, none⟩ (.slice A0' s.hist.length c0')) ∧
      Blk ((((wA.drewN n).setCell ⟨w.heap.size + 1, 0, none⟩ (.slice A0 s.cs.length c0)).setCell ⟨w.heap.size + 1, 1, none⟩ (.int .i64 s.most)).setCell ⟨w.heap.size + 1, 2, none⟩ (.slice A0' s.hist.length c0')) (w.heap.size + 1) 31 #[.slice A0 s.cs.length c0, .int .i64 s.most, .slice A0' s.hist.length c0'] := fun n => by
    obtain ⟨hfin, hb⟩ := tri_out (v := .agg #[.slice A0 s.cs.length c0, .int .i64 s.most, .slice A0' s.hist.length c0']) (u := .slice none 0 0) (l := []) (below_drewN BA n) (rsA.drewN n) (hrA.keep (w' := wA.drewN n) (fun _ _ => rfl)) (fun _ hk => .inl hk) (Bools.nil _) (by simp [Value.ownBlock])
    obtain ⟨v', u', e1, e2⟩ := hfin
    injection e1 with e1
    injection e1 with e1
    simp at e1
    obtain ⟨rfl, rfl⟩ := e1
    rw [hst]
    exact ⟨⟨_, _, rfl, e2⟩, hb⟩
  clear hst
  have HOH := Lib.hid HO
  clear HO hrA hpA bxA rsA BA
  refine wp_loop_rounds 2 ?_
  rw [rounds_succ]
  by_cases h0 : inSt s j0 = true
  · have h1 : ¬ inSt s j1 = true := fun e => hn ⟨h0, e⟩
    have q0 : (0 : Int) ≤ j0 ∧ j0 < (s.cs.length : Int) := by simpa [inSt] using h0
    have q1 : j1 < 0 ∨ (s.cs.length : Int) ≤ j1 := by
      have : ¬ ((0 : Int) ≤ j1 ∧ j1 < (s.cs.length : Int)) := by simpa [inSt] using h1
      omega
    have t0 : ¬ j0 < 0 := by omega
    have t1 : decide (j0 < 0) = false := by simp; omega
    have t2 : ¬ (s.cs.length : Int) ≤ j0 := by omega
    have t3 : decide ((s.cs.length : Int) ≤ j0) = false := by simp; omega
    clear h0 h1 hn
    rcases q1 with t4 | t6
    · have t5 : decide (j1 < 0) = true := by simp; omega
      go_wp2_with fail
      go_quiet (fail)
      obtain ⟨nA, hnA⟩ : ∃ n, nq = n := ⟨_, rfl⟩
      rw [hnA]
      clear hnA
      go_wp2_with fail
      rw [rounds_succ]
      go_wp2_with fail
      go_quiet (fail)
      go_wp2_with fail
      have hf := (HOH.out (nA + nq)).1
      have hb := (HOH.out (nA + nq)).2
      have q0 := hb.cell 0
      have q1 := hb.cell 1
      have q2 := hb.cell 2
      simp at q0 q1 q2
      exact bodyPost_ret (v := .tuple #[.agg #[.slice A0 s.cs.length c0, .int .i64 s.most, .slice A0' s.hist.length c0'], .slice none 0 0, .int .i64 4]) (by simp [results, Tryd.results27, go_sem, q0, q1, q2]) rfl hf
    · have t4 : ¬ j1 < 0 := by omega
      have t5 : decide (j1 < 0) = false := by simp; omega
      have t7 : decide ((s.cs.length : Int) ≤ j1) = true := by simp; omega
      go_wp2_with fail
      go_quiet (fail)
      obtain ⟨nA, hnA⟩ : ∃ n, nq = n := ⟨_, rfl⟩
      rw [hnA]
      clear hnA
      go_wp2_with fail
      rw [rounds_succ]
      go_wp2_with fail
      go_quiet (fail)
      go_wp2_with fail
      have hf := (HOH.out (nA + nq)).1
      have hb := (HOH.out (nA + nq)).2
      have q0 := hb.cell 0
      have q1 := hb.cell 1
      have q2 := hb.cell 2
      simp at q0 q1 q2
      exact bodyPost_ret (v := .tuple #[.agg #[.slice A0 s.cs.length c0, .int .i64 s.most, .slice A0' s.hist.length c0'], .slice none 0 0, .int .i64 4]) (by simp [results, Tryd.results27, go_sem, q0, q1, q2]) rfl hf
  · have q1 : j0 < 0 ∨ (s.cs.length : Int) ≤ j0 := by
      have : ¬ ((0 : Int) ≤ j0 ∧ j0 < (s.cs.length : Int)) := by simpa [inSt] using h0
      omega
    clear h0 hn
    rcases q1 with t4 | t6
    · have t5 : decide (j0 < 0) = true := by simp; omega
      go_wp2_with fail
      go_quiet (fail)
      go_wp2_with fail
      have hf := (HOH.out nq).1
      have hb := (HOH.out nq).2
      have q0 := hb.cell 0
      have q1 := hb.cell 1
      have q2 := hb.cell 2
      simp at q0 q1 q2
      exact bodyPost_ret (v := .tuple #[.agg #[.slice A0 s.cs.length c0, .int .i64 s.most, .slice A0' s.hist.length c0'], .slice none 0 0, .int .i64 4]) (by simp [results, Tryd.results27, go_sem, q0, q1, q2]) rfl hf
    · have t4 : ¬ j0 < 0 := by omega
      have t5 : decide (j0 < 0) = false := by simp; omega
      have t7 : decide ((s.cs.length : Int) ≤ j0) = true := by simp; omega
      go_wp2_with fail
      go_quiet (fail)
      go_wp2_with fail
      have hf := (HOH.out nq).1
      have hb := (HOH.out nq).2
      have q0 := hb.cell 0
      have q1 := hb.cell 1
      have q2 := hb.cell 2
      simp at q0 q1 q2
      exact bodyPost_ret (v := .tuple #[.agg #[.slice A0 s.cs.length c0, .int .i64 s.most, .slice A0' s.hist.length c0'], .slice none 0 0, .int .i64 4]) (by simp [results, Tryd.results27, go_sem, q0, q1, q2]) rfl hf
theorem refStates3 {s : St} {v : Value} (j0 j1 : Int) (p : Nat) (w : World) (h : RefS w v s) (hh : s.hist.length < 1000000) (hp : Blk w p 3 #[.int .i64 j0, .int .i64 j1]) :
    Calls Tryd.prog 27 #[v, .slice (some ⟨p, 0, none⟩) 2 2] w (StatesOut w v (statesSt s j0 j1)) := by
  by_cases hc : inSt s j0 = true ∧ inSt s j1 = true
  · exact states3_in j0 j1 p w h hh hp hc.1 hc.2
  · exact states3_out j0 j1 p w h hh hp hc
end Go.Proofs.YthiaaapcbiameaaDoor
