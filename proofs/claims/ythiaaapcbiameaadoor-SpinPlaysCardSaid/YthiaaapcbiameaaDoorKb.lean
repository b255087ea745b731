/- SpinPlays: the calls but Tries and States. -/
import Derived.Test.YthiaaapcbiameaaDoorSx
namespace Go.Proofs.YthiaaapcbiameaaDoor
open Go.RowKit Go.Shelf
attribute [local go_sem] Oper.semAt_some
set_option maxRecDepth 100000 in
set_option maxHeartbeats 3200000 in
theorem act3_0 {w : World} {b : Nat} {s : St} {v : Value} (x : ActD) (h : Sd b s s v w) (hx : x.what = 0) :
    Calls Tryd.prog 10 #[.pointer (some ⟨b, 0, none⟩), v, x.val] w (ActPost b ((allocSt s 1).1) w) := by
  obtain ⟨xw, xa, xn⟩ := x
  simp only at hx ⊢
  subst hx
  obtain ⟨A0, c0, A0', c0', rfl⟩ := h.ref.form
  have M0 := Mid.start (x := ⟨0, xa, xn⟩) (v0 := .nilFunc) h #[.slice A0 s.cs.length c0, .int .i64 s.most, .slice A0' s.hist.length c0']
  unfold ActD.val
  simp only
  have hr := refNew3 _ M0.sd.ref
  go_enter Tryd.func10, Tryd.ntmps10
  go_wp2_with (first
    | (go_at_call 21
       refine hr.mono ?_
       rintro e w1 ⟨v1, rfl, hr1, hB1, ho1⟩
       obtain ⟨A1, c1, A1', c1', rfl⟩ := hr1.form
       have M1 := (M0.ref hr1 hB1 ho1).below ((Below.refl _ _).alloc (Nat.le_refl _) (.cells #[.slice A1 ((allocSt s 1).1).cs.length c1, .int .i64 ((allocSt s 1).1).most, .slice A1' ((allocSt s 1).1).hist.length c1'] 31))
       have ob1 := Blk.new w1 31 #[.slice A1 ((allocSt s 1).1).cs.length c1, .int .i64 ((allocSt s 1).1).most, .slice A1' ((allocSt s 1).1).hist.length c1']
       have hs1 := M0.sz
       have hs2 := hB1.size
       have q0 := M1.bx.cell 0
       have q1 := M1.bx.cell 1
       have q2 := M1.bx.cell 2
       simp at q0 q1 q2)
    | (go_at_call 13
       refine (spinNew_ok (M1).sd.lk).mono ?_
       rintro e w2 ⟨rfl, hst⟩
       have M2 := (M1).step hst
       have ob2 := ob1.keep (hst.out (by exact ob1.lt) (fun hf => foot_new (M0.ref hr1 hB1 ho1).sd.lk.are _ hf)).1
       have y0 := ob2.cell 0
       have y1 := ob2.cell 1
       have y2 := ob2.cell 2
       have z0 := M2.rs.cell 0
       have z1 := M2.rs.cell 1
       have z2 := M2.rs.cell 2
       have f0 := M2.rs.frozen 0
       have f1 := M2.rs.frozen 1
       have f2 := M2.rs.frozen 2
       have z3 := M2.rb.cell 0
       have f3 := M2.rb.frozen 0
       have k0 := M2.bx.cell 0
       have k1 := M2.bx.cell 1
       have k2 := M2.bx.cell 2
       simp at y0 y1 y2 z0 z1 z2 z3 k0 k1 k2))
  have nn0 : w.heap.size + 1 + 1 ≠ w1.heap.size := by simp at hs2; omega
  have nn1 : w.heap.size + 1 + 1 + 1 ≠ w1.heap.size := by simp at hs2; omega
  have nn2 : w.heap.size + 1 + 1 ≠ w.heap.size + 1 := by omega
  have nn3 : w.heap.size + 1 + 1 + 1 ≠ w.heap.size + 1 := by omega
  have M5 := ((M2.set3 rfl (.slice A1 ((allocSt s 1).1).cs.length c1) (.int .i64 ((allocSt s 1).1).most) (.slice A1' ((allocSt s 1).1).hist.length c1')).setb rfl (.bool true)).below ((Below.refl _ _).drew)
  have v0 := M5.rs.cell 0
  have v1 := M5.rs.cell 1
  have v2 := M5.rs.cell 2
  have v3 := M5.rb.cell 0
  simp at v0 v1 v2 v3
  have hfin := M5.post
  clear M5 M2 M1 M0 ob1 ob2 hst ho1 hr1 hB1 hr
  go_region_held3 (fun w' => w'.cell? ⟨w1.heap.size, 0, none⟩ = some (.slice A1 ((allocSt s 1).1).cs.length c1) ∧ w'.cell? ⟨w1.heap.size, 1, none⟩ = some (.int .i64 ((allocSt s 1).1).most) ∧ w'.cell? ⟨w1.heap.size, 2, none⟩ = some (.slice A1' ((allocSt s 1).1).hist.length c1'))
    (first
      | with_reducible exact ⟨y0, y1, y2⟩
      | ((refine ⟨?_, ?_, ?_⟩ <;> (repeat (rw [World.cell?_setCell_far _ _ _ _ (by with_reducible first | exact nn0 | exact nn1 | exact nn2 | exact nn3)]))) <;> with_reducible (first | assumption | exact y0 | exact y1 | exact y2 | exact k1 | exact k2))
      | go_keep)
    ((go_at_call 12; refine (num_any _ _).mono ?_; rintro e w' ⟨rfl, rfl⟩))
  rename_i hHeld
  clear hHeld
  go_wp2
  exact bodyPost_ret (v := .tuple #[(.agg #[.slice A1 ((allocSt s 1).1).cs.length c1, .int .i64 ((allocSt s 1).1).most, .slice A1' ((allocSt s 1).1).hist.length c1']), .bool true]) (by simp [results, Tryd.results10, go_sem, v0, v1, v2, v3]) rfl hfin

set_option maxRecDepth 100000 in
set_option maxHeartbeats 3200000 in
theorem act3_1 {w : World} {b : Nat} {s : St} {v : Value} (x : ActD) (h : Sd b s s v w) (hx : x.what = 1) (hh : s.hist.length < 1000000000) :
    Calls Tryd.prog 10 #[.pointer (some ⟨b, 0, none⟩), v, x.val] w (ActPost b ((doSt s 3 x.at_ 0 1).1) w) := by
  obtain ⟨xw, xa, xn⟩ := x
  simp only at hx ⊢
  subst hx
  obtain ⟨A0, c0, A0', c0', rfl⟩ := h.ref.form
  have M0 := Mid.start (x := ⟨1, xa, xn⟩) (v0 := .nilFunc) h #[.slice A0 s.cs.length c0, .int .i64 s.most, .slice A0' s.hist.length c0']
  unfold ActD.val
  simp only
  have hr := refTry3 xa _ M0.sd.ref hh
  go_enter Tryd.func10, Tryd.ntmps10
  go_wp2_with (first
    | (go_at_call 22
       refine hr.mono ?_
       rintro e w1 ⟨v1, rfl, hr1, hB1, ho1⟩
       obtain ⟨A1, c1, A1', c1', rfl⟩ := hr1.form
       have M1 := (M0.ref hr1 hB1 ho1).below ((Below.refl _ _).alloc (Nat.le_refl _) (.cells #[.slice A1 ((doSt s 3 xa 0 1).1).cs.length c1, .int .i64 ((doSt s 3 xa 0 1).1).most, .slice A1' ((doSt s 3 xa 0 1).1).hist.length c1'] 31))
       have ob1 := Blk.new w1 31 #[.slice A1 ((doSt s 3 xa 0 1).1).cs.length c1, .int .i64 ((doSt s 3 xa 0 1).1).most, .slice A1' ((doSt s 3 xa 0 1).1).hist.length c1']
       have hs1 := M0.sz
       have hs2 := hB1.size
       have q0 := M1.bx.cell 0
       have q1 := M1.bx.cell 1
       have q2 := M1.bx.cell 2
       simp at q0 q1 q2)
    | (go_at_call 14
       refine (spinTry_ok xa (M1).sd.lk hh).mono ?_
       rintro e w2 ⟨rfl, hst⟩
       have M2 := (M1).step hst
       have ob2 := ob1.keep (hst.out (by exact ob1.lt) (fun hf => foot_new (M0.ref hr1 hB1 ho1).sd.lk.are _ hf)).1
       have y0 := ob2.cell 0
       have y1 := ob2.cell 1
       have y2 := ob2.cell 2
       have z0 := M2.rs.cell 0
       have z1 := M2.rs.cell 1
       have z2 := M2.rs.cell 2
       have f0 := M2.rs.frozen 0
       have f1 := M2.rs.frozen 1
       have f2 := M2.rs.frozen 2
       have z3 := M2.rb.cell 0
       have f3 := M2.rb.frozen 0
       have k0 := M2.bx.cell 0
       have k1 := M2.bx.cell 1
       have k2 := M2.bx.cell 2
       simp at y0 y1 y2 z0 z1 z2 z3 k0 k1 k2))
  have nn0 : w.heap.size + 1 + 1 ≠ w1.heap.size := by simp at hs2; omega
  have nn1 : w.heap.size + 1 + 1 + 1 ≠ w1.heap.size := by simp at hs2; omega
  have nn2 : w.heap.size + 1 + 1 ≠ w.heap.size + 1 := by omega
  have nn3 : w.heap.size + 1 + 1 + 1 ≠ w.heap.size + 1 := by omega
  have M5 := ((M2.set3 rfl (.slice A1 ((doSt s 3 xa 0 1).1).cs.length c1) (.int .i64 ((doSt s 3 xa 0 1).1).most) (.slice A1' ((doSt s 3 xa 0 1).1).hist.length c1')).setb rfl (.bool true)).below ((Below.refl _ _).drew)
  have v0 := M5.rs.cell 0
  have v1 := M5.rs.cell 1
  have v2 := M5.rs.cell 2
  have v3 := M5.rb.cell 0
  simp at v0 v1 v2 v3
  have hfin := M5.post
  clear M5 M2 M1 M0 ob1 ob2 hst ho1 hr1 hB1 hr
  go_region_held3 (fun w' => w'.cell? ⟨w1.heap.size, 0, none⟩ = some (.slice A1 ((doSt s 3 xa 0 1).1).cs.length c1) ∧ w'.cell? ⟨w1.heap.size, 1, none⟩ = some (.int .i64 ((doSt s 3 xa 0 1).1).most) ∧ w'.cell? ⟨w1.heap.size, 2, none⟩ = some (.slice A1' ((doSt s 3 xa 0 1).1).hist.length c1'))
    (first
      | with_reducible exact ⟨y0, y1, y2⟩
      | ((refine ⟨?_, ?_, ?_⟩ <;> (repeat (rw [World.cell?_setCell_far _ _ _ _ (by with_reducible first | exact nn0 | exact nn1 | exact nn2 | exact nn3)]))) <;> with_reducible (first | assumption | exact y0 | exact y1 | exact y2 | exact k1 | exact k2))
      | go_keep)
    ((go_at_call 12; refine (num_any _ _).mono ?_; rintro e w' ⟨rfl, rfl⟩))
  rename_i hHeld
  clear hHeld
  go_wp2
  exact bodyPost_ret (v := .tuple #[(.agg #[.slice A1 ((doSt s 3 xa 0 1).1).cs.length c1, .int .i64 ((doSt s 3 xa 0 1).1).most, .slice A1' ((doSt s 3 xa 0 1).1).hist.length c1']), .bool true]) (by simp [results, Tryd.results10, go_sem, v0, v1, v2, v3]) rfl hfin

set_option maxRecDepth 100000 in
set_option maxHeartbeats 3200000 in
theorem act3_2 {w : World} {b : Nat} {s : St} {v : Value} (x : ActD) (h : Sd b s s v w) (hx : x.what = 2) (hh : s.hist.length < 1000000000) :
    Calls Tryd.prog 10 #[.pointer (some ⟨b, 0, none⟩), v, x.val] w (ActPost b ((doSt s 3 x.at_ 0 1).1) w) := by
  obtain ⟨xw, xa, xn⟩ := x
  simp only at hx ⊢
  subst hx
  obtain ⟨A0, c0, A0', c0', rfl⟩ := h.ref.form
  have M0 := Mid.start (x := ⟨2, xa, xn⟩) (v0 := .nilFunc) h #[.slice A0 s.cs.length c0, .int .i64 s.most, .slice A0' s.hist.length c0']
  unfold ActD.val
  simp only
  have hr := refTry3 xa _ M0.sd.ref hh
  go_enter Tryd.func10, Tryd.ntmps10
  go_wp2_with (first
    | (go_at_call 22
       refine hr.mono ?_
       rintro e w1 ⟨v1, rfl, hr1, hB1, ho1⟩
       obtain ⟨A1, c1, A1', c1', rfl⟩ := hr1.form
       have M1 := (M0.ref hr1 hB1 ho1).below ((Below.refl _ _).alloc (Nat.le_refl _) (.cells #[.slice A1 ((doSt s 3 xa 0 1).1).cs.length c1, .int .i64 ((doSt s 3 xa 0 1).1).most, .slice A1' ((doSt s 3 xa 0 1).1).hist.length c1'] 31))
       have ob1 := Blk.new w1 31 #[.slice A1 ((doSt s 3 xa 0 1).1).cs.length c1, .int .i64 ((doSt s 3 xa 0 1).1).most, .slice A1' ((doSt s 3 xa 0 1).1).hist.length c1']
       have hs1 := M0.sz
       have hs2 := hB1.size
       have q0 := M1.bx.cell 0
       have q1 := M1.bx.cell 1
       have q2 := M1.bx.cell 2
       simp at q0 q1 q2)
    | (go_at_call 14
       refine (spinTry_ok xa (M1).sd.lk hh).mono ?_
       rintro e w2 ⟨rfl, hst⟩
       have M2 := (M1).step hst
       have ob2 := ob1.keep (hst.out (by exact ob1.lt) (fun hf => foot_new (M0.ref hr1 hB1 ho1).sd.lk.are _ hf)).1
       have y0 := ob2.cell 0
       have y1 := ob2.cell 1
       have y2 := ob2.cell 2
       have z0 := M2.rs.cell 0
       have z1 := M2.rs.cell 1
       have z2 := M2.rs.cell 2
       have f0 := M2.rs.frozen 0
       have f1 := M2.rs.frozen 1
       have f2 := M2.rs.frozen 2
       have z3 := M2.rb.cell 0
       have f3 := M2.rb.frozen 0
       have k0 := M2.bx.cell 0
       have k1 := M2.bx.cell 1
       have k2 := M2.bx.cell 2
       simp at y0 y1 y2 z0 z1 z2 z3 k0 k1 k2))
  have nn0 : w.heap.size + 1 + 1 ≠ w1.heap.size := by simp at hs2; omega
  have nn1 : w.heap.size + 1 + 1 + 1 ≠ w1.heap.size := by simp at hs2; omega
  have nn2 : w.heap.size + 1 + 1 ≠ w.heap.size + 1 := by omega
  have nn3 : w.heap.size + 1 + 1 + 1 ≠ w.heap.size + 1 := by omega
  have M5 := ((M2.set3 rfl (.slice A1 ((doSt s 3 xa 0 1).1).cs.length c1) (.int .i64 ((doSt s 3 xa 0 1).1).most) (.slice A1' ((doSt s 3 xa 0 1).1).hist.length c1')).setb rfl (.bool true)).below ((Below.refl _ _).drew)
  have v0 := M5.rs.cell 0
  have v1 := M5.rs.cell 1
  have v2 := M5.rs.cell 2
  have v3 := M5.rb.cell 0
  simp at v0 v1 v2 v3
  have hfin := M5.post
  clear M5 M2 M1 M0 ob1 ob2 hst ho1 hr1 hB1 hr
  go_region_held3 (fun w' => w'.cell? ⟨w1.heap.size, 0, none⟩ = some (.slice A1 ((doSt s 3 xa 0 1).1).cs.length c1) ∧ w'.cell? ⟨w1.heap.size, 1, none⟩ = some (.int .i64 ((doSt s 3 xa 0 1).1).most) ∧ w'.cell? ⟨w1.heap.size, 2, none⟩ = some (.slice A1' ((doSt s 3 xa 0 1).1).hist.length c1'))
    (first
      | with_reducible exact ⟨y0, y1, y2⟩
      | ((refine ⟨?_, ?_, ?_⟩ <;> (repeat (rw [World.cell?_setCell_far _ _ _ _ (by with_reducible first | exact nn0 | exact nn1 | exact nn2 | exact nn3)]))) <;> with_reducible (first | assumption | exact y0 | exact y1 | exact y2 | exact k1 | exact k2))
      | go_keep)
    ((go_at_call 12; refine (num_any _ _).mono ?_; rintro e w' ⟨rfl, rfl⟩))
  rename_i hHeld
  clear hHeld
  go_wp2
  exact bodyPost_ret (v := .tuple #[(.agg #[.slice A1 ((doSt s 3 xa 0 1).1).cs.length c1, .int .i64 ((doSt s 3 xa 0 1).1).most, .slice A1' ((doSt s 3 xa 0 1).1).hist.length c1']), .bool true]) (by simp [results, Tryd.results10, go_sem, v0, v1, v2, v3]) rfl hfin

set_option maxRecDepth 100000 in
set_option maxHeartbeats 3200000 in
theorem act3_3 {w : World} {b : Nat} {s : St} {v : Value} (x : ActD) (h : Sd b s s v w) (hx : x.what = 3) (hh : s.hist.length < 1000000000) :
    Calls Tryd.prog 10 #[.pointer (some ⟨b, 0, none⟩), v, x.val] w (ActPost b ((doSt s 3 x.at_ 0 1).1) w) := by
  obtain ⟨xw, xa, xn⟩ := x
  simp only at hx ⊢
  subst hx
  obtain ⟨A0, c0, A0', c0', rfl⟩ := h.ref.form
  have M0 := Mid.start (x := ⟨3, xa, xn⟩) (v0 := .nilFunc) h #[.slice A0 s.cs.length c0, .int .i64 s.most, .slice A0' s.hist.length c0']
  unfold ActD.val
  simp only
  have hr := refTry3 xa _ M0.sd.ref hh
  go_enter Tryd.func10, Tryd.ntmps10
  go_wp2_with (first
    | (go_at_call 22
       refine hr.mono ?_
       rintro e w1 ⟨v1, rfl, hr1, hB1, ho1⟩
       obtain ⟨A1, c1, A1', c1', rfl⟩ := hr1.form
       have M1 := (M0.ref hr1 hB1 ho1).below ((Below.refl _ _).alloc (Nat.le_refl _) (.cells #[.slice A1 ((doSt s 3 xa 0 1).1).cs.length c1, .int .i64 ((doSt s 3 xa 0 1).1).most, .slice A1' ((doSt s 3 xa 0 1).1).hist.length c1'] 31))
       have ob1 := Blk.new w1 31 #[.slice A1 ((doSt s 3 xa 0 1).1).cs.length c1, .int .i64 ((doSt s 3 xa 0 1).1).most, .slice A1' ((doSt s 3 xa 0 1).1).hist.length c1']
       have hs1 := M0.sz
       have hs2 := hB1.size
       have q0 := M1.bx.cell 0
       have q1 := M1.bx.cell 1
       have q2 := M1.bx.cell 2
       simp at q0 q1 q2)
    | (go_at_call 14
       refine (spinTry_ok xa (M1).sd.lk hh).mono ?_
       rintro e w2 ⟨rfl, hst⟩
       have M2 := (M1).step hst
       have ob2 := ob1.keep (hst.out (by exact ob1.lt) (fun hf => foot_new (M0.ref hr1 hB1 ho1).sd.lk.are _ hf)).1
       have y0 := ob2.cell 0
       have y1 := ob2.cell 1
       have y2 := ob2.cell 2
       have z0 := M2.rs.cell 0
       have z1 := M2.rs.cell 1
       have z2 := M2.rs.cell 2
       have f0 := M2.rs.frozen 0
       have f1 := M2.rs.frozen 1
       have f2 := M2.rs.frozen 2
       have z3 := M2.rb.cell 0
       have f3 := M2.rb.frozen 0
       have k0 := M2.bx.cell 0
       have k1 := M2.bx.cell 1
       have k2 := M2.bx.cell 2
       simp at y0 y1 y2 z0 z1 z2 z3 k0 k1 k2))
  have nn0 : w.heap.size + 1 + 1 ≠ w1.heap.size := by simp at hs2; omega
  have nn1 : w.heap.size + 1 + 1 + 1 ≠ w1.heap.size := by simp at hs2; omega
  have nn2 : w.heap.size + 1 + 1 ≠ w.heap.size + 1 := by omega
  have nn3 : w.heap.size + 1 + 1 + 1 ≠ w.heap.size + 1 := by omega
  have M5 := ((M2.set3 rfl (.slice A1 ((doSt s 3 xa 0 1).1).cs.length c1) (.int .i64 ((doSt s 3 xa 0 1).1).most) (.slice A1' ((doSt s 3 xa 0 1).1).hist.length c1')).setb rfl (.bool true)).below ((Below.refl _ _).drew)
  have v0 := M5.rs.cell 0
  have v1 := M5.rs.cell 1
  have v2 := M5.rs.cell 2
  have v3 := M5.rb.cell 0
  simp at v0 v1 v2 v3
  have hfin := M5.post
  clear M5 M2 M1 M0 ob1 ob2 hst ho1 hr1 hB1 hr
  go_region_held3 (fun w' => w'.cell? ⟨w1.heap.size, 0, none⟩ = some (.slice A1 ((doSt s 3 xa 0 1).1).cs.length c1) ∧ w'.cell? ⟨w1.heap.size, 1, none⟩ = some (.int .i64 ((doSt s 3 xa 0 1).1).most) ∧ w'.cell? ⟨w1.heap.size, 2, none⟩ = some (.slice A1' ((doSt s 3 xa 0 1).1).hist.length c1'))
    (first
      | with_reducible exact ⟨y0, y1, y2⟩
      | ((refine ⟨?_, ?_, ?_⟩ <;> (repeat (rw [World.cell?_setCell_far _ _ _ _ (by with_reducible first | exact nn0 | exact nn1 | exact nn2 | exact nn3)]))) <;> with_reducible (first | assumption | exact y0 | exact y1 | exact y2 | exact k1 | exact k2))
      | go_keep)
    ((go_at_call 12; refine (num_any _ _).mono ?_; rintro e w' ⟨rfl, rfl⟩))
  rename_i hHeld
  clear hHeld
  go_wp2
  exact bodyPost_ret (v := .tuple #[(.agg #[.slice A1 ((doSt s 3 xa 0 1).1).cs.length c1, .int .i64 ((doSt s 3 xa 0 1).1).most, .slice A1' ((doSt s 3 xa 0 1).1).hist.length c1']), .bool true]) (by simp [results, Tryd.results10, go_sem, v0, v1, v2, v3]) rfl hfin

set_option maxRecDepth 100000 in
set_option maxHeartbeats 3200000 in
theorem act3_4 {w : World} {b : Nat} {s : St} {v : Value} (x : ActD) (h : Sd b s s v w) (hx : x.what = 4) (hh : s.hist.length < 1000000000) :
    Calls Tryd.prog 10 #[.pointer (some ⟨b, 0, none⟩), v, x.val] w (ActPost b ((doSt s 3 x.at_ 1 0).1) w) := by
  obtain ⟨xw, xa, xn⟩ := x
  simp only at hx ⊢
  subst hx
  obtain ⟨A0, c0, A0', c0', rfl⟩ := h.ref.form
  have M0 := Mid.start (x := ⟨4, xa, xn⟩) (v0 := .nilFunc) h #[.slice A0 s.cs.length c0, .int .i64 s.most, .slice A0' s.hist.length c0']
  unfold ActD.val
  simp only
  have hr := refFree3 xa _ M0.sd.ref hh
  go_enter Tryd.func10, Tryd.ntmps10
  go_wp2_with (first
    | (go_at_call 23
       refine hr.mono ?_
       rintro e w1 ⟨v1, rfl, hr1, hB1, ho1⟩
       obtain ⟨A1, c1, A1', c1', rfl⟩ := hr1.form
       have M1 := (M0.ref hr1 hB1 ho1).below ((Below.refl _ _).alloc (Nat.le_refl _) (.cells #[.slice A1 ((doSt s 3 xa 1 0).1).cs.length c1, .int .i64 ((doSt s 3 xa 1 0).1).most, .slice A1' ((doSt s 3 xa 1 0).1).hist.length c1'] 31))
       have ob1 := Blk.new w1 31 #[.slice A1 ((doSt s 3 xa 1 0).1).cs.length c1, .int .i64 ((doSt s 3 xa 1 0).1).most, .slice A1' ((doSt s 3 xa 1 0).1).hist.length c1']
       have hs1 := M0.sz
       have hs2 := hB1.size
       have q0 := M1.bx.cell 0
       have q1 := M1.bx.cell 1
       have q2 := M1.bx.cell 2
       simp at q0 q1 q2
       have p0 := ob1.cell 0
       have p1 := ob1.cell 1
       have p2 := ob1.cell 2
       simp at p0 p1 p2))
  have nn0 : w.heap.size + 1 + 1 ≠ w1.heap.size := by simp at hs2; omega
  have nn1 : w.heap.size + 1 + 1 + 1 ≠ w1.heap.size := by simp at hs2; omega
  have nn2 : w.heap.size + 1 + 1 ≠ w.heap.size + 1 := by omega
  have nn3 : w.heap.size + 1 + 1 + 1 ≠ w.heap.size + 1 := by omega
  go_region_held3 (fun w' => w'.cell? ⟨w1.heap.size, 0, none⟩ = some (.slice A1 ((doSt s 3 xa 1 0).1).cs.length c1) ∧ w'.cell? ⟨w1.heap.size, 1, none⟩ = some (.int .i64 ((doSt s 3 xa 1 0).1).most) ∧ w'.cell? ⟨w1.heap.size, 2, none⟩ = some (.slice A1' ((doSt s 3 xa 1 0).1).hist.length c1') ∧ w'.cell? ⟨w.heap.size + 1, 1, none⟩ = some (.int .i64 xa) ∧ w'.cell? ⟨w.heap.size + 1, 2, none⟩ = some (.int .i64 xn))
    (first
      | with_reducible exact ⟨y0, y1, y2, k1, k2⟩
      | with_reducible exact ⟨p0, p1, p2, q1, q2⟩
      | ((refine ⟨?_, ?_, ?_, ?_, ?_⟩ <;> (repeat (rw [World.cell?_setCell_far _ _ _ _ (by with_reducible first | exact nn0 | exact nn1 | exact nn2 | exact nn3)]))) <;> with_reducible (first | assumption | exact y0 | exact y1 | exact y2 | exact k1 | exact k2))
      | go_keep)
    ((first
    | (go_at_call 17
       refine (spinFree_ok xa ((M1.below ((Below.refl _ _).drew))).sd.lk hh).mono ?_
       rintro e w2 ⟨rfl, hst⟩
       have M2 := ((M1.below ((Below.refl _ _).drew))).step hst
       have ob2 := ob1.drew.keep (hst.out (by exact ob1.lt) (fun hf => foot_new (M0.ref hr1 hB1 ho1).sd.lk.are _ hf)).1
       have y0 := ob2.cell 0
       have y1 := ob2.cell 1
       have y2 := ob2.cell 2
       have z0 := M2.rs.cell 0
       have z1 := M2.rs.cell 1
       have z2 := M2.rs.cell 2
       have f0 := M2.rs.frozen 0
       have f1 := M2.rs.frozen 1
       have f2 := M2.rs.frozen 2
       have z3 := M2.rb.cell 0
       have f3 := M2.rb.frozen 0
       have k0 := M2.bx.cell 0
       have k1 := M2.bx.cell 1
       have k2 := M2.bx.cell 2
       simp at y0 y1 y2 z0 z1 z2 z3 k0 k1 k2)
    | (go_at_call 12; refine (num_any _ _).mono ?_; rintro e w' ⟨rfl, rfl⟩)))
  have M5 := ((M2.set3 rfl (.slice A1 ((doSt s 3 xa 1 0).1).cs.length c1) (.int .i64 ((doSt s 3 xa 1 0).1).most) (.slice A1' ((doSt s 3 xa 1 0).1).hist.length c1')).setb rfl (.bool true))
  have v0 := M5.rs.cell 0
  have v1 := M5.rs.cell 1
  have v2 := M5.rs.cell 2
  have v3 := M5.rb.cell 0
  simp at v0 v1 v2 v3
  have hfin := M5.post
  rename_i hHeld
  clear hHeld
  go_wp2
  exact bodyPost_ret (v := .tuple #[(.agg #[.slice A1 ((doSt s 3 xa 1 0).1).cs.length c1, .int .i64 ((doSt s 3 xa 1 0).1).most, .slice A1' ((doSt s 3 xa 1 0).1).hist.length c1']), .bool true]) (by simp [results, Tryd.results10, go_sem, v0, v1, v2, v3]) rfl hfin

set_option maxRecDepth 100000 in
set_option maxHeartbeats 3200000 in
theorem act3_5 {w : World} {b : Nat} {s : St} {v : Value} (x : ActD) (h : Sd b s s v w) (hx : x.what = 5) (hh : s.hist.length < 1000000000) :
    Calls Tryd.prog 10 #[.pointer (some ⟨b, 0, none⟩), v, x.val] w (ActPost b ((doSt s 3 x.at_ 1 0).1) w) := by
  obtain ⟨xw, xa, xn⟩ := x
  simp only at hx ⊢
  subst hx
  obtain ⟨A0, c0, A0', c0', rfl⟩ := h.ref.form
  have M0 := Mid.start (x := ⟨5, xa, xn⟩) (v0 := .nilFunc) h #[.slice A0 s.cs.length c0, .int .i64 s.most, .slice A0' s.hist.length c0']
  unfold ActD.val
  simp only
  have hr := refFree3 xa _ M0.sd.ref hh
  go_enter Tryd.func10, Tryd.ntmps10
  go_wp2_with (first
    | (go_at_call 23
       refine hr.mono ?_
       rintro e w1 ⟨v1, rfl, hr1, hB1, ho1⟩
       obtain ⟨A1, c1, A1', c1', rfl⟩ := hr1.form
       have M1 := (M0.ref hr1 hB1 ho1).below ((Below.refl _ _).alloc (Nat.le_refl _) (.cells #[.slice A1 ((doSt s 3 xa 1 0).1).cs.length c1, .int .i64 ((doSt s 3 xa 1 0).1).most, .slice A1' ((doSt s 3 xa 1 0).1).hist.length c1'] 31))
       have ob1 := Blk.new w1 31 #[.slice A1 ((doSt s 3 xa 1 0).1).cs.length c1, .int .i64 ((doSt s 3 xa 1 0).1).most, .slice A1' ((doSt s 3 xa 1 0).1).hist.length c1']
       have hs1 := M0.sz
       have hs2 := hB1.size
       have q0 := M1.bx.cell 0
       have q1 := M1.bx.cell 1
       have q2 := M1.bx.cell 2
       simp at q0 q1 q2
       have p0 := ob1.cell 0
       have p1 := ob1.cell 1
       have p2 := ob1.cell 2
       simp at p0 p1 p2))
  have nn0 : w.heap.size + 1 + 1 ≠ w1.heap.size := by simp at hs2; omega
  have nn1 : w.heap.size + 1 + 1 + 1 ≠ w1.heap.size := by simp at hs2; omega
  have nn2 : w.heap.size + 1 + 1 ≠ w.heap.size + 1 := by omega
  have nn3 : w.heap.size + 1 + 1 + 1 ≠ w.heap.size + 1 := by omega
  go_region_held3 (fun w' => w'.cell? ⟨w1.heap.size, 0, none⟩ = some (.slice A1 ((doSt s 3 xa 1 0).1).cs.length c1) ∧ w'.cell? ⟨w1.heap.size, 1, none⟩ = some (.int .i64 ((doSt s 3 xa 1 0).1).most) ∧ w'.cell? ⟨w1.heap.size, 2, none⟩ = some (.slice A1' ((doSt s 3 xa 1 0).1).hist.length c1') ∧ w'.cell? ⟨w.heap.size + 1, 1, none⟩ = some (.int .i64 xa) ∧ w'.cell? ⟨w.heap.size + 1, 2, none⟩ = some (.int .i64 xn))
    (first
      | with_reducible exact ⟨y0, y1, y2, k1, k2⟩
      | with_reducible exact ⟨p0, p1, p2, q1, q2⟩
      | ((refine ⟨?_, ?_, ?_, ?_, ?_⟩ <;> (repeat (rw [World.cell?_setCell_far _ _ _ _ (by with_reducible first | exact nn0 | exact nn1 | exact nn2 | exact nn3)]))) <;> with_reducible (first | assumption | exact y0 | exact y1 | exact y2 | exact k1 | exact k2))
      | go_keep)
    ((first
    | (go_at_call 17
       refine (spinFree_ok xa ((M1.below ((Below.refl _ _).drew))).sd.lk hh).mono ?_
       rintro e w2 ⟨rfl, hst⟩
       have M2 := ((M1.below ((Below.refl _ _).drew))).step hst
       have ob2 := ob1.drew.keep (hst.out (by exact ob1.lt) (fun hf => foot_new (M0.ref hr1 hB1 ho1).sd.lk.are _ hf)).1
       have y0 := ob2.cell 0
       have y1 := ob2.cell 1
       have y2 := ob2.cell 2
       have z0 := M2.rs.cell 0
       have z1 := M2.rs.cell 1
       have z2 := M2.rs.cell 2
       have f0 := M2.rs.frozen 0
       have f1 := M2.rs.frozen 1
       have f2 := M2.rs.frozen 2
       have z3 := M2.rb.cell 0
       have f3 := M2.rb.frozen 0
       have k0 := M2.bx.cell 0
       have k1 := M2.bx.cell 1
       have k2 := M2.bx.cell 2
       simp at y0 y1 y2 z0 z1 z2 z3 k0 k1 k2)
    | (go_at_call 12; refine (num_any _ _).mono ?_; rintro e w' ⟨rfl, rfl⟩)))
  have M5 := ((M2.set3 rfl (.slice A1 ((doSt s 3 xa 1 0).1).cs.length c1) (.int .i64 ((doSt s 3 xa 1 0).1).most) (.slice A1' ((doSt s 3 xa 1 0).1).hist.length c1')).setb rfl (.bool true))
  have v0 := M5.rs.cell 0
  have v1 := M5.rs.cell 1
  have v2 := M5.rs.cell 2
  have v3 := M5.rb.cell 0
  simp at v0 v1 v2 v3
  have hfin := M5.post
  rename_i hHeld
  clear hHeld
  go_wp2
  exact bodyPost_ret (v := .tuple #[(.agg #[.slice A1 ((doSt s 3 xa 1 0).1).cs.length c1, .int .i64 ((doSt s 3 xa 1 0).1).most, .slice A1' ((doSt s 3 xa 1 0).1).hist.length c1']), .bool true]) (by simp [results, Tryd.results10, go_sem, v0, v1, v2, v3]) rfl hfin

set_option maxRecDepth 100000 in
set_option maxHeartbeats 3200000 in
theorem act3_6 {w : World} {b : Nat} {s : St} {v : Value} (x : ActD) (h : Sd b s s v w) (hx : x.what = 6) (hh : s.hist.length < 1000000000) :
    Calls Tryd.prog 10 #[.pointer (some ⟨b, 0, none⟩), v, x.val] w (ActPost b ((doSt s 1 x.at_ 0 0).1) w) := by
  obtain ⟨xw, xa, xn⟩ := x
  simp only at hx ⊢
  subst hx
  obtain ⟨A0, c0, A0', c0', rfl⟩ := h.ref.form
  have M0 := Mid.start (x := ⟨6, xa, xn⟩) (v0 := .nilFunc) h #[.slice A0 s.cs.length c0, .int .i64 s.most, .slice A0' s.hist.length c0']
  unfold ActD.val
  simp only
  have hr := refHeld3 xa _ M0.sd.ref hh
  go_enter Tryd.func10, Tryd.ntmps10
  go_wp2_with (first
    | (go_at_call 24
       refine hr.mono ?_
       rintro e w1 ⟨v1, rfl, hr1, hB1, ho1⟩
       obtain ⟨A1, c1, A1', c1', rfl⟩ := hr1.form
       have M1 := (M0.ref hr1 hB1 ho1).below ((Below.refl _ _).alloc (Nat.le_refl _) (.cells #[.slice A1 ((doSt s 1 xa 0 0).1).cs.length c1, .int .i64 ((doSt s 1 xa 0 0).1).most, .slice A1' ((doSt s 1 xa 0 0).1).hist.length c1'] 31))
       have ob1 := Blk.new w1 31 #[.slice A1 ((doSt s 1 xa 0 0).1).cs.length c1, .int .i64 ((doSt s 1 xa 0 0).1).most, .slice A1' ((doSt s 1 xa 0 0).1).hist.length c1']
       have hs1 := M0.sz
       have hs2 := hB1.size
       have q0 := M1.bx.cell 0
       have q1 := M1.bx.cell 1
       have q2 := M1.bx.cell 2
       simp at q0 q1 q2)
    | (go_at_call 18
       refine (spinHeld_ok xa (M1).sd.lk hh).mono ?_
       rintro e w2 ⟨rfl, hst⟩
       have M2 := (M1).step hst
       have ob2 := ob1.keep (hst.out (by exact ob1.lt) (fun hf => foot_new (M0.ref hr1 hB1 ho1).sd.lk.are _ hf)).1
       have y0 := ob2.cell 0
       have y1 := ob2.cell 1
       have y2 := ob2.cell 2
       have z0 := M2.rs.cell 0
       have z1 := M2.rs.cell 1
       have z2 := M2.rs.cell 2
       have f0 := M2.rs.frozen 0
       have f1 := M2.rs.frozen 1
       have f2 := M2.rs.frozen 2
       have z3 := M2.rb.cell 0
       have f3 := M2.rb.frozen 0
       have k0 := M2.bx.cell 0
       have k1 := M2.bx.cell 1
       have k2 := M2.bx.cell 2
       simp at y0 y1 y2 z0 z1 z2 z3 k0 k1 k2))
  have nn0 : w.heap.size + 1 + 1 ≠ w1.heap.size := by simp at hs2; omega
  have nn1 : w.heap.size + 1 + 1 + 1 ≠ w1.heap.size := by simp at hs2; omega
  have nn2 : w.heap.size + 1 + 1 ≠ w.heap.size + 1 := by omega
  have nn3 : w.heap.size + 1 + 1 + 1 ≠ w.heap.size + 1 := by omega
  have M5 := ((M2.set3 rfl (.slice A1 ((doSt s 1 xa 0 0).1).cs.length c1) (.int .i64 ((doSt s 1 xa 0 0).1).most) (.slice A1' ((doSt s 1 xa 0 0).1).hist.length c1')).setb rfl (.bool true)).below ((Below.refl _ _).drew)
  have v0 := M5.rs.cell 0
  have v1 := M5.rs.cell 1
  have v2 := M5.rs.cell 2
  have v3 := M5.rb.cell 0
  simp at v0 v1 v2 v3
  have hfin := M5.post
  clear M5 M2 M1 M0 ob1 ob2 hst ho1 hr1 hB1 hr
  go_region_held3 (fun w' => w'.cell? ⟨w1.heap.size, 0, none⟩ = some (.slice A1 ((doSt s 1 xa 0 0).1).cs.length c1) ∧ w'.cell? ⟨w1.heap.size, 1, none⟩ = some (.int .i64 ((doSt s 1 xa 0 0).1).most) ∧ w'.cell? ⟨w1.heap.size, 2, none⟩ = some (.slice A1' ((doSt s 1 xa 0 0).1).hist.length c1'))
    (first
      | with_reducible exact ⟨y0, y1, y2⟩
      | ((refine ⟨?_, ?_, ?_⟩ <;> (repeat (rw [World.cell?_setCell_far _ _ _ _ (by with_reducible first | exact nn0 | exact nn1 | exact nn2 | exact nn3)]))) <;> with_reducible (first | assumption | exact y0 | exact y1 | exact y2 | exact k1 | exact k2))
      | go_keep)
    ((go_at_call 12; refine (num_any _ _).mono ?_; rintro e w' ⟨rfl, rfl⟩))
  rename_i hHeld
  clear hHeld
  go_wp2
  exact bodyPost_ret (v := .tuple #[(.agg #[.slice A1 ((doSt s 1 xa 0 0).1).cs.length c1, .int .i64 ((doSt s 1 xa 0 0).1).most, .slice A1' ((doSt s 1 xa 0 0).1).hist.length c1']), .bool true]) (by simp [results, Tryd.results10, go_sem, v0, v1, v2, v3]) rfl hfin

set_option maxRecDepth 100000 in
set_option maxHeartbeats 3200000 in
theorem act3_9 {w : World} {b : Nat} {s : St} {v : Value} (x : ActD) (h : Sd b s s v w) (hx : x.what = 9) (hh : s.hist.length < 1000000000) :
    Calls Tryd.prog 10 #[.pointer (some ⟨b, 0, none⟩), v, x.val] w (ActPost b ((doSt s 2 x.at_ (IntKind.u64.wrap x.n) 0).1) w) := by
  obtain ⟨xw, xa, xn⟩ := x
  simp only at hx ⊢
  subst hx
  obtain ⟨A0, c0, A0', c0', rfl⟩ := h.ref.form
  have M0 := Mid.start (x := ⟨9, xa, xn⟩) (v0 := .nilFunc) h #[.slice A0 s.cs.length c0, .int .i64 s.most, .slice A0' s.hist.length c0']
  unfold ActD.val
  simp only
  have hr := refStore xa (IntKind.u64.wrap xn) _ M0.sd.ref hh
  go_enter Tryd.func10, Tryd.ntmps10
  go_wp2_with (first
    | (go_at_call 28
       refine hr.mono ?_
       rintro e w1 ⟨v1, rfl, hr1, hB1, ho1⟩
       obtain ⟨A1, c1, A1', c1', rfl⟩ := hr1.form
       have M1 := (M0.ref hr1 hB1 ho1).below ((Below.refl _ _).alloc (Nat.le_refl _) (.cells #[.slice A1 ((doSt s 2 xa (IntKind.u64.wrap xn) 0).1).cs.length c1, .int .i64 ((doSt s 2 xa (IntKind.u64.wrap xn) 0).1).most, .slice A1' ((doSt s 2 xa (IntKind.u64.wrap xn) 0).1).hist.length c1'] 31))
       have ob1 := Blk.new w1 31 #[.slice A1 ((doSt s 2 xa (IntKind.u64.wrap xn) 0).1).cs.length c1, .int .i64 ((doSt s 2 xa (IntKind.u64.wrap xn) 0).1).most, .slice A1' ((doSt s 2 xa (IntKind.u64.wrap xn) 0).1).hist.length c1']
       have hs1 := M0.sz
       have hs2 := hB1.size
       have q0 := M1.bx.cell 0
       have q1 := M1.bx.cell 1
       have q2 := M1.bx.cell 2
       simp at q0 q1 q2
       have p0 := ob1.cell 0
       have p1 := ob1.cell 1
       have p2 := ob1.cell 2
       simp at p0 p1 p2))
  have nn0 : w.heap.size + 1 + 1 ≠ w1.heap.size := by simp at hs2; omega
  have nn1 : w.heap.size + 1 + 1 + 1 ≠ w1.heap.size := by simp at hs2; omega
  have nn2 : w.heap.size + 1 + 1 ≠ w.heap.size + 1 := by omega
  have nn3 : w.heap.size + 1 + 1 + 1 ≠ w.heap.size + 1 := by omega
  go_region_held3 (fun w' => w'.cell? ⟨w1.heap.size, 0, none⟩ = some (.slice A1 ((doSt s 2 xa (IntKind.u64.wrap xn) 0).1).cs.length c1) ∧ w'.cell? ⟨w1.heap.size, 1, none⟩ = some (.int .i64 ((doSt s 2 xa (IntKind.u64.wrap xn) 0).1).most) ∧ w'.cell? ⟨w1.heap.size, 2, none⟩ = some (.slice A1' ((doSt s 2 xa (IntKind.u64.wrap xn) 0).1).hist.length c1') ∧ w'.cell? ⟨w.heap.size + 1, 1, none⟩ = some (.int .i64 xa) ∧ w'.cell? ⟨w.heap.size + 1, 2, none⟩ = some (.int .i64 xn))
    (first
      | with_reducible exact ⟨y0, y1, y2, k1, k2⟩
      | with_reducible exact ⟨p0, p1, p2, q1, q2⟩
      | ((refine ⟨?_, ?_, ?_, ?_, ?_⟩ <;> (repeat (rw [World.cell?_setCell_far _ _ _ _ (by with_reducible first | exact nn0 | exact nn1 | exact nn2 | exact nn3)]))) <;> with_reducible (first | assumption | exact y0 | exact y1 | exact y2 | exact k1 | exact k2))
      | go_keep)
    ((first
    | (go_at_call 29
       refine (Store_st xa (IntKind.u64.wrap xn) ((M1.below ((Below.refl _ _).drew))).sd.lk.are hh).mono ?_
       rintro e w2 ⟨rfl, hst⟩
       have M2 := ((M1.below ((Below.refl _ _).drew))).step hst
       have ob2 := ob1.drew.keep (hst.out (by exact ob1.lt) (fun hf => foot_new (M0.ref hr1 hB1 ho1).sd.lk.are _ hf)).1
       have y0 := ob2.cell 0
       have y1 := ob2.cell 1
       have y2 := ob2.cell 2
       have z0 := M2.rs.cell 0
       have z1 := M2.rs.cell 1
       have z2 := M2.rs.cell 2
       have f0 := M2.rs.frozen 0
       have f1 := M2.rs.frozen 1
       have f2 := M2.rs.frozen 2
       have z3 := M2.rb.cell 0
       have f3 := M2.rb.frozen 0
       have k0 := M2.bx.cell 0
       have k1 := M2.bx.cell 1
       have k2 := M2.bx.cell 2
       simp at y0 y1 y2 z0 z1 z2 z3 k0 k1 k2)
    | (go_at_call 12; refine (num_any _ _).mono ?_; rintro e w' ⟨rfl, rfl⟩)))
  have M5 := ((M2.set3 rfl (.slice A1 ((doSt s 2 xa (IntKind.u64.wrap xn) 0).1).cs.length c1) (.int .i64 ((doSt s 2 xa (IntKind.u64.wrap xn) 0).1).most) (.slice A1' ((doSt s 2 xa (IntKind.u64.wrap xn) 0).1).hist.length c1')).setb rfl (.bool true))
  have v0 := M5.rs.cell 0
  have v1 := M5.rs.cell 1
  have v2 := M5.rs.cell 2
  have v3 := M5.rb.cell 0
  simp at v0 v1 v2 v3
  have hfin := M5.post
  rename_i hHeld
  clear hHeld
  go_wp2
  exact bodyPost_ret (v := .tuple #[(.agg #[.slice A1 ((doSt s 2 xa (IntKind.u64.wrap xn) 0).1).cs.length c1, .int .i64 ((doSt s 2 xa (IntKind.u64.wrap xn) 0).1).most, .slice A1' ((doSt s 2 xa (IntKind.u64.wrap xn) 0).1).hist.length c1']), .bool true]) (by simp [results, Tryd.results10, go_sem, v0, v1, v2, v3]) rfl hfin

set_option maxRecDepth 100000 in
set_option maxHeartbeats 3200000 in
theorem act3_d {w : World} {b : Nat} {s : St} {v : Value} (x : ActD) (h : Sd b s s v w) (hx : x.what < 0 ∨ 9 < x.what) :
    Calls Tryd.prog 10 #[.pointer (some ⟨b, 0, none⟩), v, x.val] w (ActPost b s w) := by
  obtain ⟨xw, xa, xn⟩ := x
  simp only at hx ⊢
  have e0 : (xw == 0) = false := by simp; omega
  have e1 : (xw == 1) = false := by simp; omega
  have e2 : (xw == 2) = false := by simp; omega
  have e3 : (xw == 3) = false := by simp; omega
  have e4 : (xw == 4) = false := by simp; omega
  have e5 : (xw == 5) = false := by simp; omega
  have e6 : (xw == 6) = false := by simp; omega
  have e7 : (xw == 7) = false := by simp; omega
  have e8 : (xw == 8) = false := by simp; omega
  have e9 : (xw == 9) = false := by simp; omega
  obtain ⟨A0, c0, A0', c0', rfl⟩ := h.ref.form
  have M5 := Mid.startG (x := ⟨xw, xa, xn⟩) h #[.slice A0 s.cs.length c0, .int .i64 s.most, .slice A0' s.hist.length c0'] #[.slice A0 s.cs.length c0, .int .i64 s.most, .slice A0' s.hist.length c0'] #[.bool true]
  have v0 := M5.rs.cell 0
  have v1 := M5.rs.cell 1
  have v2 := M5.rs.cell 2
  have v3 := M5.rb.cell 0
  simp only [List.getElem?_toArray, List.getElem?_cons_zero, List.getElem?_cons_succ] at v0 v1 v2 v3
  have hfin := M5.post
  unfold ActD.val
  simp only
  clear M5 hx
  go_enter Tryd.func10, Tryd.ntmps10
  go_wp2_with fail
  exact bodyPost_ret (v := .tuple #[(.agg #[.slice A0 s.cs.length c0, .int .i64 s.most, .slice A0' s.hist.length c0']), .bool true]) (by simp [results, Tryd.results10, go_sem, v0, v1, v2, v3]) rfl hfin
end Go.Proofs.YthiaaapcbiameaaDoor
