/- SpinPlays: a call: States. -/
import Derived.Test.YthiaaapcbiameaaDoorTd
namespace Go.Proofs.YthiaaapcbiameaaDoor
open Go.RowKit Go.Shelf
attribute [local go_sem] Oper.semAt_some
set_option maxRecDepth 100000 in
set_option maxHeartbeats 6400000 in
theorem act3_8 {w : World} {b : Nat} {s : St} {v : Value} (x : ActD) (h : Sd b s s v w) (hx : x.what = 8) (hh : s.hist.length < 1000000) (hm : x.at_ < 9223372036854775807) (hl : -9223372036854775808 ≤ x.at_) :
    Calls Tryd.prog 10 #[.pointer (some ⟨b, 0, none⟩), v, x.val] w (ActPost b (statesSt s x.at_ (x.at_ + 1)).1 w) := by
  obtain ⟨xw, xa, xn⟩ := x
  simp only at hx hm hl ⊢
  subst hx
  obtain ⟨A0, c0, A0', c0', rfl⟩ := h.ref.form
  have M0 := Mid.start (x := ⟨8, xa, xn⟩) (v0 := .nilFunc) h #[.slice A0 s.cs.length c0, .int .i64 s.most, .slice A0' s.hist.length c0']
  have e0 : (xa == 9223372036854775807) = false := by simp; omega
  have hwr : IntKind.i64.wrap (xa + 1) = xa + 1 := IntWalk.i64_in _ (by omega)
  have pb0 := Blk.new ((((w.alloc (.cells #[.slice A0 s.cs.length c0, .int .i64 s.most, .slice A0' s.hist.length c0'] 31)).alloc (.cells #[.int .i64 8, .int .i64 xa, .int .i64 xn] 35)).alloc (.cells #[.slice none 0 0, .int .i64 0, .slice none 0 0] 31)).alloc (.cells #[.bool false] 4)) 3 #[.int .i64 xa, .int .i64 (xa + 1)]
  simp only [World.size_alloc] at pb0
  have M0x := M0.below ((Below.refl _ _).alloc (Nat.le_refl _) (.cells #[.int .i64 xa, .int .i64 (xa + 1)] 3))
  simp only at M0x
  have hr := refStates3 xa (xa + 1) _ _ M0x.sd.ref hh pb0
  have hsx := fun p W (hk : Lk b s W) (hp : Blk W p 3 #[.int .i64 xa, .int .i64 (xa + 1)]) (hf : ¬ footA b W p) => spinStates_ok xa (xa + 1) p W hk hp hf hh
  unfold ActD.val
  simp only
  revert hr hsx
  generalize statesSt s xa (xa + 1) = z
  obtain ⟨r1, told, no⟩ := z
  simp only
  intro hr hsx
  go_enter Tryd.func10, Tryd.ntmps10
  go_wp2_with (first
    | (go_at_call 27
       refine hr.mono ?_
       rintro e w1 ⟨v1, u1, rfl, hr1, hu1, hB1, ho1⟩
       obtain ⟨A1, c1, A1', c1', rfl⟩ := hr1.form
       have M1 := M0x.ref hr1 hB1 ho1
       have BO : Below w1.heap.size w1 (w1.alloc (.cells #[.slice A1 r1.cs.length c1, .int .i64 r1.most, .slice A1' r1.hist.length c1'] 31)) := (Below.refl _ _).alloc (Nat.le_refl _) _
       have M1o := M1.below BO
       have q0 := M1o.bx.cell 0
       have q1 := M1o.bx.cell 1
       have q2 := M1o.bx.cell 2
       simp at q0 q1 q2)
    | (go_at_call 19
       have BP : Below w1.heap.size w1 ((w1.alloc (.cells #[.slice A1 r1.cs.length c1, .int .i64 r1.most, .slice A1' r1.hist.length c1'] 31)).alloc (.cells #[.int .i64 xa, .int .i64 (xa + 1)] 3)) := BO.alloc (by simp) _
       have M2 := M1.below BP
       have pb2 := Blk.new (w1.alloc (.cells #[.slice A1 r1.cs.length c1, .int .i64 r1.most, .slice A1' r1.hist.length c1'] 31)) 3 #[.int .i64 xa, .int .i64 (xa + 1)]
       rw [World.size_alloc] at pb2
       have ob2 := (Blk.new w1 31 #[.slice A1 r1.cs.length c1, .int .i64 r1.most, .slice A1' r1.hist.length c1']).alloc (.cells #[.int .i64 xa, .int .i64 (xa + 1)] 3)
       have nf2 : ∀ k, w1.heap.size ≤ k → ¬ footA b ((w1.alloc (.cells #[.slice A1 r1.cs.length c1, .int .i64 r1.most, .slice A1' r1.hist.length c1'] 31)).alloc (.cells #[.int .i64 xa, .int .i64 (xa + 1)] 3)) k := fun k hk => fresh_below M1.sd.lk.are BP hk
       have hu2 := hu1.below BP
       refine (hsx _ _ M2.sd.lk pb2 (nf2 _ (by omega))).mono ?_
       rintro e w2 ⟨u2, rfl, hv2, hst⟩
       have M3 := M2.step hst
       have ob3 := ob2.keep (hst.out ob2.lt (nf2 _ (Nat.le_refl _))).1
       have hu3 := Row.keep hu2 (fun k hk => (hst.out (Row.lt hu2 k hk) (footA_row M2.sd.lk.are hu2 hk)).1)
       have k0 := ob3.cell 0
       have k1 := ob3.cell 1
       have k2 := ob3.cell 2
       simp at k0 k1 k2))
  have hs1 := M0x.sz
  have hs2 := hB1.size
  have nn0 : w.heap.size + 1 + 1 ≠ w1.heap.size := by simp only [World.size_alloc] at hs2; omega
  have nn1 : w.heap.size + 1 + 1 + 1 ≠ w1.heap.size := by simp only [World.size_alloc] at hs2; omega
  clear M0 M0x pb0 hr hsx M1 M1o BO BP M2 pb2 ob2 nf2 hu2 hst hr1 ho1 hB1 hu1 h q0 q1 q2
  go_region_held3 (fun w' => w'.cell? ⟨w1.heap.size, 0, none⟩ = some (.slice A1 r1.cs.length c1) ∧ w'.cell? ⟨w1.heap.size, 1, none⟩ = some (.int .i64 r1.most) ∧ w'.cell? ⟨w1.heap.size, 2, none⟩ = some (.slice A1' r1.hist.length c1'))
    (first
      | with_reducible exact ⟨y0, y1, y2⟩
      | with_reducible exact ⟨k0, k1, k2⟩
      | ((refine ⟨?_, ?_, ?_⟩ <;> (repeat (rw [World.cell?_setCell_far _ _ _ _ (by with_reducible first | exact nn0 | exact nn1)]))) <;> with_reducible (first | assumption | exact y0 | exact y1 | exact y2))
      | go_keep)
    ((first
    | (go_at_call 26
       refine (bools_same u2 u1 told w2.drew hv2 hu3).mono ?_
       rintro e w3 ⟨rfl, hB3⟩
       have M4 := (M3.below ((Below.refl _ _).drew)).below hB3
       have ob4 := ob3.drew.keep (hB3.block _ ob3.lt)
       have y0 := ob4.cell 0
       have y1 := ob4.cell 1
       have y2 := ob4.cell 2
       have z0 := M4.rs.cell 0
       have z1 := M4.rs.cell 1
       have z2 := M4.rs.cell 2
       have f0 := M4.rs.frozen 0
       have f1 := M4.rs.frozen 1
       have f2 := M4.rs.frozen 2
       have z3 := M4.rb.cell 0
       have f3 := M4.rb.frozen 0
       simp at y0 y1 y2 z0 z1 z2 z3)
    | (go_at_call 12; refine (num_any _ _).mono ?_; rintro e w' ⟨rfl, rfl⟩)))
  rename_i hHeld
  clear hHeld
  have M5 := (M4.set3 rfl (.slice A1 r1.cs.length c1) (.int .i64 r1.most) (.slice A1' r1.hist.length c1')).setb rfl (.bool true)
  have v0 := M5.rs.cell 0
  have v1 := M5.rs.cell 1
  have v2 := M5.rs.cell 2
  have v3 := M5.rb.cell 0
  simp at v0 v1 v2 v3
  have hfin := M5.post
  go_wp2
  exact bodyPost_ret (v := .tuple #[(.agg #[.slice A1 r1.cs.length c1, .int .i64 r1.most, .slice A1' r1.hist.length c1']), .bool true]) (by simp [results, Tryd.results10, go_sem, v0, v1, v2, v3]) rfl hfin
end Go.Proofs.YthiaaapcbiameaaDoor
