/- The law's act on an arena and any of the document's, case 2. -/
import Derived.Test.YtbojbhjaeekjpaaAc
namespace Go.Proofs.Ytbojbhjaeekjpaa
open Go.RowKit
attribute [local go_sem] Oper.semAt_some

set_option maxRecDepth 100000 in
set_option maxHeartbeats 9600000 in
theorem actg_2 {F : Nat → Prop} {w : World} {b : Nat} {s r : St} {v : Value} (x : ActD) (h : Side F w b s v r) (hx : x.what = 2) (hhs : s.hist.length < 1000000000) (hhr : r.hist.length < 1000000000) :
    Calls Try.prog 13 #[.pointer (some ⟨b, 0, none⟩), v, x.val] w fun e w' => ∃ ok, ActPost F w v (doSt s 2 x.at_ x.x 0).1 (doSt r 2 x.at_ x.x 0).1 ok e w' := by
  obtain ⟨xw, xa, xx, xy⟩ := x
  simp only at hx
  subst hx
  obtain ⟨A0, c0, A0', c0', rfl⟩ := h.ref.form
  have BA : Below w.heap.size w (((w.alloc (.cells #[.slice A0 r.cs.length c0, .int .i64 r.most, .slice A0' r.hist.length c0'] 32)).alloc (.cells #[.int .i64 2, .int .i64 xa, .int .u64 xx, .int .u64 xy] 40)).alloc (.cells #[.slice none 0 0, .int .i64 0, .slice none 0 0] 32)) :=
    (((Below.refl _ _).alloc (Nat.le_refl _) _).alloc (by simp) _).alloc (by simp; omega) _
  have hrA := h.ref.below BA
  have bxA : Blk (((w.alloc (.cells #[.slice A0 r.cs.length c0, .int .i64 r.most, .slice A0' r.hist.length c0'] 32)).alloc (.cells #[.int .i64 2, .int .i64 xa, .int .u64 xx, .int .u64 xy] 40)).alloc (.cells #[.slice none 0 0, .int .i64 0, .slice none 0 0] 32)) (w.heap.size + 1) 40 #[.int .i64 2, .int .i64 xa, .int .u64 xx, .int .u64 xy] := by
    have := (Blk.new (w.alloc (.cells #[.slice A0 r.cs.length c0, .int .i64 r.most, .slice A0' r.hist.length c0'] 32)) 40 #[.int .i64 2, .int .i64 xa, .int .u64 xx, .int .u64 xy]).alloc (.cells #[.slice none 0 0, .int .i64 0, .slice none 0 0] 32)
    rwa [World.size_alloc] at this
  have rsA : Blk (((w.alloc (.cells #[.slice A0 r.cs.length c0, .int .i64 r.most, .slice A0' r.hist.length c0'] 32)).alloc (.cells #[.int .i64 2, .int .i64 xa, .int .u64 xx, .int .u64 xy] 40)).alloc (.cells #[.slice none 0 0, .int .i64 0, .slice none 0 0] 32)) (w.heap.size + 1 + 1) 32 #[.slice none 0 0, .int .i64 0, .slice none 0 0] := by
    have := Blk.new ((w.alloc (.cells #[.slice A0 r.cs.length c0, .int .i64 r.most, .slice A0' r.hist.length c0'] 32)).alloc (.cells #[.int .i64 2, .int .i64 xa, .int .u64 xx, .int .u64 xy] 40)) 32 #[.slice none 0 0, .int .i64 0, .slice none 0 0]
    simpa using this
  unfold ActD.val
  simp only
  go_enter Try.func13, Try.ntmps13
  go_wp2_with (first
    | (go_at_call 29
       refine (refDo 2 xa xx 0 _ hrA (by simp) hhr).mono ?_
       rintro e w1 ⟨v1, rfl, hr1, hB1, ho1⟩
       obtain ⟨A1, c1, A1', c1', rfl⟩ := hr1.form
       unfold Acc.val
       have B1 : Below w.heap.size w w1 := BA.trans (hB1.mono BA.size)
       have bx1 := bxA.keep (hB1.block _ bxA.lt)
       have rs1 := rsA.keep (hB1.block _ rsA.lt)
       have q1 := ((bx1.alloc (.cells #[(.slice A1 (doSt r 2 xa xx 0).1.cs.length c1), (.int .i64 (doSt r 2 xa xx 0).1.most), (.slice A1' (doSt r 2 xa xx 0).1.hist.length c1')] 32)).alloc (.cells #[(.int .i64 (doSt r 2 xa xx 0).2.1.op), (.int .i64 (doSt r 2 xa xx 0).2.1.at_), (.int .u64 (doSt r 2 xa xx 0).2.1.old), (.int .u64 (doSt r 2 xa xx 0).2.1.new), (.bool (doSt r 2 xa xx 0).2.1.did)] 52)).cell 1
       have q2 := ((bx1.alloc (.cells #[(.slice A1 (doSt r 2 xa xx 0).1.cs.length c1), (.int .i64 (doSt r 2 xa xx 0).1.most), (.slice A1' (doSt r 2 xa xx 0).1.hist.length c1')] 32)).alloc (.cells #[(.int .i64 (doSt r 2 xa xx 0).2.1.op), (.int .i64 (doSt r 2 xa xx 0).2.1.at_), (.int .u64 (doSt r 2 xa xx 0).2.1.old), (.int .u64 (doSt r 2 xa xx 0).2.1.new), (.bool (doSt r 2 xa xx 0).2.1.did)] 52)).cell 2
       have q3 := ((bx1.alloc (.cells #[(.slice A1 (doSt r 2 xa xx 0).1.cs.length c1), (.int .i64 (doSt r 2 xa xx 0).1.most), (.slice A1' (doSt r 2 xa xx 0).1.hist.length c1')] 32)).alloc (.cells #[(.int .i64 (doSt r 2 xa xx 0).2.1.op), (.int .i64 (doSt r 2 xa xx 0).2.1.at_), (.int .u64 (doSt r 2 xa xx 0).2.1.old), (.int .u64 (doSt r 2 xa xx 0).2.1.new), (.bool (doSt r 2 xa xx 0).2.1.did)] 52)).cell 3
       simp at q1 q2 q3
       have x0 : ((w1.alloc (.cells #[(.slice A1 (doSt r 2 xa xx 0).1.cs.length c1), (.int .i64 (doSt r 2 xa xx 0).1.most), (.slice A1' (doSt r 2 xa xx 0).1.hist.length c1')] 32)).alloc (.cells #[(.int .i64 (doSt r 2 xa xx 0).2.1.op), (.int .i64 (doSt r 2 xa xx 0).2.1.at_), (.int .u64 (doSt r 2 xa xx 0).2.1.old), (.int .u64 (doSt r 2 xa xx 0).2.1.new), (.bool (doSt r 2 xa xx 0).2.1.did)] 52)).cell? ⟨w1.heap.size, 0, none⟩ = some (.slice A1 (doSt r 2 xa xx 0).1.cs.length c1) := ((Blk.new w1 32 #[(.slice A1 (doSt r 2 xa xx 0).1.cs.length c1), (.int .i64 (doSt r 2 xa xx 0).1.most), (.slice A1' (doSt r 2 xa xx 0).1.hist.length c1')]).alloc (.cells #[(.int .i64 (doSt r 2 xa xx 0).2.1.op), (.int .i64 (doSt r 2 xa xx 0).2.1.at_), (.int .u64 (doSt r 2 xa xx 0).2.1.old), (.int .u64 (doSt r 2 xa xx 0).2.1.new), (.bool (doSt r 2 xa xx 0).2.1.did)] 52)).cell 0
       have x1 : ((w1.alloc (.cells #[(.slice A1 (doSt r 2 xa xx 0).1.cs.length c1), (.int .i64 (doSt r 2 xa xx 0).1.most), (.slice A1' (doSt r 2 xa xx 0).1.hist.length c1')] 32)).alloc (.cells #[(.int .i64 (doSt r 2 xa xx 0).2.1.op), (.int .i64 (doSt r 2 xa xx 0).2.1.at_), (.int .u64 (doSt r 2 xa xx 0).2.1.old), (.int .u64 (doSt r 2 xa xx 0).2.1.new), (.bool (doSt r 2 xa xx 0).2.1.did)] 52)).cell? ⟨w1.heap.size, 1, none⟩ = some (.int .i64 (doSt r 2 xa xx 0).1.most) := ((Blk.new w1 32 #[(.slice A1 (doSt r 2 xa xx 0).1.cs.length c1), (.int .i64 (doSt r 2 xa xx 0).1.most), (.slice A1' (doSt r 2 xa xx 0).1.hist.length c1')]).alloc (.cells #[(.int .i64 (doSt r 2 xa xx 0).2.1.op), (.int .i64 (doSt r 2 xa xx 0).2.1.at_), (.int .u64 (doSt r 2 xa xx 0).2.1.old), (.int .u64 (doSt r 2 xa xx 0).2.1.new), (.bool (doSt r 2 xa xx 0).2.1.did)] 52)).cell 1
       have x2 : ((w1.alloc (.cells #[(.slice A1 (doSt r 2 xa xx 0).1.cs.length c1), (.int .i64 (doSt r 2 xa xx 0).1.most), (.slice A1' (doSt r 2 xa xx 0).1.hist.length c1')] 32)).alloc (.cells #[(.int .i64 (doSt r 2 xa xx 0).2.1.op), (.int .i64 (doSt r 2 xa xx 0).2.1.at_), (.int .u64 (doSt r 2 xa xx 0).2.1.old), (.int .u64 (doSt r 2 xa xx 0).2.1.new), (.bool (doSt r 2 xa xx 0).2.1.did)] 52)).cell? ⟨w1.heap.size, 2, none⟩ = some (.slice A1' (doSt r 2 xa xx 0).1.hist.length c1') := ((Blk.new w1 32 #[(.slice A1 (doSt r 2 xa xx 0).1.cs.length c1), (.int .i64 (doSt r 2 xa xx 0).1.most), (.slice A1' (doSt r 2 xa xx 0).1.hist.length c1')]).alloc (.cells #[(.int .i64 (doSt r 2 xa xx 0).2.1.op), (.int .i64 (doSt r 2 xa xx 0).2.1.at_), (.int .u64 (doSt r 2 xa xx 0).2.1.old), (.int .u64 (doSt r 2 xa xx 0).2.1.new), (.bool (doSt r 2 xa xx 0).2.1.did)] 52)).cell 2
       have nn0 : w.heap.size + 1 + 1 ≠ w1.heap.size := by have := hB1.size; simp only [World.size_alloc] at this; omega
       have nn2 : w.heap.size + 1 + 1 ≠ w.heap.size + 1 := by omega))
  by_cases ce : (doSt s 2 xa xx 0).2.2 = (doSt r 2 xa xx 0).2.2
  · have ce1 : ((doSt s 2 xa xx 0).2.2 == (doSt r 2 xa xx 0).2.2) = true := by simpa using ce
    go_region_held3 (fun w' => w'.cell? ⟨w1.heap.size, 0, none⟩ = some (.slice A1 (doSt r 2 xa xx 0).1.cs.length c1) ∧ w'.cell? ⟨w1.heap.size, 1, none⟩ = some (.int .i64 (doSt r 2 xa xx 0).1.most) ∧ w'.cell? ⟨w1.heap.size, 2, none⟩ = some (.slice A1' (doSt r 2 xa xx 0).1.hist.length c1') ∧ w'.cell? ⟨w.heap.size + 1, 1, none⟩ = some (.int .i64 xa) ∧ w'.cell? ⟨w.heap.size + 1, 2, none⟩ = some (.int .u64 xx))
      (first
          | with_reducible exact ⟨y0, y1, y2, p1, p2⟩
          | with_reducible exact ⟨x0, x1, x2, q1, q2⟩
          | ((refine ⟨?_, ?_, ?_, ?_, ?_⟩ <;> (repeat (rw [World.cell?_setCell_far _ _ _ _ (by with_reducible first | exact nn0 | exact nn2)]))) <;> with_reducible (first | assumption | exact y0 | exact y1 | exact y2 | exact p1 | exact p2))
          | go_keep)
      ((first
        | (go_at_call 16
           refine (Store_do xa xx (h.cell ((B1.alloc B1.size _).alloc (le_alloc B1.size _) _).drew) hhs).mono ?_
           rintro e w2 ⟨rfl, hws⟩
           have hs1 := B1.size
           have hsA := hB1.size
           simp only [World.size_alloc] at hsA
           have nF : ∀ k, w.heap.size ≤ k → k ≤ w1.heap.size + 1 → ¬ upF F w.heap.size ((w1.alloc (.cells #[(.slice A1 (doSt r 2 xa xx 0).1.cs.length c1), (.int .i64 (doSt r 2 xa xx 0).1.most), (.slice A1' (doSt r 2 xa xx 0).1.hist.length c1')] 32)).alloc (.cells #[(.int .i64 (doSt r 2 xa xx 0).2.1.op), (.int .i64 (doSt r 2 xa xx 0).2.1.at_), (.int .u64 (doSt r 2 xa xx 0).2.1.old), (.int .u64 (doSt r 2 xa xx 0).2.1.new), (.bool (doSt r 2 xa xx 0).2.1.did)] 52)).heap.size k := fun k h1 h2 => by
             rintro (⟨_, h3⟩ | h3)
             · omega
             · simp only [World.size_alloc] at h3; omega
           have nb2 := ((Blk.new w1 32 #[(.slice A1 (doSt r 2 xa xx 0).1.cs.length c1), (.int .i64 (doSt r 2 xa xx 0).1.most), (.slice A1' (doSt r 2 xa xx 0).1.hist.length c1')]).alloc (.cells #[(.int .i64 (doSt r 2 xa xx 0).2.1.op), (.int .i64 (doSt r 2 xa xx 0).2.1.at_), (.int .u64 (doSt r 2 xa xx 0).2.1.old), (.int .u64 (doSt r 2 xa xx 0).2.1.new), (.bool (doSt r 2 xa xx 0).2.1.did)] 52)).drew.keep (hws.keep.block _ (by simp; omega) (nF _ hs1 (by omega)))
           have na2 := (Blk.new (w1.alloc (.cells #[(.slice A1 (doSt r 2 xa xx 0).1.cs.length c1), (.int .i64 (doSt r 2 xa xx 0).1.most), (.slice A1' (doSt r 2 xa xx 0).1.hist.length c1')] 32)) 52 #[(.int .i64 (doSt r 2 xa xx 0).2.1.op), (.int .i64 (doSt r 2 xa xx 0).2.1.at_), (.int .u64 (doSt r 2 xa xx 0).2.1.old), (.int .u64 (doSt r 2 xa xx 0).2.1.new), (.bool (doSt r 2 xa xx 0).2.1.did)]).keep (hws.keep.block _ (by simp) (nF _ (by simp; omega) (by simp)))
           rw [World.size_alloc] at na2
           have y3 := na2.cell 2
           have y4 := na2.cell 4
           have rs2 := ((rs1.alloc (.cells #[(.slice A1 (doSt r 2 xa xx 0).1.cs.length c1), (.int .i64 (doSt r 2 xa xx 0).1.most), (.slice A1' (doSt r 2 xa xx 0).1.hist.length c1')] 32)).alloc (.cells #[(.int .i64 (doSt r 2 xa xx 0).2.1.op), (.int .i64 (doSt r 2 xa xx 0).2.1.at_), (.int .u64 (doSt r 2 xa xx 0).2.1.old), (.int .u64 (doSt r 2 xa xx 0).2.1.new), (.bool (doSt r 2 xa xx 0).2.1.did)] 52)).drew.keep (hws.keep.block _ (by simp; omega) (nF _ (by omega) (by omega)))
           have y0 := nb2.cell 0
           have y1 := nb2.cell 1
           have y2 := nb2.cell 2
           have z0 := rs2.cell 0
           have z1 := rs2.cell 1
           have z2 := rs2.cell 2
           have f0 := rs2.frozen 0
           have f1 := rs2.frozen 1
           have f2 := rs2.frozen 2
           simp at y0 y1 y2 y3 y4 z0 z1 z2
           have bx2 := ((bx1.alloc (.cells #[(.slice A1 (doSt r 2 xa xx 0).1.cs.length c1), (.int .i64 (doSt r 2 xa xx 0).1.most), (.slice A1' (doSt r 2 xa xx 0).1.hist.length c1')] 32)).alloc (.cells #[(.int .i64 (doSt r 2 xa xx 0).2.1.op), (.int .i64 (doSt r 2 xa xx 0).2.1.at_), (.int .u64 (doSt r 2 xa xx 0).2.1.old), (.int .u64 (doSt r 2 xa xx 0).2.1.new), (.bool (doSt r 2 xa xx 0).2.1.did)] 52)).drew.keep (hws.keep.block _ (by simp; omega) (nF _ (by omega) (by omega)))
           have p1 := bx2.cell 1
           have p2 := bx2.cell 2
           simp at p1 p2)
        | (go_at_call 12; refine (num_any _ _).mono ?_; rintro e w' ⟨rfl, rfl⟩)))
    have hE0 := (Keep.three w2 (w.heap.size + 1 + 1) (.slice A1 (doSt r 2 xa xx 0).1.cs.length c1) (.int .i64 (doSt r 2 xa xx 0).1.most) (.slice A1' (doSt r 2 xa xx 0).1.hist.length c1'))
    have hown : ∀ k, ownR (.agg #[(.slice A1 (doSt r 2 xa xx 0).1.cs.length c1), (.int .i64 (doSt r 2 xa xx 0).1.most), (.slice A1' (doSt r 2 xa xx 0).1.hist.length c1')]) k → k < w1.heap.size ∧ (ownR (.agg #[.slice A0 r.cs.length c0, .int .i64 r.most, .slice A0' r.hist.length c0']) k ∨ w.heap.size ≤ k) ∧ k ≠ w.heap.size + 1 + 1 := fun k hk => by
      have hl := hr1.lt k hk
      refine ⟨hl, ?_, ?_⟩
      · refine (ho1 k hk).imp id (fun e => ?_)
        simp only [World.size_alloc] at e; omega
      · rintro rfl
        rcases ho1 _ hk with e | e
        · have := h.ref.lt _ e; omega
        · simp only [World.size_alloc] at e; omega
    have hdone := h.done (((hr1.alloc (.cells #[(.slice A1 (doSt r 2 xa xx 0).1.cs.length c1), (.int .i64 (doSt r 2 xa xx 0).1.most), (.slice A1' (doSt r 2 xa xx 0).1.hist.length c1')] 32)).alloc (.cells #[(.int .i64 (doSt r 2 xa xx 0).2.1.op), (.int .i64 (doSt r 2 xa xx 0).2.1.at_), (.int .u64 (doSt r 2 xa xx 0).2.1.old), (.int .u64 (doSt r 2 xa xx 0).2.1.new), (.bool (doSt r 2 xa xx 0).2.1.did)] 52)).below (Below.refl _ _).drew) (w1 := w1) (fun k hk => ⟨(hown k hk).1, (hown k hk).2.1⟩) ((B1.alloc B1.size _).alloc (le_alloc B1.size _) _).drew (by show w1.heap.size ≤ ((w1.alloc (.cells #[(.slice A1 (doSt r 2 xa xx 0).1.cs.length c1), (.int .i64 (doSt r 2 xa xx 0).1.most), (.slice A1' (doSt r 2 xa xx 0).1.hist.length c1')] 32)).alloc (.cells #[(.int .i64 (doSt r 2 xa xx 0).2.1.op), (.int .i64 (doSt r 2 xa xx 0).2.1.at_), (.int .u64 (doSt r 2 xa xx 0).2.1.old), (.int .u64 (doSt r 2 xa xx 0).2.1.new), (.bool (doSt r 2 xa xx 0).2.1.did)] 52)).heap.size; simp; omega) hws (p := w.heap.size + 1 + 1) (by omega) (by show _ < ((w1.alloc (.cells #[(.slice A1 (doSt r 2 xa xx 0).1.cs.length c1), (.int .i64 (doSt r 2 xa xx 0).1.most), (.slice A1' (doSt r 2 xa xx 0).1.hist.length c1')] 32)).alloc (.cells #[(.int .i64 (doSt r 2 xa xx 0).2.1.op), (.int .i64 (doSt r 2 xa xx 0).2.1.at_), (.int .u64 (doSt r 2 xa xx 0).2.1.old), (.int .u64 (doSt r 2 xa xx 0).2.1.new), (.bool (doSt r 2 xa xx 0).2.1.did)] 52)).heap.size; simp; omega) (fun hk => (hown _ hk).2.2 rfl) hE0 (size_three _ _ _ _ _)
    have rsE := ((rs2.set 0 (.slice A1 (doSt r 2 xa xx 0).1.cs.length c1)).set 1 (.int .i64 (doSt r 2 xa xx 0).1.most)).set 2 (.slice A1' (doSt r 2 xa xx 0).1.hist.length c1')
    have v0 := rsE.cell 0
    have v1 := rsE.cell 1
    have v2 := rsE.cell 2
    simp at v0 v1 v2
    clear hown hE0 ho1 hr1 hB1 B1 nF nb2 na2 rs2 rs1 rsE hws
    have hfin : ∀ ok, ∃ ok', ActPost F w (.agg #[.slice A0 r.cs.length c0, .int .i64 r.most, .slice A0' r.hist.length c0']) (doSt s 2 xa xx 0).1 (doSt r 2 xa xx 0).1 ok' (.returned (.tuple #[.pointer (some ⟨b, 0, none⟩), (.agg #[(.slice A1 (doSt r 2 xa xx 0).1.cs.length c1), (.int .i64 (doSt r 2 xa xx 0).1.most), (.slice A1' (doSt r 2 xa xx 0).1.hist.length c1')]), .bool ok]))
        ((((w2.setCell ⟨w.heap.size + 1 + 1, 0, none⟩ (.slice A1 (doSt r 2 xa xx 0).1.cs.length c1)).setCell ⟨w.heap.size + 1 + 1, 1, none⟩ (.int .i64 (doSt r 2 xa xx 0).1.most)).setCell ⟨w.heap.size + 1 + 1, 2, none⟩ (.slice A1' (doSt r 2 xa xx 0).1.hist.length c1'))) := fun ok => ⟨ok, _, _, _, rfl, hdone.1, hdone.2.1, hdone.2.2⟩
    clear hdone
    rename_i hHeld
    clear hHeld
    go_wp2
    exact bodyPost_ret (v := .tuple #[.pointer (some ⟨b, 0, none⟩), (.agg #[(.slice A1 (doSt r 2 xa xx 0).1.cs.length c1), (.int .i64 (doSt r 2 xa xx 0).1.most), (.slice A1' (doSt r 2 xa xx 0).1.hist.length c1')]), .bool true]) (by simp [results, Try.results13, go_sem, v0, v1, v2]) rfl (hfin _)
  · have ce1 : ((doSt s 2 xa xx 0).2.2 == (doSt r 2 xa xx 0).2.2) = false := by simpa using ce
    go_region_held3 (fun w' => w'.cell? ⟨w1.heap.size, 0, none⟩ = some (.slice A1 (doSt r 2 xa xx 0).1.cs.length c1) ∧ w'.cell? ⟨w1.heap.size, 1, none⟩ = some (.int .i64 (doSt r 2 xa xx 0).1.most) ∧ w'.cell? ⟨w1.heap.size, 2, none⟩ = some (.slice A1' (doSt r 2 xa xx 0).1.hist.length c1') ∧ w'.cell? ⟨w.heap.size + 1, 1, none⟩ = some (.int .i64 xa) ∧ w'.cell? ⟨w.heap.size + 1, 2, none⟩ = some (.int .u64 xx))
      (first
          | with_reducible exact ⟨y0, y1, y2, p1, p2⟩
          | with_reducible exact ⟨x0, x1, x2, q1, q2⟩
          | ((refine ⟨?_, ?_, ?_, ?_, ?_⟩ <;> (repeat (rw [World.cell?_setCell_far _ _ _ _ (by with_reducible first | exact nn0 | exact nn2)]))) <;> with_reducible (first | assumption | exact y0 | exact y1 | exact y2 | exact p1 | exact p2))
          | go_keep)
      ((first
        | (go_at_call 16
           refine (Store_do xa xx (h.cell ((B1.alloc B1.size _).alloc (le_alloc B1.size _) _).drew) hhs).mono ?_
           rintro e w2 ⟨rfl, hws⟩
           have hs1 := B1.size
           have hsA := hB1.size
           simp only [World.size_alloc] at hsA
           have nF : ∀ k, w.heap.size ≤ k → k ≤ w1.heap.size + 1 → ¬ upF F w.heap.size ((w1.alloc (.cells #[(.slice A1 (doSt r 2 xa xx 0).1.cs.length c1), (.int .i64 (doSt r 2 xa xx 0).1.most), (.slice A1' (doSt r 2 xa xx 0).1.hist.length c1')] 32)).alloc (.cells #[(.int .i64 (doSt r 2 xa xx 0).2.1.op), (.int .i64 (doSt r 2 xa xx 0).2.1.at_), (.int .u64 (doSt r 2 xa xx 0).2.1.old), (.int .u64 (doSt r 2 xa xx 0).2.1.new), (.bool (doSt r 2 xa xx 0).2.1.did)] 52)).heap.size k := fun k h1 h2 => by
             rintro (⟨_, h3⟩ | h3)
             · omega
             · simp only [World.size_alloc] at h3; omega
           have nb2 := ((Blk.new w1 32 #[(.slice A1 (doSt r 2 xa xx 0).1.cs.length c1), (.int .i64 (doSt r 2 xa xx 0).1.most), (.slice A1' (doSt r 2 xa xx 0).1.hist.length c1')]).alloc (.cells #[(.int .i64 (doSt r 2 xa xx 0).2.1.op), (.int .i64 (doSt r 2 xa xx 0).2.1.at_), (.int .u64 (doSt r 2 xa xx 0).2.1.old), (.int .u64 (doSt r 2 xa xx 0).2.1.new), (.bool (doSt r 2 xa xx 0).2.1.did)] 52)).drew.keep (hws.keep.block _ (by simp; omega) (nF _ hs1 (by omega)))
           have na2 := (Blk.new (w1.alloc (.cells #[(.slice A1 (doSt r 2 xa xx 0).1.cs.length c1), (.int .i64 (doSt r 2 xa xx 0).1.most), (.slice A1' (doSt r 2 xa xx 0).1.hist.length c1')] 32)) 52 #[(.int .i64 (doSt r 2 xa xx 0).2.1.op), (.int .i64 (doSt r 2 xa xx 0).2.1.at_), (.int .u64 (doSt r 2 xa xx 0).2.1.old), (.int .u64 (doSt r 2 xa xx 0).2.1.new), (.bool (doSt r 2 xa xx 0).2.1.did)]).keep (hws.keep.block _ (by simp) (nF _ (by simp; omega) (by simp)))
           rw [World.size_alloc] at na2
           have y3 := na2.cell 2
           have y4 := na2.cell 4
           have rs2 := ((rs1.alloc (.cells #[(.slice A1 (doSt r 2 xa xx 0).1.cs.length c1), (.int .i64 (doSt r 2 xa xx 0).1.most), (.slice A1' (doSt r 2 xa xx 0).1.hist.length c1')] 32)).alloc (.cells #[(.int .i64 (doSt r 2 xa xx 0).2.1.op), (.int .i64 (doSt r 2 xa xx 0).2.1.at_), (.int .u64 (doSt r 2 xa xx 0).2.1.old), (.int .u64 (doSt r 2 xa xx 0).2.1.new), (.bool (doSt r 2 xa xx 0).2.1.did)] 52)).drew.keep (hws.keep.block _ (by simp; omega) (nF _ (by omega) (by omega)))
           have y0 := nb2.cell 0
           have y1 := nb2.cell 1
           have y2 := nb2.cell 2
           have z0 := rs2.cell 0
           have z1 := rs2.cell 1
           have z2 := rs2.cell 2
           have f0 := rs2.frozen 0
           have f1 := rs2.frozen 1
           have f2 := rs2.frozen 2
           simp at y0 y1 y2 y3 y4 z0 z1 z2
           have bx2 := ((bx1.alloc (.cells #[(.slice A1 (doSt r 2 xa xx 0).1.cs.length c1), (.int .i64 (doSt r 2 xa xx 0).1.most), (.slice A1' (doSt r 2 xa xx 0).1.hist.length c1')] 32)).alloc (.cells #[(.int .i64 (doSt r 2 xa xx 0).2.1.op), (.int .i64 (doSt r 2 xa xx 0).2.1.at_), (.int .u64 (doSt r 2 xa xx 0).2.1.old), (.int .u64 (doSt r 2 xa xx 0).2.1.new), (.bool (doSt r 2 xa xx 0).2.1.did)] 52)).drew.keep (hws.keep.block _ (by simp; omega) (nF _ (by omega) (by omega)))
           have p1 := bx2.cell 1
           have p2 := bx2.cell 2
           simp at p1 p2)
        | (go_at_call 12; refine (num_any _ _).mono ?_; rintro e w' ⟨rfl, rfl⟩)))
    have hE0 := (Keep.three w2 (w.heap.size + 1 + 1) (.slice A1 (doSt r 2 xa xx 0).1.cs.length c1) (.int .i64 (doSt r 2 xa xx 0).1.most) (.slice A1' (doSt r 2 xa xx 0).1.hist.length c1'))
    have hown : ∀ k, ownR (.agg #[(.slice A1 (doSt r 2 xa xx 0).1.cs.length c1), (.int .i64 (doSt r 2 xa xx 0).1.most), (.slice A1' (doSt r 2 xa xx 0).1.hist.length c1')]) k → k < w1.heap.size ∧ (ownR (.agg #[.slice A0 r.cs.length c0, .int .i64 r.most, .slice A0' r.hist.length c0']) k ∨ w.heap.size ≤ k) ∧ k ≠ w.heap.size + 1 + 1 := fun k hk => by
      have hl := hr1.lt k hk
      refine ⟨hl, ?_, ?_⟩
      · refine (ho1 k hk).imp id (fun e => ?_)
        simp only [World.size_alloc] at e; omega
      · rintro rfl
        rcases ho1 _ hk with e | e
        · have := h.ref.lt _ e; omega
        · simp only [World.size_alloc] at e; omega
    have hdone := h.done (((hr1.alloc (.cells #[(.slice A1 (doSt r 2 xa xx 0).1.cs.length c1), (.int .i64 (doSt r 2 xa xx 0).1.most), (.slice A1' (doSt r 2 xa xx 0).1.hist.length c1')] 32)).alloc (.cells #[(.int .i64 (doSt r 2 xa xx 0).2.1.op), (.int .i64 (doSt r 2 xa xx 0).2.1.at_), (.int .u64 (doSt r 2 xa xx 0).2.1.old), (.int .u64 (doSt r 2 xa xx 0).2.1.new), (.bool (doSt r 2 xa xx 0).2.1.did)] 52)).below (Below.refl _ _).drew) (w1 := w1) (fun k hk => ⟨(hown k hk).1, (hown k hk).2.1⟩) ((B1.alloc B1.size _).alloc (le_alloc B1.size _) _).drew (by show w1.heap.size ≤ ((w1.alloc (.cells #[(.slice A1 (doSt r 2 xa xx 0).1.cs.length c1), (.int .i64 (doSt r 2 xa xx 0).1.most), (.slice A1' (doSt r 2 xa xx 0).1.hist.length c1')] 32)).alloc (.cells #[(.int .i64 (doSt r 2 xa xx 0).2.1.op), (.int .i64 (doSt r 2 xa xx 0).2.1.at_), (.int .u64 (doSt r 2 xa xx 0).2.1.old), (.int .u64 (doSt r 2 xa xx 0).2.1.new), (.bool (doSt r 2 xa xx 0).2.1.did)] 52)).heap.size; simp; omega) hws (p := w.heap.size + 1 + 1) (by omega) (by show _ < ((w1.alloc (.cells #[(.slice A1 (doSt r 2 xa xx 0).1.cs.length c1), (.int .i64 (doSt r 2 xa xx 0).1.most), (.slice A1' (doSt r 2 xa xx 0).1.hist.length c1')] 32)).alloc (.cells #[(.int .i64 (doSt r 2 xa xx 0).2.1.op), (.int .i64 (doSt r 2 xa xx 0).2.1.at_), (.int .u64 (doSt r 2 xa xx 0).2.1.old), (.int .u64 (doSt r 2 xa xx 0).2.1.new), (.bool (doSt r 2 xa xx 0).2.1.did)] 52)).heap.size; simp; omega) (fun hk => (hown _ hk).2.2 rfl) hE0 (size_three _ _ _ _ _)
    have rsE := ((rs2.set 0 (.slice A1 (doSt r 2 xa xx 0).1.cs.length c1)).set 1 (.int .i64 (doSt r 2 xa xx 0).1.most)).set 2 (.slice A1' (doSt r 2 xa xx 0).1.hist.length c1')
    have v0 := rsE.cell 0
    have v1 := rsE.cell 1
    have v2 := rsE.cell 2
    simp at v0 v1 v2
    clear hown hE0 ho1 hr1 hB1 B1 nF nb2 na2 rs2 rs1 rsE hws
    have hfin : ∀ ok, ∃ ok', ActPost F w (.agg #[.slice A0 r.cs.length c0, .int .i64 r.most, .slice A0' r.hist.length c0']) (doSt s 2 xa xx 0).1 (doSt r 2 xa xx 0).1 ok' (.returned (.tuple #[.pointer (some ⟨b, 0, none⟩), (.agg #[(.slice A1 (doSt r 2 xa xx 0).1.cs.length c1), (.int .i64 (doSt r 2 xa xx 0).1.most), (.slice A1' (doSt r 2 xa xx 0).1.hist.length c1')]), .bool ok]))
        ((((w2.setCell ⟨w.heap.size + 1 + 1, 0, none⟩ (.slice A1 (doSt r 2 xa xx 0).1.cs.length c1)).setCell ⟨w.heap.size + 1 + 1, 1, none⟩ (.int .i64 (doSt r 2 xa xx 0).1.most)).setCell ⟨w.heap.size + 1 + 1, 2, none⟩ (.slice A1' (doSt r 2 xa xx 0).1.hist.length c1'))) := fun ok => ⟨ok, _, _, _, rfl, hdone.1, hdone.2.1, hdone.2.2⟩
    clear hdone
    rename_i hHeld
    clear hHeld
    go_wp2
    exact bodyPost_ret (v := .tuple #[.pointer (some ⟨b, 0, none⟩), (.agg #[(.slice A1 (doSt r 2 xa xx 0).1.cs.length c1), (.int .i64 (doSt r 2 xa xx 0).1.most), (.slice A1' (doSt r 2 xa xx 0).1.hist.length c1')]), .bool false]) (by simp [results, Try.results13, go_sem, v0, v1, v2]) rfl (hfin _)
end Go.Proofs.Ytbojbhjaeekjpaa
