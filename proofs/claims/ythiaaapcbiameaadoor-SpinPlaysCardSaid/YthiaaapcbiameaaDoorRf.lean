/- The document's own arena: Swap, Load, Store; its own locks: New, Try, Free, Held. -/
import Derived.Test.YthiaaapcbiameaaDoorRe
import Derived.Test.YthiaaapcbiameaaDoorSf
namespace Go.Proofs.YthiaaapcbiameaaDoor
open Go.RowKit Go.Shelf
attribute [local go_sem] Oper.semAt_some

theorem RefS.alloc {w : World} {v : Value} {s : St} (h : RefS w v s) (o : Obj) : RefS (w.alloc o) v s := h.below ((Below.refl _ _).alloc (Nat.le_refl _) _)
theorem Keep.three (w : World) (p : Nat) (x y z : Value) : Keep (fun k => k = p) w (((w.setCell ⟨p, 0, none⟩ x).setCell ⟨p, 1, none⟩ y).setCell ⟨p, 2, none⟩ z) :=
  (((Keep.refl (fun k => k = p) w).setCell (p := ⟨p, 0, none⟩) (.inl rfl) x).setCell (p := ⟨p, 1, none⟩) (.inl rfl) y).setCell (p := ⟨p, 2, none⟩) (.inl rfl) z
theorem ownR_ne {w : World} {v : Value} {s : St} {p : Nat} {cs : Array Value} (h : RefS w v s) (hb : Blk w p 31 cs) : ¬ ownR v p := by
  obtain ⟨⟨vC, vL, rfl, hc, hl⟩, _, _⟩ := h
  intro hk
  rcases hk.parts with e | e
  · exact hc.ne_blk hb (by decide) e
  · exact hl.ne_blk hb (by decide) e
theorem RefS.three {w : World} {v x y z : Value} {s : St} {p : Nat} {cs : Array Value} (h : RefS w v s) (hb : Blk w p 31 cs) : RefS (((w.setCell ⟨p, 0, none⟩ x).setCell ⟨p, 1, none⟩ y).setCell ⟨p, 2, none⟩ z) v s :=
  h.keep (fun k hk => (Keep.three w p x y z).block k (h.lt k hk) (fun e => ownR_ne h hb (e ▸ hk)))
theorem blk_three {w : World} {p : Nat} {a0 a1 a2 x y z : Value} {ty : TypeId} (hb : Blk w p ty #[a0, a1, a2]) : Blk (((w.setCell ⟨p, 0, none⟩ x).setCell ⟨p, 1, none⟩ y).setCell ⟨p, 2, none⟩ z) p ty #[x, y, z] := by
  have := ((hb.set 0 x).set 1 y).set 2 z
  simpa using this

/-- What one of the document's calls leaves: a value, told as mk says. -/
def RefOut (w : World) (v : Value) (s' : St) (mk : Value → Array Value) (e : Ending) (w' : World) : Prop := ∃ v', e = .returned (.tuple (mk v')) ∧ RefS w' v' s' ∧ Below w.heap.size w w' ∧ (∀ k, ownR v' k → ownR v k ∨ w.heap.size ≤ k)
/-- The end of each: the answer was laid in the block behind the box. -/
theorem ref_out {w w2 w3 W : World} {v v1 : Value} {s' : St} {x y z a0 a1 a2 : Value} {mk : Value → Array Value} (hs2 : w2.heap.size = w.heap.size + 2) (hB2 : Below w.heap.size w w2) (hr1 : RefS w3 v1 s') (hB1 : Below w2.heap.size w2 w3) (ho1 : ∀ k, ownR v1 k → ownR v k ∨ w2.heap.size ≤ k) (hv : v1 = .agg #[x, y, z])
    (hW : Below w3.heap.size w3 W) (hb : Blk W (w.heap.size + 1) 31 #[a0, a1, a2]) (hlt : ∀ k, ownR v k → k < w.heap.size) :
    RefOut w v s' mk (.returned (.tuple (mk v1))) (((W.setCell ⟨w.heap.size + 1, 0, none⟩ x).setCell ⟨w.heap.size + 1, 1, none⟩ y).setCell ⟨w.heap.size + 1, 2, none⟩ z) ∧
    Blk (((W.setCell ⟨w.heap.size + 1, 0, none⟩ x).setCell ⟨w.heap.size + 1, 1, none⟩ y).setCell ⟨w.heap.size + 1, 2, none⟩ z) (w.heap.size + 1) 31 #[x, y, z] := by
  have hB3 : Below w.heap.size w W := (hB2.trans (hB1.mono (by omega))).trans (hW.mono (by have := hB1.size; omega))
  exact ⟨⟨v1, rfl, (hr1.below hW).three hb, ((hB3.setCell (p := ⟨w.heap.size + 1, 0, none⟩) (by simp) _).setCell (p := ⟨w.heap.size + 1, 1, none⟩) (by simp) _).setCell (p := ⟨w.heap.size + 1, 2, none⟩) (by simp) _, fun k hk => (ho1 k hk).imp id (fun e => by omega)⟩, blk_three hb⟩
theorem RefOut.drew {w : World} {v : Value} {s' : St} {mk : Value → Array Value} {e : Ending} {w' : World} (h : RefOut w v s' mk e w') (n : Nat) : RefOut w v s' mk e (w'.drewN n) := by
  obtain ⟨v', h1, h2, h3, h4⟩ := h
  exact ⟨v', h1, h2.keep (fun _ _ => rfl), below_drewN h3 n, h4⟩

theorem RefOut.alloc {w : World} {v : Value} {s' : St} {mk : Value → Array Value} {e : Ending} {w' : World} (h : RefOut w v s' mk e w') (o : Obj) : RefOut w v s' mk e (w'.alloc o) := by
  obtain ⟨v', h1, h2, h3, h4⟩ := h
  exact ⟨v', h1, h2.alloc o, h3.alloc h3.size o, h4⟩

set_option maxRecDepth 100000 in
set_option maxHeartbeats 1600000 in
theorem refNew3 {s : St} {v : Value} (w : World) (h : RefS w v s) : Calls Tryd.prog 21 #[v] w (RefOut w v (allocSt s 1).1 (fun u => #[u, .int .i64 (allocSt s 1).2.1, .int .i64 (allocSt s 1).2.2])) := by
  have hlt := h.lt
  obtain ⟨A0, c0, A0', c0', rfl⟩ := h.form
  have BA : Below w.heap.size w ((w.alloc (.cells #[.slice A0 s.cs.length c0, .int .i64 s.most, .slice A0' s.hist.length c0'] 31)).alloc (.cells #[.slice none 0 0, .int .i64 0, .slice none 0 0] 31)) := ((Below.refl _ _).alloc (Nat.le_refl _) _).alloc (by simp) _
  have hrA := h.below BA
  have rsA := Blk.new (w.alloc (.cells #[.slice A0 s.cs.length c0, .int .i64 s.most, .slice A0' s.hist.length c0'] 31)) 31 #[.slice none 0 0, .int .i64 0, .slice none 0 0]
  rw [World.size_alloc] at rsA
  have hsA : ((w.alloc (.cells #[.slice A0 s.cs.length c0, .int .i64 s.most, .slice A0' s.hist.length c0'] 31)).alloc (.cells #[.slice none 0 0, .int .i64 0, .slice none 0 0] 31)).heap.size = w.heap.size + 2 := by simp
  go_enter Tryd.func21, Tryd.ntmps21
  go_wp2_with (go_at_call 41; refine (refAlloc 1 _ hrA).mono ?_; rintro e w3 ⟨v1, rfl, hr1, hB1, ho1⟩; obtain ⟨A1, c1, A1', c1', rfl⟩ := hr1.form; have rs1 := rsA.keep (hB1.block _ rsA.lt); have z0 := rs1.cell 0; have z1 := rs1.cell 1; have z2 := rs1.cell 2; have f0 := rs1.frozen 0; have f1 := rs1.frozen 1; have f2 := rs1.frozen 2; have nl := rs1.lt; simp at z0 z1 z2)
  obtain ⟨hfin, hb⟩ := ref_out (mk := fun u => #[u, .int .i64 (allocSt s 1).2.1, .int .i64 (allocSt s 1).2.2]) hsA BA hr1 hB1 ho1 rfl (Below.refl _ _) rs1 hlt
  have q0 := hb.cell 0
  have q1 := hb.cell 1
  have q2 := hb.cell 2
  simp at q0 q1 q2
  exact bodyPost_ret (v := .tuple #[.agg #[.slice A1 (allocSt s 1).1.cs.length c1, .int .i64 (allocSt s 1).1.most, .slice A1' (allocSt s 1).1.hist.length c1'], .int .i64 (allocSt s 1).2.1, .int .i64 (allocSt s 1).2.2]) (by simp [results, Tryd.results21, go_sem, q0, q1, q2]) rfl hfin

set_option maxRecDepth 100000 in
set_option maxHeartbeats 1600000 in
theorem refSwap {s : St} {v : Value} (j x y : Int) (w : World) (h : RefS w v s) (hh : s.hist.length < 1000000000) : Calls Tryd.prog 42 #[v, .int .i64 j, .int .u64 x, .int .u64 y] w (RefOut w v (doSt s 3 j x y).1 (fun u => #[u, .int .u64 (doSt s 3 j x y).2.1.old, .bool (doSt s 3 j x y).2.1.did, .int .i64 (doSt s 3 j x y).2.2])) := by
  have hlt := h.lt
  obtain ⟨A0, c0, A0', c0', rfl⟩ := h.form
  have BA : Below w.heap.size w ((w.alloc (.cells #[.slice A0 s.cs.length c0, .int .i64 s.most, .slice A0' s.hist.length c0'] 31)).alloc (.cells #[.slice none 0 0, .int .i64 0, .slice none 0 0] 31)) := ((Below.refl _ _).alloc (Nat.le_refl _) _).alloc (by simp) _
  have hrA := h.below BA
  have rsA := Blk.new (w.alloc (.cells #[.slice A0 s.cs.length c0, .int .i64 s.most, .slice A0' s.hist.length c0'] 31)) 31 #[.slice none 0 0, .int .i64 0, .slice none 0 0]
  rw [World.size_alloc] at rsA
  have hsA : ((w.alloc (.cells #[.slice A0 s.cs.length c0, .int .i64 s.most, .slice A0' s.hist.length c0'] 31)).alloc (.cells #[.slice none 0 0, .int .i64 0, .slice none 0 0] 31)).heap.size = w.heap.size + 2 := by simp
  go_enter Tryd.func42, Tryd.ntmps42
  go_wp2_with (go_at_call 44; refine (refDo 3 j x y _ hrA (by simp) hh).mono ?_; rintro e w3 ⟨v1, rfl, hr1, hB1, ho1⟩; obtain ⟨A1, c1, A1', c1', rfl⟩ := hr1.form; unfold Acc.val; have rs1 := rsA.keep (hB1.block _ rsA.lt); have z0 := rs1.cell 0; have z1 := rs1.cell 1; have z2 := rs1.cell 2; have f0 := rs1.frozen 0; have f1 := rs1.frozen 1; have f2 := rs1.frozen 2; have nl := rs1.lt; simp at z0 z1 z2)
  have BW : Below w3.heap.size w3 ((w3.alloc (.cells #[.slice A1 (doSt s 3 j x y).1.cs.length c1, .int .i64 (doSt s 3 j x y).1.most, .slice A1' (doSt s 3 j x y).1.hist.length c1'] 31)).alloc (.cells #[.int .i64 (doSt s 3 j x y).2.1.op, .int .i64 (doSt s 3 j x y).2.1.at_, .int .u64 (doSt s 3 j x y).2.1.old, .int .u64 (doSt s 3 j x y).2.1.new, .bool (doSt s 3 j x y).2.1.did] 98)) := ((Below.refl _ _).alloc (Nat.le_refl _) _).alloc (by simp) _
  have rsW := rs1.keep (BW.block _ rs1.lt)
  obtain ⟨hfin, hb⟩ := ref_out (mk := fun u => #[u, .int .u64 (doSt s 3 j x y).2.1.old, .bool (doSt s 3 j x y).2.1.did, .int .i64 (doSt s 3 j x y).2.2]) hsA BA hr1 hB1 ho1 rfl BW rsW hlt
  have n1 : w.heap.size + 1 ≠ w3.heap.size := by omega
  have n3 : w.heap.size ≠ w3.heap.size := by omega
  have n2 : w.heap.size + 1 ≠ w3.heap.size + 1 := by omega
  have oW := (Blk.new w3 31 #[.slice A1 (doSt s 3 j x y).1.cs.length c1, .int .i64 (doSt s 3 j x y).1.most, .slice A1' (doSt s 3 j x y).1.hist.length c1']).alloc (.cells #[.int .i64 (doSt s 3 j x y).2.1.op, .int .i64 (doSt s 3 j x y).2.1.at_, .int .u64 (doSt s 3 j x y).2.1.old, .int .u64 (doSt s 3 j x y).2.1.new, .bool (doSt s 3 j x y).2.1.did] 98)
  have aW := Blk.new (w3.alloc (.cells #[.slice A1 (doSt s 3 j x y).1.cs.length c1, .int .i64 (doSt s 3 j x y).1.most, .slice A1' (doSt s 3 j x y).1.hist.length c1'] 31)) 98 #[.int .i64 (doSt s 3 j x y).2.1.op, .int .i64 (doSt s 3 j x y).2.1.at_, .int .u64 (doSt s 3 j x y).2.1.old, .int .u64 (doSt s 3 j x y).2.1.new, .bool (doSt s 3 j x y).2.1.did]
  rw [World.size_alloc] at aW
  have p0 := oW.cell 0
  have p1 := oW.cell 1
  have p2 := oW.cell 2
  have p3 := aW.cell 2
  have p4 := aW.cell 4
  have t0 := rsW.cell 0
  have t1 := rsW.cell 1
  have t2 := rsW.cell 2
  have g0 := rsW.frozen 0
  have g1 := rsW.frozen 1
  have g2 := rsW.frozen 2
  simp only [List.getElem?_toArray, List.getElem?_cons_zero, List.getElem?_cons_succ] at p0 p1 p2 p3 p4 t0 t1 t2
  have q0 := hb.cell 0
  have q1 := hb.cell 1
  have q2 := hb.cell 2
  simp only [List.getElem?_toArray, List.getElem?_cons_zero, List.getElem?_cons_succ] at q0 q1 q2
  have Hq := Lib.hid (And.intro q0 (And.intro q1 q2))
  have HF := Lib.hid (hfin.drew 1)
  clear hfin hb q0 q1 q2 rsW rs1 z0 z1 z2 f0 f1 f2 oW aW hr1 ho1 hB1 BW
  revert p0 p1 p2 p3 p4 t0 t1 t2 g0 g1 g2 Hq HF
  generalize ((w3.alloc (.cells #[.slice A1 (doSt s 3 j x y).1.cs.length c1, .int .i64 (doSt s 3 j x y).1.most, .slice A1' (doSt s 3 j x y).1.hist.length c1'] 31)).alloc (.cells #[.int .i64 (doSt s 3 j x y).2.1.op, .int .i64 (doSt s 3 j x y).2.1.at_, .int .u64 (doSt s 3 j x y).2.1.old, .int .u64 (doSt s 3 j x y).2.1.new, .bool (doSt s 3 j x y).2.1.did] 98)) = W
  intro p0 p1 p2 p3 p4 t0 t1 t2 g0 g1 g2 Hq HF
  go_region_held3 (fun w' => w'.cell? ⟨w3.heap.size, 0, none⟩ = some (.slice A1 (doSt s 3 j x y).1.cs.length c1) ∧ w'.cell? ⟨w3.heap.size, 1, none⟩ = some (.int .i64 (doSt s 3 j x y).1.most) ∧ w'.cell? ⟨w3.heap.size, 2, none⟩ = some (.slice A1' (doSt s 3 j x y).1.hist.length c1') ∧ w'.cell? ⟨w3.heap.size + 1, 2, none⟩ = some (.int .u64 (doSt s 3 j x y).2.1.old) ∧ w'.cell? ⟨w3.heap.size + 1, 4, none⟩ = some (.bool (doSt s 3 j x y).2.1.did))
    (first
      | with_reducible exact ⟨p0, p1, p2, p3, p4⟩
      | ((refine ⟨?_, ?_, ?_, ?_, ?_⟩ <;> (repeat (rw [World.cell?_setCell_far _ _ _ _ (by first | with_reducible exact n1 | with_reducible exact n2 | (simp only; omega) | omega)]))) <;> with_reducible (first | assumption | exact p0 | exact p1 | exact p2 | exact p3 | exact p4))
      | go_keep)
    (fail)
  rename_i hHeld
  clear hHeld
  go_wp2
  exact bodyPost_ret (v := .tuple (#[.agg #[.slice A1 (doSt s 3 j x y).1.cs.length c1, .int .i64 (doSt s 3 j x y).1.most, .slice A1' (doSt s 3 j x y).1.hist.length c1'], .int .u64 (doSt s 3 j x y).2.1.old, .bool (doSt s 3 j x y).2.1.did, .int .i64 (doSt s 3 j x y).2.2])) (by simp [results, Tryd.results42, go_sem, Hq.out]) rfl HF.out

set_option maxRecDepth 100000 in
set_option maxHeartbeats 1600000 in
theorem refLoad {s : St} {v : Value} (j : Int) (w : World) (h : RefS w v s) (hh : s.hist.length < 1000000000) : Calls Tryd.prog 43 #[v, .int .i64 j] w (RefOut w v (doSt s 1 j 0 0).1 (fun u => #[u, .int .u64 (doSt s 1 j 0 0).2.1.old, .int .i64 (doSt s 1 j 0 0).2.2])) := by
  have hlt := h.lt
  obtain ⟨A0, c0, A0', c0', rfl⟩ := h.form
  have BA : Below w.heap.size w ((w.alloc (.cells #[.slice A0 s.cs.length c0, .int .i64 s.most, .slice A0' s.hist.length c0'] 31)).alloc (.cells #[.slice none 0 0, .int .i64 0, .slice none 0 0] 31)) := ((Below.refl _ _).alloc (Nat.le_refl _) _).alloc (by simp) _
  have hrA := h.below BA
  have rsA := Blk.new (w.alloc (.cells #[.slice A0 s.cs.length c0, .int .i64 s.most, .slice A0' s.hist.length c0'] 31)) 31 #[.slice none 0 0, .int .i64 0, .slice none 0 0]
  rw [World.size_alloc] at rsA
  have hsA : ((w.alloc (.cells #[.slice A0 s.cs.length c0, .int .i64 s.most, .slice A0' s.hist.length c0'] 31)).alloc (.cells #[.slice none 0 0, .int .i64 0, .slice none 0 0] 31)).heap.size = w.heap.size + 2 := by simp
  go_enter Tryd.func43, Tryd.ntmps43
  go_wp2_with (go_at_call 44; refine (refDo 1 j 0 0 _ hrA (by simp) hh).mono ?_; rintro e w3 ⟨v1, rfl, hr1, hB1, ho1⟩; obtain ⟨A1, c1, A1', c1', rfl⟩ := hr1.form; unfold Acc.val; have rs1 := rsA.keep (hB1.block _ rsA.lt); have z0 := rs1.cell 0; have z1 := rs1.cell 1; have z2 := rs1.cell 2; have f0 := rs1.frozen 0; have f1 := rs1.frozen 1; have f2 := rs1.frozen 2; have nl := rs1.lt; simp at z0 z1 z2)
  have BW : Below w3.heap.size w3 ((w3.alloc (.cells #[.slice A1 (doSt s 1 j 0 0).1.cs.length c1, .int .i64 (doSt s 1 j 0 0).1.most, .slice A1' (doSt s 1 j 0 0).1.hist.length c1'] 31)).alloc (.cells #[.int .i64 (doSt s 1 j 0 0).2.1.op, .int .i64 (doSt s 1 j 0 0).2.1.at_, .int .u64 (doSt s 1 j 0 0).2.1.old, .int .u64 (doSt s 1 j 0 0).2.1.new, .bool (doSt s 1 j 0 0).2.1.did] 98)) := ((Below.refl _ _).alloc (Nat.le_refl _) _).alloc (by simp) _
  have rsW := rs1.keep (BW.block _ rs1.lt)
  obtain ⟨hfin, hb⟩ := ref_out (mk := fun u => #[u, .int .u64 (doSt s 1 j 0 0).2.1.old, .int .i64 (doSt s 1 j 0 0).2.2]) hsA BA hr1 hB1 ho1 rfl BW rsW hlt
  have n1 : w.heap.size + 1 ≠ w3.heap.size := by omega
  have n3 : w.heap.size ≠ w3.heap.size := by omega
  have n2 : w.heap.size + 1 ≠ w3.heap.size + 1 := by omega
  have oW := (Blk.new w3 31 #[.slice A1 (doSt s 1 j 0 0).1.cs.length c1, .int .i64 (doSt s 1 j 0 0).1.most, .slice A1' (doSt s 1 j 0 0).1.hist.length c1']).alloc (.cells #[.int .i64 (doSt s 1 j 0 0).2.1.op, .int .i64 (doSt s 1 j 0 0).2.1.at_, .int .u64 (doSt s 1 j 0 0).2.1.old, .int .u64 (doSt s 1 j 0 0).2.1.new, .bool (doSt s 1 j 0 0).2.1.did] 98)
  have aW := Blk.new (w3.alloc (.cells #[.slice A1 (doSt s 1 j 0 0).1.cs.length c1, .int .i64 (doSt s 1 j 0 0).1.most, .slice A1' (doSt s 1 j 0 0).1.hist.length c1'] 31)) 98 #[.int .i64 (doSt s 1 j 0 0).2.1.op, .int .i64 (doSt s 1 j 0 0).2.1.at_, .int .u64 (doSt s 1 j 0 0).2.1.old, .int .u64 (doSt s 1 j 0 0).2.1.new, .bool (doSt s 1 j 0 0).2.1.did]
  rw [World.size_alloc] at aW
  have p0 := oW.cell 0
  have p1 := oW.cell 1
  have p2 := oW.cell 2
  have p3 := aW.cell 2
  have p4 := aW.cell 4
  have t0 := rsW.cell 0
  have t1 := rsW.cell 1
  have t2 := rsW.cell 2
  have g0 := rsW.frozen 0
  have g1 := rsW.frozen 1
  have g2 := rsW.frozen 2
  simp only [List.getElem?_toArray, List.getElem?_cons_zero, List.getElem?_cons_succ] at p0 p1 p2 p3 p4 t0 t1 t2
  have q0 := hb.cell 0
  have q1 := hb.cell 1
  have q2 := hb.cell 2
  simp only [List.getElem?_toArray, List.getElem?_cons_zero, List.getElem?_cons_succ] at q0 q1 q2
  have Hq := Lib.hid (And.intro q0 (And.intro q1 q2))
  have HF := Lib.hid (hfin.drew 1)
  clear hfin hb q0 q1 q2 rsW rs1 z0 z1 z2 f0 f1 f2 oW aW hr1 ho1 hB1 BW
  revert p0 p1 p2 p3 p4 t0 t1 t2 g0 g1 g2 Hq HF
  generalize ((w3.alloc (.cells #[.slice A1 (doSt s 1 j 0 0).1.cs.length c1, .int .i64 (doSt s 1 j 0 0).1.most, .slice A1' (doSt s 1 j 0 0).1.hist.length c1'] 31)).alloc (.cells #[.int .i64 (doSt s 1 j 0 0).2.1.op, .int .i64 (doSt s 1 j 0 0).2.1.at_, .int .u64 (doSt s 1 j 0 0).2.1.old, .int .u64 (doSt s 1 j 0 0).2.1.new, .bool (doSt s 1 j 0 0).2.1.did] 98)) = W
  intro p0 p1 p2 p3 p4 t0 t1 t2 g0 g1 g2 Hq HF
  go_region_held3 (fun w' => w'.cell? ⟨w3.heap.size, 0, none⟩ = some (.slice A1 (doSt s 1 j 0 0).1.cs.length c1) ∧ w'.cell? ⟨w3.heap.size, 1, none⟩ = some (.int .i64 (doSt s 1 j 0 0).1.most) ∧ w'.cell? ⟨w3.heap.size, 2, none⟩ = some (.slice A1' (doSt s 1 j 0 0).1.hist.length c1') ∧ w'.cell? ⟨w3.heap.size + 1, 2, none⟩ = some (.int .u64 (doSt s 1 j 0 0).2.1.old) ∧ w'.cell? ⟨w3.heap.size + 1, 4, none⟩ = some (.bool (doSt s 1 j 0 0).2.1.did))
    (first
      | with_reducible exact ⟨p0, p1, p2, p3, p4⟩
      | ((refine ⟨?_, ?_, ?_, ?_, ?_⟩ <;> (repeat (rw [World.cell?_setCell_far _ _ _ _ (by first | with_reducible exact n1 | with_reducible exact n2 | (simp only; omega) | omega)]))) <;> with_reducible (first | assumption | exact p0 | exact p1 | exact p2 | exact p3 | exact p4))
      | go_keep)
    (fail)
  rename_i hHeld
  clear hHeld
  go_wp2
  exact bodyPost_ret (v := .tuple (#[.agg #[.slice A1 (doSt s 1 j 0 0).1.cs.length c1, .int .i64 (doSt s 1 j 0 0).1.most, .slice A1' (doSt s 1 j 0 0).1.hist.length c1'], .int .u64 (doSt s 1 j 0 0).2.1.old, .int .i64 (doSt s 1 j 0 0).2.2])) (by simp [results, Tryd.results43, go_sem, Hq.out]) rfl HF.out

set_option maxRecDepth 100000 in
set_option maxHeartbeats 1600000 in
theorem refStore {s : St} {v : Value} (j x : Int) (w : World) (h : RefS w v s) (hh : s.hist.length < 1000000000) : Calls Tryd.prog 28 #[v, .int .i64 j, .int .u64 x] w (RefOut w v (doSt s 2 j x 0).1 (fun u => #[u, .int .i64 (doSt s 2 j x 0).2.2])) := by
  have hlt := h.lt
  obtain ⟨A0, c0, A0', c0', rfl⟩ := h.form
  have BA : Below w.heap.size w ((w.alloc (.cells #[.slice A0 s.cs.length c0, .int .i64 s.most, .slice A0' s.hist.length c0'] 31)).alloc (.cells #[.slice none 0 0, .int .i64 0, .slice none 0 0] 31)) := ((Below.refl _ _).alloc (Nat.le_refl _) _).alloc (by simp) _
  have hrA := h.below BA
  have rsA := Blk.new (w.alloc (.cells #[.slice A0 s.cs.length c0, .int .i64 s.most, .slice A0' s.hist.length c0'] 31)) 31 #[.slice none 0 0, .int .i64 0, .slice none 0 0]
  rw [World.size_alloc] at rsA
  have hsA : ((w.alloc (.cells #[.slice A0 s.cs.length c0, .int .i64 s.most, .slice A0' s.hist.length c0'] 31)).alloc (.cells #[.slice none 0 0, .int .i64 0, .slice none 0 0] 31)).heap.size = w.heap.size + 2 := by simp
  go_enter Tryd.func28, Tryd.ntmps28
  go_wp2_with (go_at_call 44; refine (refDo 2 j x 0 _ hrA (by simp) hh).mono ?_; rintro e w3 ⟨v1, rfl, hr1, hB1, ho1⟩; obtain ⟨A1, c1, A1', c1', rfl⟩ := hr1.form; unfold Acc.val; have rs1 := rsA.keep (hB1.block _ rsA.lt); have z0 := rs1.cell 0; have z1 := rs1.cell 1; have z2 := rs1.cell 2; have f0 := rs1.frozen 0; have f1 := rs1.frozen 1; have f2 := rs1.frozen 2; have nl := rs1.lt; simp at z0 z1 z2; have BW : Below w3.heap.size w3 ((w3.alloc (.cells #[.slice A1 (doSt s 2 j x 0).1.cs.length c1, .int .i64 (doSt s 2 j x 0).1.most, .slice A1' (doSt s 2 j x 0).1.hist.length c1'] 31)).alloc (.cells #[.int .i64 (doSt s 2 j x 0).2.1.op, .int .i64 (doSt s 2 j x 0).2.1.at_, .int .u64 (doSt s 2 j x 0).2.1.old, .int .u64 (doSt s 2 j x 0).2.1.new, .bool (doSt s 2 j x 0).2.1.did] 98)) := ((Below.refl _ _).alloc (Nat.le_refl _) _).alloc (by simp) _; have rsW := rs1.keep (BW.block _ rs1.lt); have y0 := rsW.cell 0; have y1 := rsW.cell 1; have y2 := rsW.cell 2; have g0 := rsW.frozen 0; have g1 := rsW.frozen 1; have g2 := rsW.frozen 2; simp only [List.getElem?_toArray, List.getElem?_cons_zero, List.getElem?_cons_succ] at y0 y1 y2)
  obtain ⟨hfin, hb⟩ := ref_out (mk := fun u => #[u, .int .i64 (doSt s 2 j x 0).2.2]) hsA BA hr1 hB1 ho1 rfl BW rsW hlt
  have q0 := hb.cell 0
  have q1 := hb.cell 1
  have q2 := hb.cell 2
  simp at q0 q1 q2
  exact bodyPost_ret (v := .tuple (#[.agg #[.slice A1 (doSt s 2 j x 0).1.cs.length c1, .int .i64 (doSt s 2 j x 0).1.most, .slice A1' (doSt s 2 j x 0).1.hist.length c1'], .int .i64 (doSt s 2 j x 0).2.2])) (by simp [results, Tryd.results28, go_sem, q0, q1, q2]) rfl hfin

set_option maxRecDepth 100000 in
set_option maxHeartbeats 1600000 in
theorem refTry3 {s : St} {v : Value} (j : Int) (w : World) (h : RefS w v s) (hh : s.hist.length < 1000000000) : Calls Tryd.prog 22 #[v, .int .i64 j] w (RefOut w v (doSt s 3 j 0 1).1 (fun u => #[u, .bool (doSt s 3 j 0 1).2.1.did, .int .i64 (doSt s 3 j 0 1).2.2])) := by
  have hlt := h.lt
  obtain ⟨A0, c0, A0', c0', rfl⟩ := h.form
  have BA : Below w.heap.size w ((w.alloc (.cells #[.slice A0 s.cs.length c0, .int .i64 s.most, .slice A0' s.hist.length c0'] 31)).alloc (.cells #[.slice none 0 0, .int .i64 0, .slice none 0 0] 31)) := ((Below.refl _ _).alloc (Nat.le_refl _) _).alloc (by simp) _
  have hrA := h.below BA
  have rsA := Blk.new (w.alloc (.cells #[.slice A0 s.cs.length c0, .int .i64 s.most, .slice A0' s.hist.length c0'] 31)) 31 #[.slice none 0 0, .int .i64 0, .slice none 0 0]
  rw [World.size_alloc] at rsA
  have hsA : ((w.alloc (.cells #[.slice A0 s.cs.length c0, .int .i64 s.most, .slice A0' s.hist.length c0'] 31)).alloc (.cells #[.slice none 0 0, .int .i64 0, .slice none 0 0] 31)).heap.size = w.heap.size + 2 := by simp
  go_enter Tryd.func22, Tryd.ntmps22
  go_wp2_with (go_at_call 42; refine (refSwap j 0 1 _ hrA hh).mono ?_; rintro e w3 ⟨v1, rfl, hr1, hB1, ho1⟩; obtain ⟨A1, c1, A1', c1', rfl⟩ := hr1.form; have rs1 := rsA.keep (hB1.block _ rsA.lt); have z0 := rs1.cell 0; have z1 := rs1.cell 1; have z2 := rs1.cell 2; have f0 := rs1.frozen 0; have f1 := rs1.frozen 1; have f2 := rs1.frozen 2; have nl := rs1.lt; simp at z0 z1 z2; have BW : Below w3.heap.size w3 (w3.alloc (.cells #[.slice A1 (doSt s 3 j 0 1).1.cs.length c1, .int .i64 (doSt s 3 j 0 1).1.most, .slice A1' (doSt s 3 j 0 1).1.hist.length c1'] 31)) := (Below.refl _ _).alloc (Nat.le_refl _) _; have rsW := rs1.keep (BW.block _ rs1.lt); have y0 := rsW.cell 0; have y1 := rsW.cell 1; have y2 := rsW.cell 2; have g0 := rsW.frozen 0; have g1 := rsW.frozen 1; have g2 := rsW.frozen 2; simp only [List.getElem?_toArray, List.getElem?_cons_zero, List.getElem?_cons_succ] at y0 y1 y2)
  obtain ⟨hfin, hb⟩ := ref_out (mk := fun u => #[u, .bool (doSt s 3 j 0 1).2.1.did, .int .i64 (doSt s 3 j 0 1).2.2]) hsA BA hr1 hB1 ho1 rfl (Below.refl _ _) rs1 hlt
  replace hfin := hfin.alloc (.cells #[.slice A1 (doSt s 3 j 0 1).1.cs.length c1, .int .i64 (doSt s 3 j 0 1).1.most, .slice A1' (doSt s 3 j 0 1).1.hist.length c1'] 31)
  replace hb := hb.alloc (.cells #[.slice A1 (doSt s 3 j 0 1).1.cs.length c1, .int .i64 (doSt s 3 j 0 1).1.most, .slice A1' (doSt s 3 j 0 1).1.hist.length c1'] 31)
  have q0 := hb.cell 0
  have q1 := hb.cell 1
  have q2 := hb.cell 2
  simp at q0 q1 q2
  exact bodyPost_ret (v := .tuple (#[.agg #[.slice A1 (doSt s 3 j 0 1).1.cs.length c1, .int .i64 (doSt s 3 j 0 1).1.most, .slice A1' (doSt s 3 j 0 1).1.hist.length c1'], .bool (doSt s 3 j 0 1).2.1.did, .int .i64 (doSt s 3 j 0 1).2.2])) (by simp [results, Tryd.results22, go_sem, q0, q1, q2]) rfl hfin

set_option maxRecDepth 100000 in
set_option maxHeartbeats 1600000 in
theorem refHeld3 {s : St} {v : Value} (j : Int) (w : World) (h : RefS w v s) (hh : s.hist.length < 1000000000) : Calls Tryd.prog 24 #[v, .int .i64 j] w (RefOut w v (doSt s 1 j 0 0).1 (fun u => #[u, .bool ((doSt s 1 j 0 0).2.1.old != 0), .int .i64 (doSt s 1 j 0 0).2.2])) := by
  have hlt := h.lt
  obtain ⟨A0, c0, A0', c0', rfl⟩ := h.form
  have BA : Below w.heap.size w ((w.alloc (.cells #[.slice A0 s.cs.length c0, .int .i64 s.most, .slice A0' s.hist.length c0'] 31)).alloc (.cells #[.slice none 0 0, .int .i64 0, .slice none 0 0] 31)) := ((Below.refl _ _).alloc (Nat.le_refl _) _).alloc (by simp) _
  have hrA := h.below BA
  have rsA := Blk.new (w.alloc (.cells #[.slice A0 s.cs.length c0, .int .i64 s.most, .slice A0' s.hist.length c0'] 31)) 31 #[.slice none 0 0, .int .i64 0, .slice none 0 0]
  rw [World.size_alloc] at rsA
  have hsA : ((w.alloc (.cells #[.slice A0 s.cs.length c0, .int .i64 s.most, .slice A0' s.hist.length c0'] 31)).alloc (.cells #[.slice none 0 0, .int .i64 0, .slice none 0 0] 31)).heap.size = w.heap.size + 2 := by simp
  go_enter Tryd.func24, Tryd.ntmps24
  go_wp2_with (go_at_call 43; refine (refLoad j _ hrA hh).mono ?_; rintro e w3 ⟨v1, rfl, hr1, hB1, ho1⟩; obtain ⟨A1, c1, A1', c1', rfl⟩ := hr1.form; have rs1 := rsA.keep (hB1.block _ rsA.lt); have z0 := rs1.cell 0; have z1 := rs1.cell 1; have z2 := rs1.cell 2; have f0 := rs1.frozen 0; have f1 := rs1.frozen 1; have f2 := rs1.frozen 2; have nl := rs1.lt; simp at z0 z1 z2; have BW : Below w3.heap.size w3 (w3.alloc (.cells #[.slice A1 (doSt s 1 j 0 0).1.cs.length c1, .int .i64 (doSt s 1 j 0 0).1.most, .slice A1' (doSt s 1 j 0 0).1.hist.length c1'] 31)) := (Below.refl _ _).alloc (Nat.le_refl _) _; have rsW := rs1.keep (BW.block _ rs1.lt); have y0 := rsW.cell 0; have y1 := rsW.cell 1; have y2 := rsW.cell 2; have g0 := rsW.frozen 0; have g1 := rsW.frozen 1; have g2 := rsW.frozen 2; simp only [List.getElem?_toArray, List.getElem?_cons_zero, List.getElem?_cons_succ] at y0 y1 y2)
  obtain ⟨hfin, hb⟩ := ref_out (mk := fun u => #[u, .bool ((doSt s 1 j 0 0).2.1.old != 0), .int .i64 (doSt s 1 j 0 0).2.2]) hsA BA hr1 hB1 ho1 rfl (Below.refl _ _) rs1 hlt
  replace hfin := hfin.alloc (.cells #[.slice A1 (doSt s 1 j 0 0).1.cs.length c1, .int .i64 (doSt s 1 j 0 0).1.most, .slice A1' (doSt s 1 j 0 0).1.hist.length c1'] 31)
  replace hb := hb.alloc (.cells #[.slice A1 (doSt s 1 j 0 0).1.cs.length c1, .int .i64 (doSt s 1 j 0 0).1.most, .slice A1' (doSt s 1 j 0 0).1.hist.length c1'] 31)
  have q0 := hb.cell 0
  have q1 := hb.cell 1
  have q2 := hb.cell 2
  simp at q0 q1 q2
  exact bodyPost_ret (v := .tuple (#[.agg #[.slice A1 (doSt s 1 j 0 0).1.cs.length c1, .int .i64 (doSt s 1 j 0 0).1.most, .slice A1' (doSt s 1 j 0 0).1.hist.length c1'], .bool ((doSt s 1 j 0 0).2.1.old != 0), .int .i64 (doSt s 1 j 0 0).2.2])) (by simp [results, Tryd.results24, go_sem, q0, q1, q2]) rfl hfin

set_option maxRecDepth 100000 in
set_option maxHeartbeats 1600000 in
theorem refFree3_yes {s : St} {v : Value} (j : Int) (z : St) (old : Int) (w : World) (h : RefS w v s)
    (hc : ∀ W u, RefS W u s → Calls Tryd.prog 42 #[u, .int .i64 j, .int .u64 1, .int .u64 0] W (RefOut W u z (fun u => #[u, .int .u64 old, .bool true, .int .i64 0]))) : Calls Tryd.prog 23 #[v, .int .i64 j] w (RefOut w v z (fun u => #[u, .int .i64 0])) := by
  have hlt := h.lt
  obtain ⟨A0, c0, A0', c0', rfl⟩ := h.form
  have BA : Below w.heap.size w ((w.alloc (.cells #[.slice A0 s.cs.length c0, .int .i64 s.most, .slice A0' s.hist.length c0'] 31)).alloc (.cells #[.slice none 0 0, .int .i64 0, .slice none 0 0] 31)) := ((Below.refl _ _).alloc (Nat.le_refl _) _).alloc (by simp) _
  have hrA := h.below BA
  have rsA := Blk.new (w.alloc (.cells #[.slice A0 s.cs.length c0, .int .i64 s.most, .slice A0' s.hist.length c0'] 31)) 31 #[.slice none 0 0, .int .i64 0, .slice none 0 0]
  rw [World.size_alloc] at rsA
  have hsA : ((w.alloc (.cells #[.slice A0 s.cs.length c0, .int .i64 s.most, .slice A0' s.hist.length c0'] 31)).alloc (.cells #[.slice none 0 0, .int .i64 0, .slice none 0 0] 31)).heap.size = w.heap.size + 2 := by simp
  have hcA := hc _ _ hrA
  clear hc
  go_enter Tryd.func23, Tryd.ntmps23
  go_wp2_with (go_at_call 42; refine hcA.mono ?_; rintro e w3 ⟨v1, rfl, hr1, hB1, ho1⟩; obtain ⟨A1, c1, A1', c1', rfl⟩ := hr1.form; have rs1 := rsA.keep (hB1.block _ rsA.lt); have z0 := rs1.cell 0; have z1 := rs1.cell 1; have z2 := rs1.cell 2; have f0 := rs1.frozen 0; have f1 := rs1.frozen 1; have f2 := rs1.frozen 2; have nl := rs1.lt; simp at z0 z1 z2; have BW : Below w3.heap.size w3 (w3.alloc (.cells #[.slice A1 z.cs.length c1, .int .i64 z.most, .slice A1' z.hist.length c1'] 31)) := (Below.refl _ _).alloc (Nat.le_refl _) _; have rsW := rs1.keep (BW.block _ rs1.lt); have y0 := rsW.cell 0; have y1 := rsW.cell 1; have y2 := rsW.cell 2; have g0 := rsW.frozen 0; have g1 := rsW.frozen 1; have g2 := rsW.frozen 2; simp only [List.getElem?_toArray, List.getElem?_cons_zero, List.getElem?_cons_succ] at y0 y1 y2)
  obtain ⟨hfin, hb⟩ := ref_out (mk := fun u => #[u, .int .i64 0]) hsA BA hr1 hB1 ho1 rfl (Below.refl _ _) rs1 hlt
  replace hfin := hfin.alloc (.cells #[.slice A1 z.cs.length c1, .int .i64 z.most, .slice A1' z.hist.length c1'] 31)
  replace hb := hb.alloc (.cells #[.slice A1 z.cs.length c1, .int .i64 z.most, .slice A1' z.hist.length c1'] 31)
  have q0 := hb.cell 0
  have q1 := hb.cell 1
  have q2 := hb.cell 2
  simp at q0 q1 q2
  exact bodyPost_ret (v := .tuple #[.agg #[.slice A1 z.cs.length c1, .int .i64 z.most, .slice A1' z.hist.length c1'], .int .i64 0]) (by simp [results, Tryd.results23, go_sem, q0, q1, q2]) rfl hfin

set_option maxRecDepth 100000 in
set_option maxHeartbeats 1600000 in
theorem refFree3_no {s : St} {v : Value} (j : Int) (z : St) (old : Int) (w : World) (h : RefS w v s)
    (hc : ∀ W u, RefS W u s → Calls Tryd.prog 42 #[u, .int .i64 j, .int .u64 1, .int .u64 0] W (RefOut W u z (fun u => #[u, .int .u64 old, .bool false, .int .i64 0]))) : Calls Tryd.prog 23 #[v, .int .i64 j] w (RefOut w v z (fun u => #[u, .int .i64 30])) := by
  have hlt := h.lt
  obtain ⟨A0, c0, A0', c0', rfl⟩ := h.form
  have BA : Below w.heap.size w ((w.alloc (.cells #[.slice A0 s.cs.length c0, .int .i64 s.most, .slice A0' s.hist.length c0'] 31)).alloc (.cells #[.slice none 0 0, .int .i64 0, .slice none 0 0] 31)) := ((Below.refl _ _).alloc (Nat.le_refl _) _).alloc (by simp) _
  have hrA := h.below BA
  have rsA := Blk.new (w.alloc (.cells #[.slice A0 s.cs.length c0, .int .i64 s.most, .slice A0' s.hist.length c0'] 31)) 31 #[.slice none 0 0, .int .i64 0, .slice none 0 0]
  rw [World.size_alloc] at rsA
  have hsA : ((w.alloc (.cells #[.slice A0 s.cs.length c0, .int .i64 s.most, .slice A0' s.hist.length c0'] 31)).alloc (.cells #[.slice none 0 0, .int .i64 0, .slice none 0 0] 31)).heap.size = w.heap.size + 2 := by simp
  have hcA := hc _ _ hrA
  clear hc
  go_enter Tryd.func23, Tryd.ntmps23
  go_wp2_with (go_at_call 42; refine hcA.mono ?_; rintro e w3 ⟨v1, rfl, hr1, hB1, ho1⟩; obtain ⟨A1, c1, A1', c1', rfl⟩ := hr1.form; have rs1 := rsA.keep (hB1.block _ rsA.lt); have z0 := rs1.cell 0; have z1 := rs1.cell 1; have z2 := rs1.cell 2; have f0 := rs1.frozen 0; have f1 := rs1.frozen 1; have f2 := rs1.frozen 2; have nl := rs1.lt; simp at z0 z1 z2; have BW : Below w3.heap.size w3 (w3.alloc (.cells #[.slice A1 z.cs.length c1, .int .i64 z.most, .slice A1' z.hist.length c1'] 31)) := (Below.refl _ _).alloc (Nat.le_refl _) _; have rsW := rs1.keep (BW.block _ rs1.lt); have y0 := rsW.cell 0; have y1 := rsW.cell 1; have y2 := rsW.cell 2; have g0 := rsW.frozen 0; have g1 := rsW.frozen 1; have g2 := rsW.frozen 2; simp only [List.getElem?_toArray, List.getElem?_cons_zero, List.getElem?_cons_succ] at y0 y1 y2)
  obtain ⟨hfin, hb⟩ := ref_out (mk := fun u => #[u, .int .i64 30]) hsA BA hr1 hB1 ho1 rfl (Below.refl _ _) rs1 hlt
  replace hfin := hfin.alloc (.cells #[.slice A1 z.cs.length c1, .int .i64 z.most, .slice A1' z.hist.length c1'] 31)
  replace hb := hb.alloc (.cells #[.slice A1 z.cs.length c1, .int .i64 z.most, .slice A1' z.hist.length c1'] 31)
  have q0 := hb.cell 0
  have q1 := hb.cell 1
  have q2 := hb.cell 2
  simp at q0 q1 q2
  exact bodyPost_ret (v := .tuple #[.agg #[.slice A1 z.cs.length c1, .int .i64 z.most, .slice A1' z.hist.length c1'], .int .i64 30]) (by simp [results, Tryd.results23, go_sem, q0, q1, q2]) rfl hfin

set_option maxRecDepth 100000 in
set_option maxHeartbeats 1600000 in
theorem refFree3_err {s : St} {v : Value} (j : Int) (z : St) (old : Int) (w : World) (h : RefS w v s)
    (hc : ∀ W u, RefS W u s → Calls Tryd.prog 42 #[u, .int .i64 j, .int .u64 1, .int .u64 0] W (RefOut W u z (fun u => #[u, .int .u64 old, .bool false, .int .i64 4]))) : Calls Tryd.prog 23 #[v, .int .i64 j] w (RefOut w v z (fun u => #[u, .int .i64 4])) := by
  have hlt := h.lt
  obtain ⟨A0, c0, A0', c0', rfl⟩ := h.form
  have BA : Below w.heap.size w ((w.alloc (.cells #[.slice A0 s.cs.length c0, .int .i64 s.most, .slice A0' s.hist.length c0'] 31)).alloc (.cells #[.slice none 0 0, .int .i64 0, .slice none 0 0] 31)) := ((Below.refl _ _).alloc (Nat.le_refl _) _).alloc (by simp) _
  have hrA := h.below BA
  have rsA := Blk.new (w.alloc (.cells #[.slice A0 s.cs.length c0, .int .i64 s.most, .slice A0' s.hist.length c0'] 31)) 31 #[.slice none 0 0, .int .i64 0, .slice none 0 0]
  rw [World.size_alloc] at rsA
  have hsA : ((w.alloc (.cells #[.slice A0 s.cs.length c0, .int .i64 s.most, .slice A0' s.hist.length c0'] 31)).alloc (.cells #[.slice none 0 0, .int .i64 0, .slice none 0 0] 31)).heap.size = w.heap.size + 2 := by simp
  have hcA := hc _ _ hrA
  clear hc
  go_enter Tryd.func23, Tryd.ntmps23
  go_wp2_with (go_at_call 42; refine hcA.mono ?_; rintro e w3 ⟨v1, rfl, hr1, hB1, ho1⟩; obtain ⟨A1, c1, A1', c1', rfl⟩ := hr1.form; have rs1 := rsA.keep (hB1.block _ rsA.lt); have z0 := rs1.cell 0; have z1 := rs1.cell 1; have z2 := rs1.cell 2; have f0 := rs1.frozen 0; have f1 := rs1.frozen 1; have f2 := rs1.frozen 2; have nl := rs1.lt; simp at z0 z1 z2; have BW : Below w3.heap.size w3 (w3.alloc (.cells #[.slice A1 z.cs.length c1, .int .i64 z.most, .slice A1' z.hist.length c1'] 31)) := (Below.refl _ _).alloc (Nat.le_refl _) _; have rsW := rs1.keep (BW.block _ rs1.lt); have y0 := rsW.cell 0; have y1 := rsW.cell 1; have y2 := rsW.cell 2; have g0 := rsW.frozen 0; have g1 := rsW.frozen 1; have g2 := rsW.frozen 2; simp only [List.getElem?_toArray, List.getElem?_cons_zero, List.getElem?_cons_succ] at y0 y1 y2)
  obtain ⟨hfin, hb⟩ := ref_out (mk := fun u => #[u, .int .i64 4]) hsA BA hr1 hB1 ho1 rfl (Below.refl _ _) rs1 hlt
  replace hfin := hfin.alloc (.cells #[.slice A1 z.cs.length c1, .int .i64 z.most, .slice A1' z.hist.length c1'] 31)
  replace hb := hb.alloc (.cells #[.slice A1 z.cs.length c1, .int .i64 z.most, .slice A1' z.hist.length c1'] 31)
  have q0 := hb.cell 0
  have q1 := hb.cell 1
  have q2 := hb.cell 2
  simp at q0 q1 q2
  exact bodyPost_ret (v := .tuple #[.agg #[.slice A1 z.cs.length c1, .int .i64 z.most, .slice A1' z.hist.length c1'], .int .i64 4]) (by simp [results, Tryd.results23, go_sem, q0, q1, q2]) rfl hfin

theorem refFree3 {s : St} {v : Value} (j : Int) (w : World) (h : RefS w v s) (hh : s.hist.length < 1000000000) : Calls Tryd.prog 23 #[v, .int .i64 j] w (RefOut w v (doSt s 3 j 1 0).1 (fun u => #[u, .int .i64 (freeErr s j)])) := by
  have hc := fun W u (hu : RefS W u s) => refSwap j 1 0 W hu hh
  unfold doSt at hc ⊢
  unfold freeErr
  by_cases hj : inSt s j = true
  · simp only [if_pos hj] at hc ⊢
    have hd : (accOf s 3 j 1 0).did = (s.at_ j.toNat == 1) := rfl
    simp only [hd] at hc
    cases hc1 : (s.at_ j.toNat == 1)
    · simp only [hc1] at hc
      exact refFree3_no j _ _ w h hc
    · simp only [hc1] at hc
      exact refFree3_yes j _ _ w h hc
  · simp only [if_neg hj] at hc ⊢
    exact refFree3_err j _ _ w h hc
end Go.Proofs.YthiaaapcbiameaaDoor
