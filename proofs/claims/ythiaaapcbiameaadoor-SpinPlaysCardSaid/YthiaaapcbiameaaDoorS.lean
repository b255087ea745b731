/- snapshot, Log, accesses. -/
import Derived.Test.YthiaaapcbiameaaDoorH
namespace Go.Proofs.YthiaaapcbiameaaDoor
open Go.RowKit

def SnapPost (w : World) (cnt k : Nat) (ys : List Value) (e : Ending) (w' : World) : Prop :=
  ∃ A c, e = .returned (.agg #[.int .u64 (cnt : Int), .slice A k c]) ∧ Row w' 98 5 (.slice A k c) k ys ∧ (∀ i, (Value.slice A k c).ownBlock = some i → w.heap.size ≤ i) ∧ Below w.heap.size w w'

theorem snap_end {w w1 : World} {X : Obj} {cnt k cap' : Nat} {A' : Option Addr} {ys : List Value} {cs : Array Value} {u0 u1 : Value} (hown1 : Row w1 98 5 (.slice A' k cap') k ys)
    (hgrow : (w.alloc X).drew.grownBy w1 (Value.slice none 0 0).ownBlock) (hat : (Value.slice A' k cap').ownBlock = none ∨ (Value.slice A' k cap').ownBlock = some (w.heap.size + 1)) (hx1 : Blk w1 w.heap.size 53 cs) :
    SnapPost w cnt k ys (.returned (.agg #[.int .u64 (cnt : Int), .slice A' k cap'])) ((w1.setCell ⟨w.heap.size, 0, none⟩ u0).setCell ⟨w.heap.size, 1, none⟩ u1) := by
  refine ⟨A', cap', rfl, (hown1.far (p := ⟨w.heap.size, 0, none⟩) (hown1.ne_blk hx1 (by decide)) _).far (p := ⟨w.heap.size, 1, none⟩) (hown1.ne_blk hx1 (by decide)) _, fun i hi => ?_, ?_⟩
  · rcases hat with e | e
    · rw [e] at hi; cases hi
    · rw [e] at hi; injection hi with hi; omega
  · have hb : Below w.heap.size w w1 := (((Below.refl _ w).alloc (Nat.le_refl _) X).drew).grown hgrow (by simp) (by simp [Value.ownBlock])
    exact (hb.setCell (p := ⟨w.heap.size, 0, none⟩) (Nat.le_refl _) _).setCell (p := ⟨w.heap.size, 1, none⟩) (Nat.le_refl _) _

set_option maxRecDepth 100000 in
set_option maxHeartbeats 1600000 in
theorem snapshot_any (b cnt k : Nat) (vl vc mo : Value) (ys : List Value) (w : World)
    (hb : Blk w b 55 #[.int .u64 cnt, vl, vc, mo]) (hl : Row w 98 5 vl k ys) (h1 : ∀ u ∈ ys, u.oneCell' = true) (hk : k ≤ 1024) :
    Calls Tryd.prog 47 #[.pointer (some ⟨b, 0, none⟩)] w (SnapPost w cnt k ys) := by
  obtain ⟨i0, hi0, hz0, hz1, hz2⟩ := info_parts info52
  obtain ⟨A, cap, hvl, hnc, hcm⟩ := hl.form
  have e0 := hb.cell 0
  have e1 := hb.cell 1
  have hblt := hb.lt
  subst hvl
  simp at e0 e1
  have n1 : w.heap.size ≠ b := by omega
  go_enter Tryd.func47, Tryd.ntmps47
  go_wp2_with fail
  go_region_held3 (fun w' => w'.cell? ⟨b, 0, none⟩ = some (.int .u64 cnt) ∧ w'.cell? ⟨b, 1, none⟩ = some (.slice A k cap))
    (first
      | go_keep
      | exact ⟨e0', e1'⟩)
    ((refine step_append_row _ (by rfl) _ _ _ (by rfl) 98 98 i0 _ 5 40 Tryd.underlying29 hi0 hz0 hz1 hz2 rfl (.slice none 0 0) 0 [] (by rfl) (Row.nil _ _ _)
        (.slice A k cap) k ys (by rfl) (hl.alloc _).drew h1 (by simp [maxLen]; omega) (by omega) ?_
      intro v' w1 hown1 hgrow hat
      obtain ⟨A', cap', rfl, _, _⟩ := hown1.form
      have hb1 : Blk w1 b 55 #[.int .u64 cnt, .slice A k cap, vc, mo] := (hb.alloc _).keep (hgrow.block b (by simp; omega) (by simp [Value.ownBlock]))
      have e0' := hb1.cell 0
      have e1' := hb1.cell 1
      simp at e0' e1'
      have hx1 : Blk w1 w.heap.size 53 #[.int .u64 0, .slice none 0 0] := (Blk.new w _ _).keep (hgrow.block w.heap.size (by simp) (by simp [Value.ownBlock]))
      have x0 := hx1.cell 0
      have x1 := hx1.cell 1
      have z0 := hx1.frozen 0
      have z1 := hx1.frozen 1
      simp at x0 x1))
  go_wp2
  simp only [Nat.zero_add, List.nil_append] at hown1 hat
  exact bodyPost_ret (v := .agg #[.int .u64 (cnt : Int), .slice A' k cap']) (by simp [results, Tryd.results47, go_sem, x0, x1]) rfl (snap_end hown1 hgrow (by simpa [Value.ownBlock] using hat) hx1)
end Go.Proofs.YthiaaapcbiameaaDoor
