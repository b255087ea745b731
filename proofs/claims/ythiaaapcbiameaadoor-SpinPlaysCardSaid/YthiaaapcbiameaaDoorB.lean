import Derived.Test.YthiaaapcbiameaaDoorChecked
import Derived.Test.YthiaaapcbiameaaDoorG
import Derived.WalkSpells
import Derived.WalkLawsBesides
import Derived.Lib.Hide
import Derived.Deep.QuietTactic
import Derived.BigQuiet
import Derived.Deep.RegionHeld3
import Derived.Deep.RegionLaw
import Derived.Outline
namespace Go.Proofs.YthiaaapcbiameaaDoor
open Go.RowKit

structure Acc where
  op : Int
  at_ : Int
  old : Int
  new : Int
  did : Bool
def Acc.cells (x : Acc) : List Value := [.int .i64 x.op, .int .i64 x.at_, .int .u64 x.old, .int .u64 x.new, .bool x.did]

theorem info52 : (Tryd.prog.info? 98).map (fun i => (i.zero, i.size, i.bytes)) = some (some (.agg #[.int .i64 0, .int .i64 0, .int .u64 0, .int .u64 0, .bool false]), 5, 40) := by kernel_rfl

def NotePost (w : World) (b cnt n : Nat) (vl vc mo : Value) (xs : List Value) (w' : World) : Prop :=
  ∃ vl', Blk w' b 55 #[.int .u64 ((cnt + 1 : Nat) : Int), vl', vc, mo] ∧ Row w' 98 5 vl' n xs ∧ Keep (fun k => k = b ∨ vl.ownBlock = some k) w w' ∧
    (vl'.ownBlock = vl.ownBlock ∨ ∃ k, w.heap.size ≤ k ∧ vl'.ownBlock = some k)

theorem note_end {w w1 : World} {X : Obj} {Y : Obj} {b cnt n : Nat} {vl vl' vc mo : Value} {xs : List Value} (hb1 : Blk w1 b 55 #[.int .u64 (cnt : Int), vl, vc, mo]) (hown1 : Row w1 98 5 vl' n xs)
    (hgrow : ((w.alloc X).alloc Y).drew.grownBy w1 vl.ownBlock) (hat : vl'.ownBlock = vl.ownBlock ∨ vl'.ownBlock = some ((w.alloc X).alloc Y).drew.heap.size) :
    NotePost w b cnt n vl vc mo xs ((w1.setCell ⟨b, 1, none⟩ vl').setCell ⟨b, 0, none⟩ (.int .u64 ((cnt : Int) + 1))) := by
  refine ⟨vl', ?_, ?_, ?_, ?_⟩
  · have := (hb1.set 1 vl').set 0 (.int .u64 ((cnt : Int) + 1))
    simpa using this
  · exact (hown1.far (p := ⟨b, 1, none⟩) (hown1.ne_blk hb1 (by decide)) _).far (p := ⟨b, 0, none⟩) (hown1.ne_blk hb1 (by decide)) _
  · exact ((((((Keep.refl _ w).alloc X).alloc Y).drew.grown hgrow (fun k hk => .inl (.inr hk))).setCell (p := ⟨b, 1, none⟩) (.inl (.inl rfl)) _).setCell (p := ⟨b, 0, none⟩) (.inl (.inl rfl)) _)
  · rcases hat with h | h
    · exact .inl h
    · exact .inr ⟨_, by simp; omega, h⟩

set_option maxRecDepth 100000 in
set_option maxHeartbeats 1600000 in
theorem note_grows (b cnt n : Nat) (vl vc mo : Value) (xs : List Value) (o a c d : Int) (e : Bool) (w : World)
    (hb : Blk w b 55 #[.int .u64 cnt, vl, vc, mo]) (hr : Row w 98 5 vl n xs) (hn : n < 1024) (hc : cnt < 1000000000) :
    Calls Tryd.prog 54 #[.pointer (some ⟨b, 0, none⟩), .agg #[.int .i64 o, .int .i64 a, .int .u64 c, .int .u64 d, .bool e]] w fun e' w' => e' = .returned (.tuple #[]) ∧ NotePost w b cnt (n + 1) vl vc mo (xs ++ [.int .i64 o, .int .i64 a, .int .u64 c, .int .u64 d, .bool e]) w' := by
  obtain ⟨i0, hi0, hz0, hz1, hz2⟩ := info_parts info52
  obtain ⟨A, cap, hvl, hnc, hcm⟩ := hr.form
  have h0 := hb.cell 0
  have h1 := hb.cell 1
  have f0 := hb.frozen 0
  have f1 := hb.frozen 1
  have hblt := hb.lt
  subst hvl
  simp at h0 h1
  have hn' : decide ((n : Int) < 1024) = true := by simp; omega
  go_enter Tryd.func54, Tryd.ntmps54
  go_wp2_with fail
  have hvb : (Value.slice A n cap).ownBlock ≠ some b := hr.ne_blk hb (by decide)
  go_region_law
    ((refine step_append_row _ (by rfl) _ _ _ (by rfl) 98 98 i0 _ 5 40 Tryd.underlying29 hi0 hz0 hz1 hz2 rfl (.slice A n cap) n xs (by rfl) (((hr.alloc _).alloc _).drew)
        (.slice (some ⟨w.heap.size + 1, 0, none⟩) 1 1) 1 [.int .i64 o, .int .i64 a, .int .u64 c, .int .u64 d, .bool e] (by rfl) (Row.made_at (w.alloc _) (w.heap.size + 1) (by simp) 98 5 1 #[.int .i64 o, .int .i64 a, .int .u64 c, .int .u64 d, .bool e] [.int .i64 o, .int .i64 a, .int .u64 c, .int .u64 d, .bool e] rfl (by simp [maxLen]) (by rfl)).drew (by simp [Value.oneCell']) (by simp [maxLen]; omega) (by omega) ?_
      intro v' w1 hown1 hgrow hat
      obtain ⟨A', cap', rfl, _, _⟩ := hown1.form
      have hb1 : Blk w1 b 55 #[.int .u64 cnt, .slice A n cap, vc, mo] := ((hb.alloc _).alloc _).keep (hgrow.block b (by simp; omega) (fun e => hvb e.symm))
      have h1' := hb1.cell 1
      have f1' := hb1.frozen 1
      have hx1 : Blk w1 w.heap.size 98 #[.int .i64 o, .int .i64 a, .int .u64 c, .int .u64 d, .bool e] := ((Blk.new w _ _).alloc _).keep (hgrow.block w.heap.size (by simp; omega) (fun e => by have := hr.lt _ e.symm; omega))
      have g0' := hx1.cell 0
      have g1' := hx1.cell 1
      have g2' := hx1.cell 2
      have g3' := hx1.cell 3
      have g4' := hx1.cell 4
      simp at h1' g0' g1' g2' g3' g4'
      ))
  all_goals
    have h0' := hb1.cell 0
    have f0' := hb1.frozen 0
    simp at h0'
    go_wp2
    go_end0
    exact ⟨rfl, note_end hb1 hown1 hgrow hat⟩
end Go.Proofs.YthiaaapcbiameaaDoor
