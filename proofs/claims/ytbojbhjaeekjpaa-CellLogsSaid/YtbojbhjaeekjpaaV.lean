/- The chapter's rows: works. -/
import Derived.Test.YtbojbhjaeekjpaaO
namespace Go.Proofs.Ytbojbhjaeekjpaa
open Go.RowKit Go.Shelf
attribute [local go_sem] Oper.semAt_some

/-- The access that the loop of the rows keeps. -/
def thirdOf (pre : List (Nat × Acc)) : Acc := pre.foldl (fun t p => if p.1 = 2 then p.2 else t) zeroAcc
def Acc.arr (x : Acc) : Array Value := #[.int .i64 x.op, .int .i64 x.at_, .int .u64 x.old, .int .u64 x.new, .bool x.did]
theorem thirdOf_snoc (pre : List (Nat × Acc)) (p : Nat × Acc) : thirdOf (pre ++ [p]) = if p.1 = 2 then p.2 else thirdOf pre := by simp [thirdOf, List.foldl_append]
theorem thirdOf_all : thirdOf (logList h6) = ⟨3, 1, 7, 9, true⟩ := rfl
def ThirdI (W0 : World) (T : Nat) (pre : List (Nat × Acc)) (W : World) : Prop := Below T W0 W ∧ Blk W T 52 (thirdOf pre).arr

theorem since5 {B T : Nat} {W : World} {v0 v1 v2 v3 v4 : Value} (h : T < B) :
    Since B W (((((W.setCell ⟨T, 0, none⟩ v0).setCell ⟨T, 1, none⟩ v1).setCell ⟨T, 2, none⟩ v2).setCell ⟨T, 3, none⟩ v3).setCell ⟨T, 4, none⟩ v4) :=
  (((((Since.refl B W).setCell (p := ⟨T, 0, none⟩) h _).setCell (p := ⟨T, 1, none⟩) h _).setCell (p := ⟨T, 2, none⟩) h _).setCell (p := ⟨T, 3, none⟩) h _).setCell (p := ⟨T, 4, none⟩) h _
theorem below5 {T : Nat} {W0 W : World} {v0 v1 v2 v3 v4 : Value} (h : Below T W0 W) :
    Below T W0 (((((W.setCell ⟨T, 0, none⟩ v0).setCell ⟨T, 1, none⟩ v1).setCell ⟨T, 2, none⟩ v2).setCell ⟨T, 3, none⟩ v3).setCell ⟨T, 4, none⟩ v4) :=
  ((((h.setCell (p := ⟨T, 0, none⟩) (Nat.le_refl _) _).setCell (p := ⟨T, 1, none⟩) (Nat.le_refl _) _).setCell (p := ⟨T, 2, none⟩) (Nat.le_refl _) _).setCell (p := ⟨T, 3, none⟩) (Nat.le_refl _) _).setCell (p := ⟨T, 4, none⟩) (Nat.le_refl _) _

theorem ownFrom_blkf {β : Type} (B g : Nat) (t : TypeId) (cs : β → Array Value) : OwnFrom B (fun s W => Blk W g t (cs s)) :=
  fun s _ _ _ hs hg hr => hs.keep (hg.block g hs.lt (fun e => by
    obtain ⟨_, o, ho, hc⟩ := hr _ e.symm
    rw [show _ = some (Obj.cells (cs s) t (0, 0)) from hs] at ho
    cases ho; cases hc))

theorem eql_nilFunc (f : Nat) (cs : Array Value) (W : World) : (binOp BinOp.eql 47 (.func (.func f) #[] cs) .nilFunc).run Try.prog W = .ok (.bool false) W := by kernel_rfl

set_option maxRecDepth 100000 in
set_option maxHeartbeats 3200000 in
theorem works_any (w : World) : Calls Try.prog 9 #[] w fun e w' => e = .returned (.bool true) ∧ Below w.heap.size w w' := by
  refine calls_of_wp_marks 5 Try.func9 rfl ?_
  simp only [Try.ntmps9, List.size_toArray, List.length_nil, Nat.reduceSub, Array.replicate_succ, Array.replicate_zero, List.push_toArray, List.append_toArray, List.nil_append, List.cons_append]
  go_wp2_with fail
  refine (New_do 3 _ (by decide) (by decide)).mono ?_
  rintro e w1 ⟨b, rfl, a1⟩
  go_wp2_with fail
  refine (k1 a1).mono ?_
  rintro e w2 ⟨rfl, a2⟩
  go_wp2_with fail
  refine (k2 a2).mono ?_
  rintro e w3 ⟨rfl, a3⟩
  go_wp2_with fail
  refine (k3 a3).mono ?_
  rintro e w4 ⟨rfl, a4⟩
  go_wp2_with fail
  refine (k4 a4).mono ?_
  rintro e w5 ⟨rfl, a5⟩
  go_wp2_with fail
  refine (k5 a5).mono ?_
  rintro e w6 ⟨rfl, a6⟩
  go_wp2_with fail
  refine (k6 a6).mono ?_
  rintro e w7 ⟨rfl, a7⟩
  go_wp2_with fail
  refine (k7 a7).mono ?_
  rintro e w8 ⟨rfl, a8⟩
  go_wp2_with (go_at_call 12; refine (num_any _ _).mono ?_; rintro e w' ⟨rfl, rfl⟩)
  refine (k8 a8).mono ?_
  rintro e w9 ⟨rfl, a9⟩
  go_wp2_with fail
  refine (k9 a9).mono ?_
  rintro e w10 ⟨rfl, a10⟩
  go_wp2_with fail
  refine (k10 a10).mono ?_
  rintro e w11 ⟨rfl, a11⟩
  go_wp2_with fail
  refine (k11 a11).mono ?_
  rintro e w12 ⟨rfl, a12⟩
  go_wp2_with fail
  refine (k12 a12).mono ?_
  rintro e w13 ⟨rfl, a13⟩
  go_wp2_with fail
  refine (k13 a13).mono ?_
  rintro e w14 ⟨rfl, a14⟩
  go_wp2_with fail
  refine (Log_are _ a14.are).mono ?_
  rintro e w15 ⟨bs, A, c, rfl, hsn, hbs, hro, hB⟩
  have a15 := a14.below hB
  clear a1 a2 a3 a4 a5 a6 a7 a8 a9 a10 a11 a12 a13 a14
  have hnf := eql_nilFunc
  go_wp2_with fail
  clear hnf
  have hT := Blk.new w15 52 zeroAcc.arr
  have hb0 : Below w15.heap.size w15 (w15.alloc (.cells zeroAcc.arr 52)) := (Below.refl _ _).alloc (Nat.le_refl _) _
  refine wp_range 4 rfl (enters_of Try.func37 (by kernel_rfl) rfl) (log2_seqs h6 bs A c (by decide)) (fun _ => rfl) (ThirdI w15 w15.heap.size) (fun _ _ _ => False)
    ((ownFrom_below (Nat.le_refl _) (by simp)).and (ownFrom_blkf _ _ _ _)) (fun _ _ _ _ _ hs _ _ => hs) (fun pre W hi => hsn.below hi.1) ⟨hb0, hT⟩ ?round ?done ?stop
  case round =>
    intro l pre x rest W hsz hx hi
    simp only [encAcc, Acc.val]
    gi_wp2
    refine ⟨(Since.refl _ _).alloc _, ⟨hi.1.alloc hi.1.size _, hi.2.alloc _⟩, ?_⟩
    intro W2 ht hi2
    have hbx := (Blk.new W 52 #[.int .i64 x.2.op, .int .i64 x.2.at_, .int .u64 x.2.old, .int .u64 x.2.new, .bool x.2.did]).keep (ht.at_ (Blk.new W _ _) rfl)
    have hTlt := hi.2.lt
    have n1 : w15.heap.size ≠ W.heap.size := by omega
    have n2 := Ne.symm n1
    have x0 := hbx.cell 0
    have x1 := hbx.cell 1
    have x2 := hbx.cell 2
    have x3 := hbx.cell 3
    have x4 := hbx.cell 4
    have hT2 := hi2.2
    have t0 := hT2.cell 0
    have t1 := hT2.cell 1
    have t2 := hT2.cell 2
    have t3 := hT2.cell 3
    have t4 := hT2.cell 4
    have z0 := hT2.frozen 0
    have z1 := hT2.frozen 1
    have z2 := hT2.frozen 2
    have z3 := hT2.frozen 3
    have z4 := hT2.frozen 4
    simp [Acc.arr] at x0 x1 x2 x3 x4 t0 t1 t2 t3 t4
    by_cases hx2 : x.1 = 2
    · have hd : ((x.1 : Int) == 2) = true := by simp; omega
      have H := Lib.hid hx2
      clear hx2 ht hi hx
      gi_wp2
      have hT3 := set5_self hi2.2 (v0 := .int .i64 x.2.op) (v1 := .int .i64 x.2.at_) (v2 := .int .u64 x.2.old) (v3 := .int .u64 x.2.new) (v4 := .bool x.2.did)
      refine ⟨since5 (by simp), below5 hi2.1, ?_⟩
      show Blk _ _ _ _
      rw [thirdOf_snoc, if_pos H.out]
      exact hT3
    · have hd : ((x.1 : Int) == 2) = false := by simp; omega
      have H := Lib.hid hx2
      clear hx2 ht hi hx
      gi_wp2
      refine ⟨Since.refl _ _, hi2.1, ?_⟩
      show Blk W2 _ _ _
      rw [thirdOf_snoc, if_neg H.out]
      exact hT2
  case done =>
    rintro D W hD ⟨hBw, hTw⟩ hdef
    have aw := a15.below hBw
    have hcnt : Calls Try.prog 18 #[.pointer (some ⟨b, 0, none⟩)] W fun e w' => e = .returned (.int .u64 6) ∧ W = w' := Count_are aw.are
    rw [thirdOf_all] at hTw
    have t0 := hTw.cell 0
    have t1 := hTw.cell 1
    have t2 := hTw.cell 2
    have t3 := hTw.cell 3
    have t4 := hTw.cell 4
    simp [Acc.arr] at t0 t1 t2 t3 t4
    go_wp2_with (first
      | (go_at_call 12; refine (num_any _ _).mono ?_; rintro e w' ⟨rfl, rfl⟩)
      | (go_at_call 18; refine hcnt.mono ?_; rintro e w' ⟨rfl, rfl⟩))
    refine ⟨by simp, .inl ⟨_, _, rfl, run_takeDeferred hdef, ?_⟩⟩
    exact ⟨_, results_tmp rfl _ _ _, rfl, aw.toBelow.trans (belowK_b (Nat.le_refl _) W D _ _ (by have := a15.keep.size; simp at hD; omega) hdef rfl rfl)⟩
  case stop => exact fun _ _ _ _ _ _ h _ => h.elim
end Go.Proofs.Ytbojbhjaeekjpaa
