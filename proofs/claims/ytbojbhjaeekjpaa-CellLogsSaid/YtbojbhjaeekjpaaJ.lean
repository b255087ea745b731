/- Log's iterators. -/
import Derived.Test.YtbojbhjaeekjpaaI
namespace Go.Proofs.Ytbojbhjaeekjpaa
open Go.RowKit Go.Shelf
attribute [local go_sem] Oper.semAt_some

theorem ownFrom_le {β : Type} {B B' : Nat} {I : β → World → Prop} (h : OwnFrom B I) (hB : B ≤ B') : OwnFrom B' I :=
  fun s W W' row hs hg hr => h s W W' row hs hg (fun r e => ⟨Nat.le_trans hB (hr r e).1, (hr r e).2⟩)
theorem ownFrom_blk {β : Type} (B g : Nat) (t : TypeId) (cs : Array Value) : OwnFrom B (fun (_ : β) W => Blk W g t cs) :=
  fun _ _ _ _ hs hg hr => hs.keep (hg.block g hs.lt (fun e => by
    obtain ⟨_, o, ho, hc⟩ := hr _ e.symm
    rw [show _ = some (Obj.cells cs t (0, 0)) from hs] at ho
    cases ho; cases hc))

set_option maxHeartbeats 400000 in
theorem accesses_any (bs : Nat) (w : World) : Calls Try.prog 38 #[.pointer (some ⟨bs, 0, none⟩)] w fun e w' =>
    e = .returned (.func (.func 46) #[] #[.pointer (some ⟨w.heap.size, 0, none⟩)]) ∧ w.alloc (.cells #[.pointer (some ⟨bs, 0, none⟩)] 95) = w' := by
  go_enter Try.func38, Try.ntmps38
  go_wp2
  go_ret
  exact ⟨rfl, rfl⟩

set_option maxRecDepth 100000 in
set_option maxHeartbeats 3200000 in
theorem log2_seqs (h : List Acc) (bs : Nat) (A : Option Addr) (c : Nat) (hc : h.length < 1000000000) :
    Seqs Try.prog 37 #[.pointer (some ⟨bs, 0, none⟩)] encAcc (logList h) (Snap60 h bs A c) := by
  intro n l J Jx W hJ hJx hS hY h0
  refine callsIn_wide.2 ?_
  show Calls Try.prog 37 #[.func (.yield l) #[] #[], .pointer (some ⟨bs, 0, none⟩)] W _
  refine calls_of_wp_marks 5 Try.func37 rfl ?_
  simp only [Try.ntmps37, List.size_toArray, List.length_cons, List.length_nil, Nat.reduceAdd, Nat.reduceSub, Array.replicate_succ, Array.replicate_zero, List.push_toArray, List.append_toArray, List.nil_append, List.cons_append]
  go_wp2
  go_step3
  go_wp2
  go_step3
  go_wp2_with (go_at_call 38; refine (accesses_any _ _).mono ?_; rintro e w' ⟨rfl, rfl⟩)
  have hy0 : Blk ((W.alloc (.cells #[.func (.yield l) #[] #[]] 83)).alloc (.cells #[.pointer (some ⟨bs, 0, none⟩)] 95)) W.heap.size 83 #[.func (.yield l) #[] #[]] := (Blk.new W _ _).alloc _
  have hb0 := Blk.new (W.alloc (.cells #[.func (.yield l) #[] #[]] 83)) 95 #[.pointer (some ⟨bs, 0, none⟩)]
  rw [World.size_alloc] at hb0
  have hJ0 : J [] ((W.alloc (.cells #[.func (.yield l) #[] #[]] 83)).alloc (.cells #[.pointer (some ⟨bs, 0, none⟩)] 95)) := hJ.alloc _ (hJ.alloc _ h0)
  refine wp_range 4 rfl (enters_of Try.func46 (by kernel_rfl) rfl) (accesses1_seqs h (W.heap.size + 1) bs A c hc) (fun _ => rfl)
    (fun pre W' => (J pre W' ∧ Blk W' W.heap.size 83 #[.func (.yield l) #[] #[]]) ∧ Blk W' (W.heap.size + 1) 95 #[.pointer (some ⟨bs, 0, none⟩)])
    (fun cd pre W' => cd = .exit 0 ∧ Jx pre W')
    (((ownFrom_le hJ (by simp; omega)).and (ownFrom_blk _ _ _ _)).and (ownFrom_blk _ _ _ _))
    (fun cd s X Y row hs hg hr => ⟨hs.1, ownFrom_le hJx (by simp; omega) s X Y row hs.2 hg hr⟩)
    (fun pre W' hi => ⟨hi.2, hS _ _ hi.1.1⟩) ⟨⟨hJ0, hy0⟩, hb0⟩
    ?round ?done ?stop
  case round =>
    intro l' pre x rest W1 hsz hx hi
    simp only [encAcc, Acc.val]
    gi_wp2
    refine ⟨(Since.refl _ _).alloc _, ⟨⟨hJ.alloc _ hi.1.1, hi.1.2.alloc _⟩, hi.2.alloc _⟩, ?_⟩
    rintro W2 ht ⟨⟨hj, hy1⟩, hb1⟩
    have hbx := (Blk.new W1 52 #[.int .i64 x.2.op, .int .i64 x.2.at_, .int .u64 x.2.old, .int .u64 x.2.new, .bool x.2.did]).keep (ht.at_ (Blk.new W1 _ _) rfl)
    obtain ⟨fn, tmps, assign, body, hy, hR⟩ := yield_depth 3 (hY pre x rest W2 hx hj)
    simp only [encAcc, Acc.val] at hy
    have y0 := hy1.cell 0
    have x0 := hbx.cell 0
    have x1 := hbx.cell 1
    have x2 := hbx.cell 2
    have x3 := hbx.cell 3
    have x4 := hbx.cell 4
    simp at y0 x0 x1 x2 x3 x4
    clear ht hi
    gi_wp2
    refine hR.mono ?_
    rintro e W3 (⟨rfl, hJ3, hs3⟩ | ⟨rfl, hJx3, hs3⟩)
    · gi_wp2
      exact ⟨hs3.mono (by simp; omega), ⟨hJ3, hy1.keep (hs3.same _ (Nat.le_refl _) hy1.lt)⟩, hb1.keep (hs3.same _ (by omega) hb1.lt)⟩
    · gi_wp2
      exact ⟨hs3.mono (by simp; omega), rfl, hJx3⟩
  case done =>
    rintro D W1 hD ⟨⟨hj, _⟩, _⟩ hdef
    go_wp2
    rw [Exit.noGoto_normal]
    refine ⟨by simp, .inl ⟨_, _, rfl, run_takeDeferred hdef, ?_⟩⟩
    exact ⟨_, results_none rfl _ _ _, ⟨_, rfl⟩, .inl (hJ.putObj _ hj (by simp at hD; omega) hdef rfl)⟩
  case stop =>
    rintro D cd pre W1 hD hpre ⟨rfl, hjx⟩ hdef
    go_wp2
    rw [Exit.noGoto_normal]
    refine ⟨by simp, .inl ⟨_, _, rfl, run_takeDeferred hdef, ?_⟩⟩
    exact ⟨_, results_none rfl _ _ _, ⟨_, rfl⟩, .inr ⟨pre, hpre, hJx.putObj _ hjx (by simp at hD; omega) hdef rfl⟩⟩
end Go.Proofs.Ytbojbhjaeekjpaa
