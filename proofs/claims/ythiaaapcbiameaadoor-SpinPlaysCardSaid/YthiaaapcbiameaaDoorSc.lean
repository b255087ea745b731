/- Tries: attempts, its inner iterator. -/
import Derived.Test.YthiaaapcbiameaaDoorSb
import Derived.Shelf.Abstract
import Derived.Shelf.RegionOpen
import Derived.OwnWalkIn
import Derived.TacticsInMore
import Derived.LoopNIn
import Derived.LoopIn
namespace Go.Proofs.YthiaaapcbiameaaDoor
open Go.RowKit Go.Shelf
attribute [local go_sem] Oper.semAt_some

theorem Res.Steps.comap {σ τ : Type} {r : Res σ} {f : τ → σ} {t : τ} {W W' : World} (h : r.Steps (f t) W W') : (r.comap f).Steps t W W' := ⟨h.at_, h.os, h.tape, h.output, h.size, h.block, h.ft⟩

/-- What an attempt yields: its number, and whether one got it. -/
def encTry (p : Nat × Bool) : Array Value := #[.int .i64 (p.1 : Int), .bool p.2]
/-- One attempt, as long as there are any. -/
def nextAtt (most j : Int) (t : Nat × St) : Option ((Nat × Bool) × (Nat × St)) :=
  if (t.1 : Int) < most ∧ inSt t.2 j = true then some ((t.1, (doSt t.2 3 j 0 1).2.1.did), (t.1 + 1, (doSt t.2 3 j 0 1).1)) else none
/-- What the iterator has captured. -/
structure CapAtt (most j : Int) (v : Value) (pm pl pa : Nat) (w : World) : Prop where
  m : Blk w pm 3 #[.int .i64 most]
  l : Blk w pl 83 #[v]
  a : Blk w pa 3 #[.int .i64 j]
  num : Num w
def capAtt (most j : Int) (v : Value) (pm pl pa : Nat) : Res Unit where
  R _ W := CapAtt most j v pm pl pa W
  ft _ k := k = pm ∨ k = pl ∨ k = pa ∨ k = 0
  lt := by
    rintro _ W h k (rfl | rfl | rfl | rfl)
    · exact h.m.lt
    · exact h.l.lt
    · exact h.a.lt
    · exact h.num.lt
  loc := by
    intro _ W W' h hk
    exact ⟨⟨h.m.keep (hk _ (.inl rfl)), h.l.keep (hk _ (.inr (.inl rfl))), h.a.keep (hk _ (.inr (.inr (.inl rfl)))), h.num.keep (hk _ (.inr (.inr (.inr rfl))))⟩, fun _ => Iff.rfl⟩
theorem Void.keep {w w' : World} {v : Value} (h : Void w v) (hk : ∀ b0, v = .pointer (some ⟨b0, 0, none⟩) → w'.heap[b0]? = w.heap[b0]?) : Void w' v := by
  rcases h with h | ⟨b0, h, hb, hc⟩
  · exact .inl h
  · have he := hk b0 h
    refine .inr ⟨b0, h, ?_, ?_⟩
    · have : w'.heap[b0]? = some w.heap[b0] := he.trans (Array.getElem?_eq_getElem hb)
      exact (Array.getElem?_eq_some_iff.1 this).1
    · unfold World.cell? at *
      simp only [he]
      exact hc
/-- The same where there is no arena. -/
def capVoid (most j : Int) (v : Value) (pm pl pa : Nat) : Res Unit where
  R _ W := CapAtt most j v pm pl pa W ∧ Void W v
  ft _ k := (k = pm ∨ k = pl ∨ k = pa ∨ k = 0) ∨ v = .pointer (some ⟨k, 0, none⟩)
  lt := by
    rintro _ W ⟨h, hv⟩ k (hk | rfl)
    · exact (capAtt most j v pm pl pa).lt (s := ()) h k hk
    · rcases hv with hv | ⟨b0, hv, hb, _⟩
      · cases hv
      · cases hv; exact hb
  loc := by
    rintro _ W W' ⟨h, hv⟩ hk
    exact ⟨⟨((capAtt most j v pm pl pa).loc (s := ()) h (fun k e => hk k (.inl e))).1, hv.keep (fun b0 e => hk b0 (.inr e))⟩, fun _ => Iff.rfl⟩
theorem doSt_hist (s : St) (op j x y : Int) : (doSt s op j x y).1.hist.length ≤ s.hist.length + 1 := by
  unfold doSt
  split
  · simp [St.step]
  · simp

set_option maxRecDepth 100000 in
set_option maxHeartbeats 1600000 in
theorem attempts1_seqs (b : Nat) (most j : Int) (pm pl pa : Nat) (s0 : St) (hm1 : most < 1000000) (hh : s0.hist.length < 1000000) :
    SeqsQ ((arena b).comap Prod.snd) (capAtt most j (.pointer (some ⟨b, 0, none⟩)) pm pl pa) Tryd.prog 52 #[.pointer (some ⟨pm, 0, none⟩), .pointer (some ⟨pl, 0, none⟩), .pointer (some ⟨pa, 0, none⟩)] encTry (nextAtt most j) (0, s0) := by
  intro τ q n l I Ix t0 W hp h0 hY
  refine callsIn_wide.2 ?_
  have hcap : CapAtt most j (.pointer (some ⟨b, 0, none⟩)) pm pl pa W := hp.atc
  have c0 := hcap.m.cell 0
  simp at c0
  have hf34 : Fence.wide.fn 34 := trivial
  show Calls Tryd.prog 52 #[.func (.yield l) #[] #[], .pointer (some ⟨pm, 0, none⟩), .pointer (some ⟨pl, 0, none⟩), .pointer (some ⟨pa, 0, none⟩)] W _
  go_enter Tryd.func52, Tryd.ntmps52
  go_wp2_with fail
  clear c0 hcap
  refine (wpIn_wide (n := 5)).1 ?_
  gi_loopw [9] (fun p wr => ∃ (k : Nat) (s : St) (pre : List (Nat × Bool)) (t : τ), p = .int .i64 (k : Int) ∧ (k : Int) ≤ max most 0 ∧ I (pre, (k, s)) t ∧ Pair q ((arena b).comap Prod.snd) (capAtt most j (.pointer (some ⟨b, 0, none⟩)) pm pl pa) W t (k, s) wr ∧ s.hist.length ≤ s0.hist.length + k) (fun p _ => (most - intOf p).toNat)
  case atStart => exact ⟨0, s0, [], t0, rfl, by omega, h0, hp, Nat.le_refl _⟩
  case round =>
    obtain ⟨k, s, pre, t, rfl, hk, hI, hpr, hhs⟩ := hrel
    have hcap : CapAtt most j (.pointer (some ⟨b, 0, none⟩)) pm pl pa wr := hpr.atc
    have hr' : (arena b).R s wr := hpr.atr
    have hnf : ¬ footA b wr 0 := hpr.cr 0 (.inr (.inr (.inr rfl)))
    have c1 := hcap.l.cell 0
    have c2 := hcap.a.cell 0
    simp at c1 c2
    by_cases hlt : (k : Int) < most
    · have hk0 : (0 : Int) ≤ (k : Int) := by omega
      have hT := callsIn_wide (n := 5 - 1) |>.2 (turn_try j ⟨hr', hcap.num, hnf⟩ (by omega))
      by_cases hj : inSt s j = true
      · have hn : nextAtt most j (k, s) = some ((k, (doSt s 3 j 0 1).2.1.did), (k + 1, (doSt s 3 j 0 1).1)) := by unfold nextAtt; rw [if_pos ⟨hlt, hj⟩]
        have he : (doSt s 3 j 0 1).2.2 = 0 := by unfold doSt; rw [if_pos hj]
        have hh2 := doSt_hist s 3 j 0 1
        rw [he] at hT
        generalize doSt s 3 j 0 1 = z at hT hn hh2
        obtain ⟨s2, z2, e2⟩ := z
        generalize z2.did = g at hT hn
        have Hn := Lib.hid hn
        have Hp := Lib.hid hpr
        have HI := Lib.hid hI
        have HY := Lib.hid hY
        clear hn he hj hcap hnf hr' hpr hI hY
        simp only at hT hh2
        gi_wp2_with (gi_at_call 34; refine hT.mono ?_; rintro e w1 ⟨rfl, hst⟩; have hp1 := Lib.hid (Hp.out.stepR (Res.Steps.comap (t := (k + 1, s2)) hst)); obtain ⟨fn, tmps, assign, body, hy, hR⟩ := yield_depth 4 (HY.out _ _ _ _ _ _ HI.out Hn.out hp1.out); simp only [encTry] at hy)
        refine hR.mono ?_
        rintro e W3 ⟨t', hq3, (⟨rfl, hI3⟩ | ⟨rfl, hI3⟩)⟩
        · gi_wp2
          go_roundw
          case rel => exact ⟨k + 1, s2, _, t', by go_num, by omega, hI3, hp1.out.stepQ hq3, by omega⟩
          case measure => simp [intOf]; omega
        · gi_wp2
          refine bodyPost_ret (results_none rfl _ _ _) rfl ?_
          exact ⟨⟨_, rfl⟩, _, _, t', hp1.out.stepQ hq3, .inr hI3⟩
      · have hn : nextAtt most j (k, s) = none := by unfold nextAtt; rw [if_neg (fun h => hj h.2)]
        have he : doSt s 3 j 0 1 = (s, zeroAcc, 4) := by unfold doSt; rw [if_neg hj]
        rw [he] at hT
        simp only [zeroAcc] at hT
        have Hn := Lib.hid hn
        have Hp := Lib.hid hpr
        have HI := Lib.hid hI
        clear hn he hj hcap hnf hr' hpr hI hY
        gi_wp2_with (gi_at_call 34; refine hT.mono ?_; rintro e w1 ⟨rfl, hst⟩)
        refine ⟨(fun _ h => by cases h), ?_⟩
        gi_wp2
        refine bodyPost_ret (results_none rfl _ _ _) rfl ?_
        exact ⟨⟨_, rfl⟩, _, _, t, Hp.out.stepR (Res.Steps.comap (t := (k, s)) hst), .inl ⟨HI.out, Hn.out⟩⟩
    · have hn : nextAtt most j (k, s) = none := by unfold nextAtt; rw [if_neg (fun h => hlt h.1)]
      have Hn := Lib.hid hn
      have Hp := Lib.hid hpr
      have HI := Lib.hid hI
      clear hn hcap hnf hr' hpr hI hY
      gi_wp2
      refine bodyPost_end (results_none rfl _ _ _) rfl ?_
      exact ⟨⟨_, rfl⟩, pre, k, s, t, Hp.out, .inl ⟨HI.out, Hn.out⟩⟩

/-- Nothing in the memory. -/
def nores : Res Unit := ⟨fun _ _ => True, fun _ _ => False, fun _ _ h => h.elim, fun _ _ => ⟨trivial, fun _ => Iff.rfl⟩⟩

set_option maxRecDepth 100000 in
set_option maxHeartbeats 1600000 in
theorem attempts1_void (v : Value) (most j : Int) (pm pl pa : Nat) :
    SeqsQ nores (capVoid most j v pm pl pa) Tryd.prog 52 #[.pointer (some ⟨pm, 0, none⟩), .pointer (some ⟨pl, 0, none⟩), .pointer (some ⟨pa, 0, none⟩)] encTry (fun _ => none) () := by
  intro τ q n l I Ix t0 W hp h0 hY
  refine callsIn_wide.2 ?_
  obtain ⟨hcap, hv⟩ : CapAtt most j v pm pl pa W ∧ Void W v := hp.atc
  have c0 := hcap.m.cell 0
  simp at c0
  show Calls Tryd.prog 52 #[.func (.yield l) #[] #[], .pointer (some ⟨pm, 0, none⟩), .pointer (some ⟨pl, 0, none⟩), .pointer (some ⟨pa, 0, none⟩)] W _
  have c1 := hcap.l.cell 0
  have c2 := hcap.a.cell 0
  simp at c1 c2
  have hT := turn_try_void j v hcap.num hv
  have hE : ∀ W', Below W.heap.size W W' → (∃ v, Ending.returned (.tuple #[]) = .returned v) ∧ ∃ pre s' t', Pair q nores (capVoid most j v pm pl pa) W t' s' W' ∧ ((I (pre, s') t' ∧ (none : Option ((Nat × Bool) × Unit)) = none) ∨ Ix (pre, s') t') :=
    fun W' h => ⟨⟨_, rfl⟩, [], (), t0, hp.below h, .inl ⟨h0, rfl⟩⟩
  have HE := Lib.hid hE
  clear hcap hE hp hY h0
  obtain hv | ⟨b0, hv, _⟩ := hv
  all_goals
    subst hv
    go_enter Tryd.func52, Tryd.ntmps52
    go_wp2_with fail
    refine wp_loop_rounds 1 ?_
    rw [rounds_succ]
    go_wp2_with (go_at_call 34; refine hT.mono ?_; rintro e w1 ⟨rfl, hB⟩)
    · refine bodyPost_ret (results_none rfl _ _ _) rfl ?_
      exact HE.out _ hB
    · refine bodyPost_end (results_none rfl _ _ _) rfl ?_
      exact HE.out _ (Below.refl _ _)

/-! ### attempts, Tries: the values -/
theorem attempts_any (v : Value) (j most : Int) (w : World) : Calls Tryd.prog 36 #[.agg #[v], .int .i64 j, .int .i64 most] w fun e w' =>
    e = .returned (.func (.func 52) #[] #[.pointer (some ⟨w.heap.size + 1 + 1, 0, none⟩), .pointer (some ⟨w.heap.size, 0, none⟩), .pointer (some ⟨w.heap.size + 1, 0, none⟩)]) ∧
    ((w.alloc (.cells #[v] 83)).alloc (.cells #[.int .i64 j] 3)).alloc (.cells #[.int .i64 most] 3) = w' := by
  go_enter Tryd.func36, Tryd.ntmps36
  go_wp2
  go_ret
  exact ⟨by simp, rfl⟩
theorem capAtt_made (v : Value) (j most : Int) (w : World) (hn : Num w) :
    CapAtt most j v (w.heap.size + 1 + 1) w.heap.size (w.heap.size + 1) (((w.alloc (.cells #[v] 83)).alloc (.cells #[.int .i64 j] 3)).alloc (.cells #[.int .i64 most] 3)) := by
  refine ⟨?_, ((Blk.new w _ _).alloc _).alloc _, ?_, hn.below ((((Below.refl _ _).alloc (Nat.le_refl _) _).alloc (by simp) _).alloc (by simp; omega) _)⟩
  · have := Blk.new ((w.alloc (.cells #[v] 83)).alloc (.cells #[.int .i64 j] 3)) 3 #[.int .i64 most]
    rwa [World.size_alloc, World.size_alloc] at this
  · have := (Blk.new (w.alloc (.cells #[v] 83)) 3 #[.int .i64 j]).alloc (.cells #[.int .i64 most] 3)
    rwa [World.size_alloc] at this
/-- What Tries' iterator has captured. -/
structure CapTr (most j : Int) (v : Value) (pv pa pm : Nat) (w : World) : Prop where
  v : Blk w pv 24 #[v]
  a : Blk w pa 3 #[.int .i64 j]
  m : Blk w pm 3 #[.int .i64 most]
  num : Num w
theorem Tries_any (p : Option Addr) (j most : Int) (w : World) : Calls Tryd.prog 15 #[.pointer p, .int .i64 j, .int .i64 most] w fun e w' =>
    e = .returned (.func (.func 35) #[] #[.pointer (some ⟨w.heap.size, 0, none⟩), .pointer (some ⟨w.heap.size + 1, 0, none⟩), .pointer (some ⟨w.heap.size + 1 + 1, 0, none⟩)]) ∧
    ((w.alloc (.cells #[.pointer p] 24)).alloc (.cells #[.int .i64 j] 3)).alloc (.cells #[.int .i64 most] 3) = w' := by
  go_enter Tryd.func15, Tryd.ntmps15
  go_wp2
  go_ret
  exact ⟨by simp, rfl⟩
theorem capTr_made (v : Value) (j most : Int) (w : World) (hn : Num w) :
    CapTr most j v w.heap.size (w.heap.size + 1) (w.heap.size + 1 + 1) (((w.alloc (.cells #[v] 24)).alloc (.cells #[.int .i64 j] 3)).alloc (.cells #[.int .i64 most] 3)) := by
  refine ⟨((Blk.new w _ _).alloc _).alloc _, ?_, ?_, hn.below ((((Below.refl _ _).alloc (Nat.le_refl _) _).alloc (by simp) _).alloc (by simp; omega) _)⟩
  · have := (Blk.new (w.alloc (.cells #[v] 24)) 3 #[.int .i64 j]).alloc (.cells #[.int .i64 most] 3)
    rwa [World.size_alloc] at this
  · have := Blk.new ((w.alloc (.cells #[v] 24)).alloc (.cells #[.int .i64 j] 3)) 3 #[.int .i64 most]
    rwa [World.size_alloc, World.size_alloc] at this
end Go.Proofs.YthiaaapcbiameaaDoor
