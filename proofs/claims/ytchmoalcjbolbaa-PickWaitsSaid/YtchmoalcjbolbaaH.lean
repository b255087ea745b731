/- Check. -/
import Derived.Test.YtchmoalcjbolbaaF
import Derived.Recover
import Derived.Defers
import Derived.Tactics2
namespace Go.Proofs.Ytchmoalcjbolbaa
open Go.RowKit Go.Shelf
attribute [local go_sem] Oper.semAt_some

set_option maxRecDepth 100000 in
set_option maxHeartbeats 800000 in
theorem raisedAt_nil (w : World) : Calls Try.prog 31 #[.nilIface] w fun e w' => e = .returned (.tuple #[.int .i64 0, .bool false]) ∧ w = w' := by
  go_enter Try.func31, Try.ntmps31
  go_wp2_with fail
  go_ret2
  exact ⟨rfl, rfl⟩

set_option maxRecDepth 100000 in
set_option maxHeartbeats 800000 in
theorem raisedAt_at (k : Int) (w : World) : Calls Try.prog 31 #[.iface 77 (.int .i64 k)] w fun e w' => e = .returned (.tuple #[.int .i64 k, .bool true]) ∧ w = w' := by
  have hta : ∀ w, (Instr.typeAssert (.iface 77 (.int .i64 k)) 20 77 true).run Try.prog w = .ok (.tuple #[.int .i64 k, .bool true]) w := fun w => by
    simp [Instr.typeAssert, run_underlying Try.underlying77, go_sem, Result.andThen]
  go_enter Try.func31, Try.ntmps31
  go_wp2_with fail
  go_ret2
  exact ⟨rfl, rfl⟩

set_option maxRecDepth 100000 in
set_option maxHeartbeats 800000 in
theorem before_ok (A : Option Addr) (n c : Nat) (w : World) : Calls Try.prog 32 #[.slice A n c] w fun e w' =>
    e = .returned (.agg #[.slice none 0 0, .int .i64 0, .int .i64 (-1), .slice A n c]) ∧ Below w.heap.size w w' := by
  go_enter Try.func32, Try.ntmps32
  go_wp2_with fail
  exact bodyPost_ret (v := .agg #[.slice none 0 0, .int .i64 0, .int .i64 (-1), .slice A n c]) (by simp [results, Try.results32, go_sem]) rfl ⟨rfl, (Below.refl _ w).alloc (Nat.le_refl _) _⟩

set_option maxRecDepth 100000 in
set_option maxHeartbeats 1600000 in
theorem catch_panicking (p q : Nat) (x y : Value) (k : Int) (older : List PanicEntry) (w : World) (hp : w.cell? ⟨p, 0, none⟩ = some x) (hq : w.cell? ⟨q, 0, none⟩ = some y) (fp : w.frozen? ⟨p, 0, none⟩ = false) (fq : w.frozen? ⟨q, 0, none⟩ = false) (hpq : p ≠ q) :
    CallsD Try.prog 30 #[.pointer (some ⟨p, 0, none⟩), .pointer (some ⟨q, 0, none⟩)] (.panicking ({ v := .iface 77 (.int .i64 k), recovered := false } :: older)) w fun e u' w' =>
      e = .returned (.tuple #[]) ∧ u' = .panicking ({ v := .iface 77 (.int .i64 k), recovered := true } :: older) ∧ w' = (w.setCell ⟨p, 0, none⟩ (.int .i64 k)).setCell ⟨q, 0, none⟩ (.int .i64 2) := by
  refine callsD_of_wpS Try.func30 rfl fun c₀ cs hu => ?_
  apply wpS_seq
  apply wpS_region
  simp [wpOpsS, go_sem, recoverD, hu, Try.ntmps30, Exit.thenS]
  refine (raisedAt_at k w).mono ?_
  rintro e w' ⟨rfl, rfl⟩
  simp [go_sem]
  apply wpS_seq
  apply wpS_region
  simp [wpOpsS, go_sem, Exit.thenS]
  refine wpS_cond (t := true) (by simp [Act.eval, Array.replicate]) ?_
  simp only [if_true]
  apply wpS_region
  simp [wpOpsS, go_sem, hp, hq, fp, fq, bodyPostS, results, Try.results30]

set_option maxRecDepth 100000 in
set_option maxHeartbeats 1600000 in
theorem catch_idle (p q : Nat) (w : World) :
    CallsD Try.prog 30 #[.pointer (some ⟨p, 0, none⟩), .pointer (some ⟨q, 0, none⟩)] .returning w fun e u' w' =>
      e = .returned (.tuple #[]) ∧ u' = .returning ∧ w' = w := by
  refine callsD_of_wpS Try.func30 rfl fun c₀ cs hu => ?_
  apply wpS_seq
  apply wpS_region
  simp [wpOpsS, go_sem, recoverD, hu, Try.ntmps30, Exit.thenS]
  refine (raisedAt_nil w).mono ?_
  rintro e w' ⟨rfl, rfl⟩
  simp [go_sem]
  apply wpS_seq
  apply wpS_region
  simp [wpOpsS, go_sem, Exit.thenS]
  refine wpS_cond (t := false) (by simp [Act.eval, Array.replicate]) ?_
  simp only [Bool.false_eq_true, if_false]
  refine wpS_of_wp (wp_skip ?_)
  cases c₀
  simp_all [bodyPostS, results, Try.results30]

/-- The first turn that may not be. -/
def badAt (l : List Tn) : Option Nat := l.findIdx? (fun x => !validB x)
def AllValid (l : List Tn) : Prop := ∀ x ∈ l, validB x = true
theorem badAt_none {l : List Tn} (h : AllValid l) : badAt l = none := by
  unfold badAt
  rw [List.findIdx?_eq_none_iff]
  intro x hx
  rw [h x hx]; rfl
theorem badAt_some {l : List Tn} {k : Nat} {x : Tn} (hx : l[k]? = some x) (hv : validB x = false) (h : AllValid (l.take k)) : badAt l = some k := by
  unfold badAt
  obtain ⟨hlt, hge⟩ := List.getElem?_eq_some_iff.1 hx
  rw [List.findIdx?_eq_some_iff_getElem]
  refine ⟨hlt, by rw [hge, hv]; rfl, fun j hj => ?_⟩
  have := h l[j] (List.mem_take_iff_getElem.2 ⟨j, by omega, rfl⟩)
  rw [this]
  decide
theorem allValid_next {l : List Tn} {k : Nat} {x : Tn} (hx : l[k]? = some x) (hv : validB x = true) (h : AllValid (l.take k)) : AllValid (l.take (k + 1)) := by
  rw [(parts_at hx).2]
  intro y hy
  rcases List.mem_append.1 hy with hy | hy
  · exact h y hy
  · simp at hy; subst hy; exact hv
def checkOf (l : List Tn) : Int × Int := match badAt l with
  | some k => ((k : Int), 2)
  | none => (0, 0)

/-- The view at place k of the turns l, and what it keeps. -/
structure ViewAt (w0 : World) (bv : Nat) (l : List Tn) (k : Nat) (W : World) : Prop where
  blk : ∃ u t v, Blk W bv 63 #[u, t, .int .i64 ((k : Int) - 1), v] ∧ Turns w0 v (l.drop k)
  bl : Below w0.heap.size w0 W
  le : k ≤ l.length
  valid : AllValid (l.take k)
def restLen (W : World) (bv : Nat) : Nat := match W.cell? ⟨bv, 3, none⟩ with
  | some (.slice _ n _) => n
  | _ => 0
theorem ViewAt.rest {w0 W : World} {bv k : Nat} {l : List Tn} (h : ViewAt w0 bv l k W) : restLen W bv = l.length - k := by
  obtain ⟨u, t, v, hb, ht⟩ := h.blk
  obtain ⟨A, c, rfl, _⟩ := ht.form
  have := hb.cell 3
  unfold restLen
  rw [this]
  simp
theorem Stepped.view {w0 w w' : World} {bv k : Nat} {l l' : List Tn} {x : Tn} (h : Stepped w0 w bv ((k : Int) - 1 + 1) x l' w') (hv : ViewAt w0 bv l k w) (hd : l.drop k = x :: l') (hbv : w0.heap.size ≤ bv) (hx : validB x = true) : ViewAt w0 bv l (k + 1) w' := by
  have hlt : k < l.length := by
    have := congrArg List.length hd
    simp at this
    omega
  have hk : l[k]? = some x := by
    have := congrArg (fun m => m[0]?) hd
    simpa using this
  obtain ⟨⟨B, d, v', h1, h2, h3⟩, h4, h5⟩ := h
  refine ⟨⟨.slice B x.runs.length d, .int .i64 x.took, v', ?_, ?_⟩, hv.bl.trans ((h4.below (fun i e => by subst e; exact hbv) hv.bl.size)), by omega, allValid_next hk hx hv.valid⟩
  · have e : ((k + 1 : Nat) : Int) - 1 = (k : Int) - 1 + 1 := by omega
    rw [e]; exact h1
  · have e : l.drop (k + 1) = l' := by
      have := congrArg List.tail hd
      simpa using this
    rw [e]; exact h3

theorem ViewAt.start {w0 W : World} {bv : Nat} {u t v : Value} {l : List Tn} (h : Blk W bv 63 #[u, t, .int .i64 (-1), v]) (hl : Turns w0 v l) (hB : Below w0.heap.size w0 W) : ViewAt w0 bv l 0 W :=
  ⟨⟨u, t, v, h, hl⟩, hB, Nat.zero_le _, by intro x hx; simp at hx⟩
structure CK (w0 : World) (bv : Nat) (l : List Tn) (k : Nat) (W : World) : Prop where
  b0 : Blk W w0.heap.size 3 #[.int .i64 0]
  b1 : Blk W (w0.heap.size + 1) 35 #[.int .i64 0]
  far : w0.heap.size + 2 ≤ bv
  view : ViewAt w0 bv l k W
theorem CK.next {w0 w w' : World} {bv k : Nat} {l l' : List Tn} {x : Tn} (h : CK w0 bv l k w) (hs : Stepped w0 w bv ((k : Int) - 1 + 1) x l' w') (hd : l.drop k = x :: l') (hx : validB x = true) : CK w0 bv l (k + 1) w' := by
  have hf := h.far
  exact ⟨h.b0.keep (hs.keep.block _ h.b0.lt (by omega)), h.b1.keep (hs.keep.block _ h.b1.lt (by omega)), hf, hs.view h.view hd (by omega) hx⟩

theorem drop_get {α : Type} {l l' : List α} {k : Nat} {x : α} (hd : l.drop k = x :: l') : l[k]? = some x ∧ k < l.length := by
  have h := congrArg (fun m => m[0]?) hd
  have h1 := congrArg List.length hd
  simp at h h1
  exact ⟨h, by omega⟩
theorem drop_nil {α : Type} {l : List α} {k : Nat} (hd : l.drop k = []) : l.take k = l ∧ l.length ≤ k := by
  have := List.drop_eq_nil_iff.1 hd
  exact ⟨List.take_of_length_le this, this⟩

def CheckPost (w : World) (l : List Tn) (e : Ending) (w' : World) : Prop :=
  e = .returned (.tuple #[.int .i64 (checkOf l).1, .int .i64 (checkOf l).2]) ∧ Below w.heap.size w w'

theorem check_end {w wr : World} {l : List Tn} {x y : Int} (hE : checkOf l = (x, y)) (hB : Below w.heap.size w wr) (a b : Int) (h : (x, y) = (a, b)) :
    CheckPost w l (.returned (.tuple #[.int .i64 a, .int .i64 b])) ((wr.setCell ⟨w.heap.size, 0, none⟩ (.int .i64 a)).setCell ⟨w.heap.size + 1, 0, none⟩ (.int .i64 b)) := by
  cases h
  exact ⟨by rw [hE], (hB.setCell (Nat.le_refl _) _).setCell (by simp) _⟩

set_option maxRecDepth 100000 in
set_option maxHeartbeats 3200000 in
theorem Check_ok (v : Value) (l : List Tn) (w : World) (hl : Turns w v l) (hle : l.length ≤ 1000) : Calls Try.prog 15 #[v] w (CheckPost w l) := by
  obtain ⟨A, c, rfl, hc1, hc2⟩ := hl.form
  have hmf : ∀ (fn : Fn) (first cap : Array Value) (w : World), (Instr.makeFunc fn first cap).run Try.prog w = .ok (.func fn first cap) w := fun _ _ _ _ => rfl
  go_enter_defers Try.func15, Try.ntmps15
  go_wp2_with (go_at_call 32; refine (before_ok _ _ _ _).mono ?_; rintro e w1 ⟨rfl, hb1⟩)
  obtain ⟨bv, hbv⟩ : ∃ bv, w1.heap.size = bv := ⟨_, rfl⟩
  obtain ⟨w2, hw2⟩ : ∃ w2, w1.alloc (.cells #[.slice none 0 0, .int .i64 0, .int .i64 (-1), .slice A l.length c] 63) = w2 := ⟨_, rfl⟩
  have hck : CK w bv l 0 w2 := by
    have hk0 : Blk ((w.alloc (.cells #[.int .i64 0] 3)).alloc (.cells #[.int .i64 0] 35)) w.heap.size 3 #[.int .i64 0] := (Blk.new w _ _).alloc _
    have hk1 := Blk.new (w.alloc (.cells #[.int .i64 0] 3)) 35 #[.int .i64 0]
    rw [World.size_alloc] at hk1
    have hs := hb1.size
    simp only [World.size_alloc] at hs
    have hB : Below w.heap.size w w1 := (((Below.refl _ w).alloc (Nat.le_refl _) _).alloc (by simp) _).trans (hb1.mono (by simp; omega))
    rw [← hw2]
    exact ⟨(hk0.keep (hb1.block _ hk0.lt)).alloc _, (hk1.keep (hb1.block _ hk1.lt)).alloc _, by omega, ViewAt.start (by rw [← hbv]; exact Blk.new w1 63 _) hl (hB.alloc hB.size _)⟩
  rw [hbv, hw2]
  clear hbv hw2 hb1 w1
  have hleI : (l.length : Int) ≤ 1000 := by omega
  go_loopw [8] (fun _ wr => ∃ k : Nat, CK w bv l k wr) (fun _ wr => restLen wr bv)
  case atStart => exact ⟨0, hck⟩
  case round =>
    obtain ⟨k, hI⟩ := hrel
    clear hck
    have Hm := Lib.hid hI.view.rest
    obtain ⟨u, t, v, hb, ht⟩ := hI.view.blk
    have hkl := hI.view.le
    have z0 := hI.b0.cell 0
    have z1 := hI.b1.cell 0
    have f0 := hI.b0.frozen 0
    have f1 := hI.b1.frozen 0
    simp at z0 z1
    cases hd : l.drop k with
    | nil =>
      rw [hd] at ht
      have hsn := step_nil bv u t _ v wr hb (ht.kept (kept_below hI.view.bl (Nat.le_refl _)))
      have hE : checkOf l = (0, 0) := by
        have h1 := hI.view.valid
        rw [(drop_nil hd).1] at h1
        unfold checkOf
        rw [badAt_none h1]
      have HB := Lib.hid (hI.view.bl)
      have HE := Lib.hid hE
      clear hE hd hb ht hI
      go_wp2_with (go_at_call 33; refine hsn.mono ?_; rintro e w' ⟨rfl, rfl⟩)
      have HC := Lib.hid (check_end HE.out HB.out 0 0 rfl)
      refine leaves_cons (f := 30) (args := #[.pointer (some ⟨w.heap.size, 0, none⟩), .pointer (some ⟨w.heap.size + 1, 0, none⟩)]) (by simp) (by simp [go_sem]) ?_
      refine (catch_idle _ _ _).mono ?_
      rintro e u' w'' ⟨rfl, rfl, rfl⟩
      simp [Leaves, settle, results, Try.results15, go_sem, z0, z1]
      exact HC.out
    | cons x l' =>
      rw [hd] at ht
      have hsc := step_cons bv u t v _ x l' w wr hb ht hI.view.bl (by have := hI.far; omega) (by omega)
      have HI := Lib.hid hI
      have HD := Lib.hid hd
      clear hd hb ht hI
      go_wp2_with (go_at_call 33; refine hsc.mono ?_; rintro e w' ⟨hst, (⟨hv, rfl⟩ | ⟨hv, rfl⟩)⟩)
      · have hn := HI.out.next hst HD.out hv
        refine ⟨⟨k + 1, hn⟩, ?_⟩
        rw [Hm.out, hn.view.rest]
        have := (drop_get HD.out).2
        omega
      · have hE : checkOf l = ((k : Int), 2) := by
          unfold checkOf
          rw [badAt_some (drop_get HD.out).1 hv HI.out.view.valid]
        have hB' : Below w.heap.size w w' := HI.out.view.bl.trans (hst.keep.below (fun i e => by have := HI.out.far; omega) HI.out.view.bl.size)
        have k0 := HI.out.b0.keep (hst.keep.block _ HI.out.b0.lt (by have := HI.out.far; omega))
        have k1 := HI.out.b1.keep (hst.keep.block _ HI.out.b1.lt (by have := HI.out.far; omega))
        have y0 := k0.cell 0
        have y1 := k1.cell 0
        have g0 := k0.frozen 0
        have g1 := k1.frozen 0
        simp at y0 y1
        have HC := Lib.hid (check_end hE hB' (k : Int) 2 rfl)
        clear k0 k1 hst
        refine leaves_cons (f := 30) (args := #[.pointer (some ⟨w.heap.size, 0, none⟩), .pointer (some ⟨w.heap.size + 1, 0, none⟩)]) (by simp) (by simp [go_sem]) ?_
        refine (catch_panicking _ _ _ _ (k : Int) [] _ y0 y1 g0 g1 (by simp)).mono ?_
        rintro e u' w'' ⟨rfl, rfl, rfl⟩
        simp [Leaves, settle, results, Try.results15, go_sem, y0, y1]
        exact HC.out
end Go.Proofs.Ytchmoalcjbolbaa
