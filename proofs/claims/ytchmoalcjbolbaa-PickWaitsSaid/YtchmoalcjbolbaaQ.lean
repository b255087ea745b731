/- Went. -/
import Derived.Test.YtchmoalcjbolbaaP
namespace Go.Proofs.Ytchmoalcjbolbaa
open Go.RowKit Go.Shelf Go.Sort
attribute [local go_sem] Oper.semAt_some

set_option maxRecDepth 100000 in
set_option maxHeartbeats 1600000 in
theorem catch42_panicking (r : Nat) (x : Value) (k : Int) (older : List PanicEntry) (w : World) (hb : Blk w r 45 #[x]) :
    CallsD Try.prog 42 #[.pointer (some ⟨r, 0, none⟩)] (.panicking ({ v := .iface 77 (.int .i64 k), recovered := false } :: older)) w fun e u' w' =>
      e = .returned (.tuple #[]) ∧ u' = .panicking ({ v := .iface 77 (.int .i64 k), recovered := true } :: older) ∧ ∃ B v w1, w.heap.size ≤ B ∧ Told B v [] w1 ∧ RowKit.Below w.heap.size w w1 ∧ w' = w1.setCell ⟨r, 0, none⟩ (.func (.func 49) #[] #[.pointer (some ⟨B, 0, none⟩)]) := by
  refine callsD_of_wpS Try.func42 rfl fun c₀ cs hu => ?_
  apply wpS_seq
  apply wpS_region
  simp [wpOpsS, go_sem, recoverD, hu, Try.ntmps42, Exit.thenS]
  refine (raisedAt_at k w).mono ?_
  rintro e w' ⟨rfl, rfl⟩
  simp [go_sem]
  apply wpS_seq
  apply wpS_region
  simp [wpOpsS, go_sem, Exit.thenS]
  refine wpS_cond (t := true) (by simp [Act.eval, Array.replicate]) ?_
  simp only [if_true]
  apply wpS_region
  simp [wpOpsS, go_sem]
  refine (tell_nil 2 w).mono ?_
  rintro e w1 ⟨B, v, rfl, hB, hT, hb1⟩
  have hk := hb.keep (hb1.block _ hb.lt)
  have hp1 := hk.cell 0
  have fp1 := hk.frozen 0
  simp at hp1
  simp [go_sem, hp1, fp1, bodyPostS, results, Try.results42]
  exact ⟨B, hB, v, w1, hT, hb1, rfl⟩

set_option maxRecDepth 100000 in
set_option maxHeartbeats 1600000 in
theorem catch42_idle (r : Nat) (w : World) :
    CallsD Try.prog 42 #[.pointer (some ⟨r, 0, none⟩)] .returning w fun e u' w' => e = .returned (.tuple #[]) ∧ u' = .returning ∧ w' = w := by
  refine callsD_of_wpS Try.func42 rfl fun c₀ cs hu => ?_
  apply wpS_seq
  apply wpS_region
  simp [wpOpsS, go_sem, recoverD, hu, Try.ntmps42, Exit.thenS]
  refine (raisedAt_nil w).mono ?_
  rintro e w' ⟨rfl, rfl⟩
  simp [go_sem]
  apply wpS_seq
  apply wpS_region
  simp [wpOpsS, go_sem, Exit.thenS]
  refine wpS_cond (t := false) (by simp [Act.eval, Array.replicate]) ?_
  simp only [Bool.false_eq_true, if_false]
  refine wpS_of_wp (wp_skip ?_)
  cases c₀
  simp_all [bodyPostS, results, Try.results42]

set_option maxRecDepth 100000 in
set_option maxHeartbeats 3200000 in
theorem Went_ok (v : Value) (l : List Tn) (w : World) (hl : Turns w v l) (hsm : Small l) : Calls Try.prog 22 #[v] w (WaitsPost 2 w l) := by
  obtain ⟨A, c, rfl, hc1, hc2⟩ := hl.form
  have hmf : ∀ (fn : Fn) (first cap : Array Value) (w : World), (Instr.makeFunc fn first cap).run Try.prog w = .ok (.func fn first cap) w := fun _ _ _ _ => rfl
  have hca := countAll_ok _ l (w.alloc (.cells #[.nilFunc] 45)) (hl.alloc _) hsm
  have hwf : ∀ e ∈ evK l l.length, W64 e.t := fun e he => by
    obtain ⟨_, h1, h2⟩ := evK_mem he
    exact hl.wf h1 e.t h2
  have hln : (evK l l.length).length ≤ 1000000 := by
    have := evK_length hsm l.length (Nat.le_refl _)
    have := hsm.1
    omega
  have Hl := Lib.hid hl
  clear hl
  go_enter_defers Try.func22, Try.ntmps22
  go_wp2_with (first
    | (go_at_call 41; refine hca.mono ?_; rintro e w1 ⟨hb1, (⟨hE, rfl, hcm⟩ | ⟨k, hE, rfl⟩)⟩)
    | (go_at_call 40; have h40 := waits_tell (p := 2) (.inr rfl) hb1 hcm hwf hln; refine h40.mono ?_; rintro e w2 ⟨ts, B, v2, rfl, hfin, y0, f0⟩))
  · refine leaves_cons (f := 42) (args := #[.pointer (some ⟨w.heap.size, 0, none⟩)]) (by simp) (by simp [go_sem]) ?_
    refine (catch42_idle _ _).mono ?_
    rintro e u' w'' ⟨rfl, rfl, rfl⟩
    simp [Leaves, settle, results, Try.results22, go_sem, y0]
    exact hfin.out hE _
  · have hk := (Blk.new w 45 #[.nilFunc]).keep (hb1.block _ (by simp))
    refine leaves_cons (f := 42) (args := #[.pointer (some ⟨w.heap.size, 0, none⟩)]) (by simp) (by simp [go_sem]) ?_
    refine (catch42_panicking _ _ (k : Int) [] _ hk).mono ?_
    rintro e u' w'' ⟨rfl, rfl, B, v2, w2, hB, hT, hb2, rfl⟩
    have hk2 := hk.keep (hb2.block _ hk.lt)
    have y0 := hk2.cell 0
    simp at y0
    simp [Leaves, settle, results, Try.results22, go_sem, y0]
    exact waits_bad hE hb1 hB hT hb2 _
end Go.Proofs.Ytchmoalcjbolbaa
