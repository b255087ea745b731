/- What is counted of all threads. -/
import Derived.Test.YtchmoalcjbolbaaL
namespace Go.Proofs.Ytchmoalcjbolbaa
open Go.RowKit Go.Shelf Go.Sort
attribute [local go_sem] Oper.semAt_some

structure AI (w0 : World) (v : Value) (W : World) : Prop where
  b1 : Blk W (w0.heap.size + 1) 66 #[.map (some w0.heap.size)]
  b2 : Blk W (w0.heap.size + 2) 33 #[v]
  bl : RowKit.Below w0.heap.size w0 W
theorem AI.keepB {w0 : World} {v : Value} {W W' : World} {B : Nat} (h : AI w0 v W) (hk : Keep (fun k => B ≤ k) W W') (hB : w0.heap.size + 3 ≤ B) : AI w0 v W' :=
  ⟨h.b1.keepB hk (by omega), h.b2.keepB hk (by omega), Below.keepB h.bl hk (by omega) (Nat.le_refl _)⟩
theorem AI.alloc {w0 : World} {v : Value} {W : World} (h : AI w0 v W) (o : Obj) : AI w0 v (W.alloc o) :=
  ⟨h.b1.alloc _, h.b2.alloc _, h.bl.alloc h.bl.size _⟩
theorem AI.grown {w0 : World} {v : Value} {W : World} (h : AI w0 v W) (n : Nat) (os : Array Obj) : AI w0 v (grow (W.drewN n) os) :=
  ⟨h.b1.grown _ _, h.b2.grown _ _, Below.grown h.bl (Nat.le_refl _) _ _⟩
theorem AI.grownBy {w0 : World} {v : Value} {W W' : World} (h : AI w0 v W) (hg : W.grownBy W' (some w0.heap.size)) : AI w0 v W' :=
  ⟨h.b1.keep (hg.block _ h.b1.lt (by simp)), h.b2.keep (hg.block _ h.b2.lt (by simp)),
    ⟨hg.os.trans h.bl.os, hg.tape.trans h.bl.tape, hg.output.trans h.bl.output, Nat.le_trans h.bl.size hg.size, fun k hk => (hg.block k (by have := h.bl.size; omega) (by intro e; injection e with e; omega)).trans (h.bl.block k hk)⟩⟩

def AllPost (w : World) (l : List Tn) (e : Ending) (w' : World) : Prop :=
  RowKit.Below w.heap.size w w' ∧ ((badOf l = none ∧ e = .returned (.map (some w.heap.size)) ∧ CM w' w.heap.size (evK l l.length)) ∨ ∃ k, badAt l = some k ∧ e = .panicked (wrongAt (k : Int)))

set_option maxRecDepth 100000 in
set_option maxHeartbeats 3200000 in
theorem countAll_ok (v : Value) (l : List Tn) (w : World) (hl : Turns w v l) (hsm : Small l) : Calls Try.prog 41 #[v] w (AllPost w l) := by
  obtain ⟨A, c, rfl, hc1, hc2⟩ := hl.form
  have hle := hsm.1
  have hmm := @run_makeMap Try.prog
  refine calls_of_wp_marks 5 Try.func41 rfl ?_
  simp only [Try.ntmps41, List.size_toArray, List.length_cons, List.length_nil, Nat.reduceAdd, Nat.reduceSub, Array.replicate_succ, Array.replicate_zero, List.push_toArray, List.append_toArray, List.nil_append, List.cons_append]
  go_wp2_with (go_at_call 36; refine (threads_any _ _ _ _).mono ?_; rintro e w' ⟨rfl, rfl⟩)
  obtain ⟨W0, hW0⟩ : ∃ W0, ((w.alloc (.map #[] 0)).alloc (.cells #[.map (some w.heap.size)] 66)).alloc (.cells #[.slice A l.length c] 33) = W0 := ⟨_, rfl⟩
  have hsz : W0.heap.size = w.heap.size + 3 := by rw [← hW0]; simp
  have hfi : AI w (.slice A l.length c) W0 := by
    rw [← hW0]
    refine ⟨?_, ?_, ?_⟩
    · have := (Blk.new (w.alloc (.map #[] 0)) 66 #[.map (some w.heap.size)]).alloc (.cells #[.slice A l.length c] 33)
      rwa [World.size_alloc] at this
    · have := Blk.new ((w.alloc (.map #[] 0)).alloc (.cells #[.map (some w.heap.size)] 66)) 33 #[.slice A l.length c]
      rwa [World.size_alloc, World.size_alloc] at this
    · exact (((RowKit.Below.refl _ w).alloc (Nat.le_refl _) _).alloc (by simp) _).alloc (by simp; omega) _
  have hcm : CM W0 w.heap.size [] := by
    rw [← hW0]
    exact (CM.made w).keep (by rw [Below.heap_alloc _ _ _ (by simp; omega), Below.heap_alloc _ _ _ (by simp)])
  rw [hW0]
  clear hW0
  refine wp_rangeE 4 rfl (enters_of Try.func46 (by kernel_rfl) rfl) (threads1_seqs l w (w.heap.size + 2) (.slice A l.length c) hl hle (by omega)) (by rintro x xa ⟨B, d, X, m, c', rfl⟩; rfl)
    (fun evs W => AI w (.slice A l.length c) W ∧ CM W w.heap.size evs)
    (fun cd evs W => False)
    (fun s X Y hs hk => ⟨hs.1.keepB hk (by omega), hs.2.keep (hk.block _ hs.2.lt (by omega))⟩)
    (fun cd s X Y hs hk => hs)
    (fun pre W' hi => ⟨hi.1.b2, hi.1.bl⟩) ⟨hfi, hcm⟩
    ?round ?done ?panic ?stop
  case round =>
    rintro lp pre e rest W1 xa hszW hx ⟨hfi1, hcm1⟩ ⟨B, d, X, m, c', rfl⟩
    gi_wp2
    refine ⟨(Since.refl _ _).alloc _, ⟨hfi1.alloc _, hcm1.keep (Below.heap_alloc _ _ _ hcm1.lt)⟩, ?_⟩
    rintro W2 ht ⟨hfi2, hcm2⟩
    have hbx := (Blk.new W1 63 #[.slice B e.x.runs.length d, .int .i64 e.x.took, .int .i64 (e.at_ : Int), .slice X m c']).keep (ht.at_ (Blk.new W1 _ _) rfl)
    have hmem : e ∈ evK l (goodTo l) := by rw [hx]; simp
    have hem := evK_mem hmem
    have hwt : W64 e.t := hl.wf hem.2.1 e.t hem.2.2
    have hat : e.at_ ≤ 1000000 := by have := goodTo_le l; have := hem.1; omega
    have hplen : pre.length + 1 ≤ 1000000 := by
      have h1 := congrArg List.length hx
      have h2 := evK_length hsm (goodTo l) (goodTo_le l)
      have h3 := goodTo_le l
      rw [List.length_append, List.length_cons] at h1
      omega
    have hcl := cntOf_le e.t pre
    have hcount := Lib.hid (fun n os => (count_ok (cntOf pre e.t) (.slice B e.x.runs.length d) e.x.took e.at_ (.slice X m c') e.t (grow (W2.drewN n) os) ⟨by omega, by omega, by omega, hat⟩))
    have hlook := fun n os => (hcm2.grown n os).look hwt
    have hb3 := fun n os => ((hfi2.b1).grown n os).cell 0
    have hx0 := fun n os => (hbx.grown n os).cell 0
    have hx1 := fun n os => (hbx.grown n os).cell 1
    have hx2 := fun n os => (hbx.grown n os).cell 2
    have hx3 := fun n os => (hbx.grown n os).cell 3
    simp at hb3 hx0 hx1 hx2 hx3
    have Hx := Lib.hid hx
    have Hcm := Lib.hid hcm2
    have Hfi := Lib.hid hfi2
    have Hsz : W1.heap.size + 1 = W2.heap.size := by rw [ht.size]; simp
    clear ht hx hmem hem hcm1 hfi1 hcm2 hfi2 hbx hcl hfi hcm
    gi_wp2
    refine wpIn_region_last9 (fun w' => ∃ p : GrownBy, w' = grow (W2.drewN p.n) p.os) (by kernel_rfl) (by kernel_rfl) (by kernel_rfl) (by kernel_rfl) rfl rfl ⟨⟨1, #[]⟩, by rw [grow_empty]; rfl⟩ ?_
    simp only [Oper.idle]
    repeat (quiet_step ((go_at_call 37; exact grown_count (hcount.out _ _))))
    refine wpQuiet_nil ?_
    rintro _ ⟨⟨nq, osq⟩, rfl⟩
    refine upd_last rfl rfl rfl rfl (Hcm.out.grown nq osq) hwt (by unfold maxLen; omega) (fun w3 hcm3 hg3 => ?_)
    have hfi3 := (Hfi.out.grown nq osq).grownBy hg3
    have hsin : Since W0.heap.size W2 w3 := ((Since.refl _ W2).grown nq osq).grownBy hg3 (by omega)
    clear hg3 hb3 hx0 hx1 hx2 hx3 hlook hcount
    gi_wp2
    exact ⟨by first | exact hsin | (rw [← hsz]; exact hsin), hfi3, hcm3⟩
  case done =>
    rintro D W1 hbad hD ⟨hfi1, hcm1⟩ hdef
    have y1 := hfi1.b1.cell 0
    simp at y1
    have hE : goodTo l = l.length := by
      unfold goodTo
      unfold badOf at hbad
      cases hb : badAt l with
      | none => rfl
      | some k => rw [hb] at hbad; simp at hbad
    rw [hE] at hcm1
    have HB := Lib.hid hbad
    clear hE hbad
    go_wp2
    refine ⟨by simp, .inl ⟨_, _, rfl, run_takeDeferred hdef, ?_⟩⟩
    refine ⟨_, results_tmp (t := 2) rfl _ _ _, ?_⟩
    exact ⟨hfi1.bl.trans (belowK_b (w := w) (Nat.le_refl _) _ _ _ _ (by omega) hdef rfl rfl), .inl ⟨HB.out, rfl, hcm1.keep (World.putObj_heap_other (by omega))⟩⟩
  case panic =>
    rintro D ch W1 hbad hD ⟨hfi1, hcm1⟩ hdef
    obtain ⟨k, hk, rfl⟩ : ∃ k, badAt l = some k ∧ wrongAt (k : Int) = ch := by
      unfold badOf at hbad
      cases hb : badAt l with
      | none => rw [hb] at hbad; simp at hbad
      | some k => rw [hb] at hbad; simp at hbad; exact ⟨k, rfl, hbad⟩
    refine ⟨by simp, .inl ⟨_, _, rfl, run_takeDeferred hdef, ?_⟩⟩
    exact ⟨hfi1.bl.trans (belowK_b (w := w) (Nat.le_refl _) _ _ _ _ (by omega) hdef rfl rfl), .inr ⟨k, hk, rfl⟩⟩
  case stop =>
    rintro D cd pre W1 hD hpre h hdef
    exact h.elim
end Go.Proofs.Ytchmoalcjbolbaa
