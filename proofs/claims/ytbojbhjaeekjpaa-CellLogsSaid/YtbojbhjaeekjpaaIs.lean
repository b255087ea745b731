/- The law's is, where an arena and the document's stand in the same state. -/
import Derived.Test.YtbojbhjaeekjpaaAc
import Derived.Test.YtbojbhjaeekjpaaHr
namespace Go.Proofs.Ytbojbhjaeekjpaa
open Go.RowKit Go.Shelf
attribute [local go_sem] Oper.semAt_some

theorem quiet_left' {P : Program} {f : FuncId} {args : Array Value} {w : World} {n : Nat} {v : Value} (h : Calls P f args (w.drewN n) fun e w' => e = .returned v ∧ w.drewN n = w') :
    Calls P f args (w.drewN n) fun e w' => e = .returned v ∧ ∃ k, w' = w.drewN k := h.mono fun _ _ ⟨he, hm⟩ => ⟨he, n, hm.symm⟩

/-- Between two rounds. -/
structure RJ (W0 : World) (N : Nat) (many : Nat) (pre : List (Nat × Acc)) (W : World) : Prop where
  keep : Keep (fun k => k = N) W0 W
  num : Blk W N 3 #[.int .i64 (pre.length : Int)]
  few : pre.length = 0 ∨ pre.length < many
/-- Where it was left. -/
structure RX (W0 : World) (N : Nat) (many : Nat) (pre : List (Nat × Acc)) (W : World) : Prop where
  keep : Keep (fun k => k = N) W0 W
  num : Blk W N 3 #[.int .i64 (pre.length : Int)]
  few : pre.length = max 1 many

theorem RJ.own (W0 : World) (N many : Nat) : OwnFrom W0.heap.size (RJ W0 N many) := fun s X Y row hs hg hr => by
  refine ⟨hs.keep.grown hg (fun k e => .inr (hr k e).1), hs.num.keep (hg.block _ hs.num.lt (fun e => ?_)), hs.few⟩
  obtain ⟨_, o, ho, hc⟩ := hr _ e.symm
  rw [show X.heap[N]? = some (Obj.cells _ 3 (0, 0)) from hs.num] at ho
  cases ho; cases hc
theorem RX.own (W0 : World) (N many : Nat) : OwnFrom W0.heap.size (RX W0 N many) := fun s X Y row hs hg hr => by
  refine ⟨hs.keep.grown hg (fun k e => .inr (hr k e).1), hs.num.keep (hg.block _ hs.num.lt (fun e => ?_)), hs.few⟩
  obtain ⟨_, o, ho, hc⟩ := hr _ e.symm
  rw [show X.heap[N]? = some (Obj.cells _ 3 (0, 0)) from hs.num] at ho
  cases ho; cases hc
theorem RJ.alloc {W0 W : World} {N many : Nat} {pre : List (Nat × Acc)} (h : RJ W0 N many pre W) (o : Obj) : RJ W0 N many pre (W.alloc o) := ⟨h.keep.alloc o, h.num.alloc o, h.few⟩

set_option maxRecDepth 100000 in
set_option maxHeartbeats 3200000 in
theorem is_ok {F : Nat → Prop} {b : Nat} {s : St} {v : Value} (many : Nat) (hm : many < 1000000000) (w : World) (h : Side F w b s v s) (hh : s.hist.length ≤ 1024) :
    Calls Try.prog 14 #[.pointer (some ⟨b, 0, none⟩), v, .int .i64 many] w fun e w' => e = .returned (.bool true) ∧ Below w.heap.size w w' := by
  obtain ⟨A0, c0, A0', c0', rfl⟩ := h.ref.form
  have BA : Below w.heap.size w (((w.alloc (.cells #[.slice A0 s.cs.length c0, .int .i64 s.most, .slice A0' s.hist.length c0'] 32)).alloc (.cells #[.int .i64 many] 3)).alloc (.cells #[.bool false] 4)) :=
    (((Below.refl _ _).alloc (Nat.le_refl _) _).alloc (by simp) _).alloc (by simp; omega) _
  have hrA := h.ref.below BA
  have hAA := h.are.keep (w' := (((w.alloc (.cells #[.slice A0 s.cs.length c0, .int .i64 s.most, .slice A0' s.hist.length c0'] 32)).alloc (.cells #[.int .i64 many] 3)).alloc (.cells #[.bool false] 4))) (fun k hk _ => BA.block k hk)
  have bxA : Blk (((w.alloc (.cells #[.slice A0 s.cs.length c0, .int .i64 s.most, .slice A0' s.hist.length c0'] 32)).alloc (.cells #[.int .i64 many] 3)).alloc (.cells #[.bool false] 4)) w.heap.size 32 #[.slice A0 s.cs.length c0, .int .i64 s.most, .slice A0' s.hist.length c0'] :=
    ((Blk.new w 32 _).alloc _).alloc _
  have mbA : Blk (((w.alloc (.cells #[.slice A0 s.cs.length c0, .int .i64 s.most, .slice A0' s.hist.length c0'] 32)).alloc (.cells #[.int .i64 many] 3)).alloc (.cells #[.bool false] 4)) (w.heap.size + 1) 3 #[.int .i64 many] := by
    have := (Blk.new (w.alloc (.cells #[.slice A0 s.cs.length c0, .int .i64 s.most, .slice A0' s.hist.length c0'] 32)) 3 #[.int .i64 many]).alloc (.cells #[.bool false] 4)
    rwa [World.size_alloc] at this
  have rbA : Blk (((w.alloc (.cells #[.slice A0 s.cs.length c0, .int .i64 s.most, .slice A0' s.hist.length c0'] 32)).alloc (.cells #[.int .i64 many] 3)).alloc (.cells #[.bool false] 4)) (w.heap.size + 1 + 1) 4 #[.bool false] := by
    have := Blk.new ((w.alloc (.cells #[.slice A0 s.cs.length c0, .int .i64 s.most, .slice A0' s.hist.length c0'] 32)).alloc (.cells #[.int .i64 many] 3)) 4 #[.bool false]
    simpa using this
  have hmost := h.ref.most
  refine calls_of_wp_marks 5 Try.func14 rfl ?_
  simp only [Try.ntmps14, List.size_toArray, List.length_cons, List.length_nil, Nat.reduceAdd, Nat.reduceSub, Array.replicate_succ, Array.replicate_zero, List.push_toArray, List.append_toArray, List.nil_append, List.cons_append]
  go_wp2_with (first
    | (go_at_call 30
       refine (refLast _ hrA hh).mono ?_
       rintro e w1 ⟨vL, rfl, hL1, hB1⟩
       obtain ⟨A1, c1, rfl, hc1, hc1m⟩ := hL1.form
       have B1 : Below w.heap.size w w1 := BA.trans (hB1.mono BA.size)
       have bx1 := bxA.keep (hB1.block _ bxA.lt)
       have mb1 := mbA.keep (hB1.block _ mbA.lt)
       have rb1 := rbA.keep (hB1.block _ rbA.lt)
       have ar1 := hAA.below hB1)
    | (go_at_call 17
       refine (Log_are _ ((ar1.alloc (.cells #[.int .i64 0] 3)).alloc (.cells #[.slice A1 s.hist.length c1] 30))).mono ?_
       rintro e w2 ⟨bs, Al, cl, rfl, hsn, hbs, hro, hB2⟩))
  have s1 := B1.size
  have sA := hB1.size
  have s2 := hB2.size
  simp only [World.size_alloc] at sA s2
  have hB12 : Below w.heap.size w w2 := ((B1.alloc B1.size _).alloc (le_alloc B1.size _) _).trans (hB2.mono (le_alloc (le_alloc B1.size _) _))
  have bx2 := ((bx1.alloc (.cells #[.int .i64 0] 3)).alloc (.cells #[.slice A1 s.hist.length c1] 30)).keep (hB2.block _ (by simp; omega))
  have mb2 := ((mb1.alloc (.cells #[.int .i64 0] 3)).alloc (.cells #[.slice A1 s.hist.length c1] 30)).keep (hB2.block _ (by simp; omega))
  have rb2 := ((rb1.alloc (.cells #[.int .i64 0] 3)).alloc (.cells #[.slice A1 s.hist.length c1] 30)).keep (hB2.block _ (by simp; omega))
  have fb2 := ((Blk.new w1 3 #[.int .i64 0]).alloc (.cells #[.slice A1 s.hist.length c1] 30)).keep (hB2.block _ (by simp; omega))
  have lb2 := (Blk.new (w1.alloc (.cells #[.int .i64 0] 3)) 30 #[.slice A1 s.hist.length c1]).keep (hB2.block _ (by simp))
  rw [World.size_alloc] at lb2
  have L2 := ((hL1.alloc (.cells #[.int .i64 0] 3)).alloc (.cells #[.slice A1 s.hist.length c1] 30)).keep (fun k hk => hB2.block _ (by have := hL1.lt k hk; simp; omega))
  have hL1lt := hL1.lt
  have ar2 := ((ar1.alloc (.cells #[.int .i64 0] 3)).alloc (.cells #[.slice A1 s.hist.length c1] 30)).below hB2
  clear hL1 ar1 mb1 rb1 bx1 hrA hAA bxA mbA rbA BA B1 hB1 hB2
  have k0 := bx2.cell 0
  have k1 := bx2.cell 1
  have k2 := bx2.cell 2
  simp at k0 k1 k2
  have hnf := eql_nilFunc
  have hwu : IntKind.u64.wrap (s.hist.length : Int) = (s.hist.length : Int) := IntWalk.u64_in _ (by omega)
  have cl1 : ∀ n, Calls Try.prog 25 #[.pointer (some ⟨b, 0, none⟩)] (w2.drewN n) fun e w' => e = .returned (.int .i64 (s.cs.length : Int)) ∧ w2.drewN n = w' := fun n => Len_are (ar2.drewN n)
  have cl2 : ∀ n, Calls Try.prog 26 #[.pointer (some ⟨b, 0, none⟩)] (w2.drewN n) fun e w' => e = .returned (.int .i64 (s.most : Int)) ∧ w2.drewN n = w' := fun n => Most_are (ar2.drewN n)
  have cl3 : ∀ n, Calls Try.prog 18 #[.pointer (some ⟨b, 0, none⟩)] (w2.drewN n) fun e w' => e = .returned (.int .u64 (s.hist.length : Int)) ∧ w2.drewN n = w' := fun n => Count_are (ar2.drewN n)
  have H1 := Lib.hid cl1
  have H2 := Lib.hid cl2
  have H3 := Lib.hid cl3
  clear cl1 cl2 cl3
  go_wp2_with fail
  go_quiet ((first | (go_at_call 25; exact quiet_left' (H1.out _)) | (go_at_call 26; exact quiet_left' (H2.out _)) | (go_at_call 18; exact quiet_left' (H3.out _))))
  clear hnf hwu H1 H2 H3 ar2 k0 k1 k2 bx2
  have mbD := mb2.drewN nq
  have rbD := rb2.drewN nq
  have fbD := fb2.drewN nq
  have lbD := lb2.drewN nq
  have LD := L2.drewN nq
  have lowD := below_drewN hB12 nq
  have snD : Snap60 s.hist bs Al cl (w2.drewN nq) := ⟨hsn.blk.drewN nq, hsn.row.drewN nq⟩
  have szD : w2.heap.size = (w2.drewN nq).heap.size := rfl
  rw [szD] at s2
  clear mb2 rb2 fb2 lb2 L2 hsn hB12 szD
  obtain ⟨wD, hwD⟩ : ∃ wD, wD = w2.drewN nq := ⟨_, rfl⟩
  rw [← hwD] at mbD rbD fbD lbD LD lowD snD s2 ⊢
  clear hwD
  go_wp2_with fail
  have hcI : (s.hist.length : Int) ≤ 1024 := by omega
  have hm0 : (0 : Int) ≤ (many : Int) := by omega
  have ri0 : RJ (wD.alloc (.cells #[.int .i64 0] 3)) wD.heap.size many [] (wD.alloc (.cells #[.int .i64 0] 3)) := ⟨Keep.refl _ _, Blk.new wD _ _, .inl rfl⟩
  refine wp_range 4 rfl (enters_of Try.func37 (by kernel_rfl) rfl) (log2_seqs s.hist bs Al cl (by omega)) (fun _ => rfl) (RJ (wD.alloc (.cells #[.int .i64 0] 3)) wD.heap.size many)
    (fun cd pre W => cd = .exit 0 ∧ RX (wD.alloc (.cells #[.int .i64 0] 3)) wD.heap.size many pre W)
    (RJ.own _ _ _) (fun cd s X Y row hs hg hr => ⟨hs.1, RX.own _ _ _ s X Y row hs.2 hg hr⟩)
    (fun pre W hi => snD.keep hbs hro (fun k e1 e2 => (hi.keep.block k (by simp; omega) (by omega)).trans (Below.heap_alloc _ _ _ e2))) ri0 ?round ?done ?stop
  case round =>
    intro l' pre x rest W hsz hx hi
    obtain ⟨i, z⟩ := x
    obtain ⟨hi1, hz, _⟩ := log_at hh hx
    simp only at hi1 hz
    subst hi1
    have hq : pre.length < s.hist.length := (List.getElem?_eq_some_iff.1 hz).1
    obtain ⟨fm0, fm1, fm2, fm3, fm4⟩ := flatMap_get s.hist z pre.length hz
    obtain ⟨op, zat, old, new, did⟩ := z
    simp only at fm0 fm1 fm2 fm3 fm4
    clear hx hz
    simp only [encAcc, Acc.val]
    gi_wp2
    refine ⟨(Since.refl _ _).alloc _, hi.alloc _, ?_⟩
    intro W2 ht hi2
    have hbx := (Blk.new W 52 #[.int .i64 op, .int .i64 zat, .int .u64 old, .int .u64 new, .bool did]).keep (ht.at_ (Blk.new W _ _) rfl)
    have x0 := hbx.cell 0
    have x1 := hbx.cell 1
    have x2 := hbx.cell 2
    have x3 := hbx.cell 3
    have x4 := hbx.cell 4
    have kp : ∀ k, k < wD.heap.size → W2.heap[k]? = wD.heap[k]? := fun k e1 => (hi2.keep.block k (by simp; omega) (by omega)).trans (Below.heap_alloc _ _ _ e1)
    have lW := (lbD.keep (kp _ lbD.lt)).cell 0
    have fW := (fbD.keep (kp _ fbD.lt)).cell 0
    have mW := (mbD.keep (kp _ mbD.lt)).cell 0
    have nW := hi2.num.cell 0
    have nF := hi2.num.frozen 0
    have LW := LD.keep (fun k hk => kp k (LD.lt k hk))
    obtain ⟨gl, capl, curl, hvl, _⟩ := LW.addr (by omega)
    simp only [Value.slice.injEq, true_and] at hvl
    obtain ⟨rfl, rfl⟩ := hvl
    have q0 := (LW.cells rfl (pre.length * 5) (by omega)).1
    have q1 := (LW.cells rfl (pre.length * 5 + 1) (by omega)).1
    have q2 := (LW.cells rfl (pre.length * 5 + 2) (by omega)).1
    have q3 := (LW.cells rfl (pre.length * 5 + 3) (by omega)).1
    have q4 := (LW.cells rfl (pre.length * 5 + 4) (by omega)).1
    rw [fm0] at q0
    rw [fm1] at q1
    rw [fm2] at q2
    rw [fm3] at q3
    rw [fm4] at q4
    simp at x0 x1 x2 x3 x4 lW fW mW nW
    have hq0 : (0 : Int) ≤ (pre.length : Int) := by omega
    have hq1 : (pre.length : Int) < 1024 := by omega
    have hqI : (pre.length : Int) < (s.hist.length : Int) := by omega
    have hwq : IntKind.u64.wrap (pre.length : Int) = (pre.length : Int) := IntWalk.u64_in _ (by omega)
    clear kp hi ht fm0 fm1 fm2 fm3 fm4 hbx LW snD ri0
    gi_wp2
    try simp only [List.append_eq, List.cons_append, List.nil_append]
    refine wpIn_region_round (by kernel_rfl) (by kernel_rfl) (by kernel_rfl) ?_
    repeat (first | go_big_quiet_step (fail) | quiet_step (fail))
    refine wpQuiet_nil ?_
    intro _ hw'
    obtain ⟨nq, hw''⟩ := hw'
    subst hw''
    by_cases hmn : many ≤ pre.length + 1
    · have hmnI : (many : Int) ≤ (pre.length : Int) + 1 := by omega
      gi_wp2
      refine ⟨Since.trans (Y := W2.drewN nq) ⟨Nat.le_refl _, fun _ _ _ => rfl⟩ ((Since.refl _ _).setCell (p := ⟨wD.heap.size, 0, none⟩) (by simp) _), rfl, (hi2.keep.drewN nq).setCell (p := ⟨wD.heap.size, 0, none⟩) (.inl rfl) _, ?_, ?_⟩
      · have := (hi2.num.drewN nq).set 0 (.int .i64 ((pre.length : Int) + 1))
        simpa using this
      · have := hi2.few
        simp; omega
    · have hmnI : ¬ (many : Int) ≤ (pre.length : Int) + 1 := by omega
      gi_wp2
      refine ⟨Since.trans (Y := W2.drewN nq) ⟨Nat.le_refl _, fun _ _ _ => rfl⟩ ((Since.refl _ _).setCell (p := ⟨wD.heap.size, 0, none⟩) (by simp) _), (hi2.keep.drewN nq).setCell (p := ⟨wD.heap.size, 0, none⟩) (.inl rfl) _, ?_, ?_⟩
      · have := (hi2.num.drewN nq).set 0 (.int .i64 ((pre.length : Int) + 1))
        simpa using this
      · right; simp; omega
  case done =>
    intro D W hD hi hdef
    have kp : ∀ k, k < wD.heap.size → W.heap[k]? = wD.heap[k]? := fun k e1 => (hi.keep.block k (by simp; omega) (by omega)).trans (Below.heap_alloc _ _ _ e1)
    have R9 := (rbD.keep (kp _ rbD.lt))
    have B9 : Below w.heap.size w W := (lowD.alloc lowD.size (.cells #[.int .i64 0] 3)).trans (hi.keep.below (B := w.heap.size) (fun k e => by have := lowD.size; omega) (by have := lowD.size; simp; omega))
    have hDl : D < W.heap.size := (Array.getElem?_eq_some_iff.1 hdef).1
    have z0 := R9.cell 0
    have z1 := R9.frozen 0
    have lW := (lbD.keep (kp _ lbD.lt)).cell 0
    have mW := (mbD.keep (kp _ mbD.lt)).cell 0
    have nW := hi.num.cell 0
    have z2 := (R9.set 0 (.bool true)).cell 0
    have hD' : wD.heap.size + 1 ≤ D := by simpa using hD
    simp at z0 lW mW nW z2
    have dE : (W.setCell ⟨w.heap.size + 1 + 1, 0, none⟩ (.bool true)).heap[D]? = some (.deferred (some [])) := (Below.heap_setCell _ _ _ _ (by simp only; omega)).trans hdef
    have BE := B9.setCell (p := ⟨w.heap.size + 1 + 1, 0, none⟩) (by simp; omega) (.bool true)
    have hll := logList_length s.hist
    have hfew := hi.few
    rw [hll, Nat.min_eq_right hh] at hfew nW
    clear hi kp hll
    go_wp2_with fail
    all_goals
      refine ⟨by simp, .inl ⟨_, _, rfl, run_takeDeferred dE, ?_⟩⟩
      have RE := blk_putObj (o' := .deferred none) (R9.set 0 (.bool true)) dE rfl
      have zE := RE.cell 0
      simp at zE
      exact ⟨_, (by simp [results, Try.results14, go_sem, zE]), rfl, BE.trans (belowK_b (Nat.le_refl _) _ D _ _ (by omega) dE rfl rfl)⟩
  case stop =>
    rintro D cd pre W hD hpre ⟨rfl, hi⟩ hdef
    have kp : ∀ k, k < wD.heap.size → W.heap[k]? = wD.heap[k]? := fun k e1 => (hi.keep.block k (by simp; omega) (by omega)).trans (Below.heap_alloc _ _ _ e1)
    have R9 := (rbD.keep (kp _ rbD.lt))
    have B9 : Below w.heap.size w W := (lowD.alloc lowD.size (.cells #[.int .i64 0] 3)).trans (hi.keep.below (B := w.heap.size) (fun k e => by have := lowD.size; omega) (by have := lowD.size; simp; omega))
    have hDl : D < W.heap.size := (Array.getElem?_eq_some_iff.1 hdef).1
    have z0 := R9.cell 0
    have z1 := R9.frozen 0
    have lW := (lbD.keep (kp _ lbD.lt)).cell 0
    have mW := (mbD.keep (kp _ mbD.lt)).cell 0
    have nW := hi.num.cell 0
    have z2 := (R9.set 0 (.bool true)).cell 0
    have hD' : wD.heap.size + 1 ≤ D := by simpa using hD
    simp at z0 lW mW nW z2
    have dE : (W.setCell ⟨w.heap.size + 1 + 1, 0, none⟩ (.bool true)).heap[D]? = some (.deferred (some [])) := (Below.heap_setCell _ _ _ _ (by simp only; omega)).trans hdef
    have BE := B9.setCell (p := ⟨w.heap.size + 1 + 1, 0, none⟩) (by simp; omega) (.bool true)
    have hfew := hi.few
    have hpl : pre.length ≤ s.hist.length := by have := hpre.length_le; rw [logList_length] at this; omega
    clear hi kp
    by_cases h1 : many ≤ 1
    · have e1 : pre.length = 1 := by omega
      have m1 : (many : Int) ≤ 1 := by omega
      rw [e1] at nW
      by_cases h2 : s.hist.length = 1
      · have l1 : (s.hist.length : Int) = 1 := by omega
        clear hfew hpl h1 h2
        go_wp2_with fail
        refine ⟨by simp, .inl ⟨_, _, rfl, run_takeDeferred dE, ?_⟩⟩
        have RE := blk_putObj (o' := .deferred none) (R9.set 0 (.bool true)) dE rfl
        have zE := RE.cell 0
        simp at zE
        exact ⟨_, (by simp [results, Try.results14, go_sem, zE]), rfl, BE.trans (belowK_b (Nat.le_refl _) _ D _ _ (by omega) dE rfl rfl)⟩
      · have l1 : (1 : Int) < (s.hist.length : Int) := by omega
        clear hfew hpl h1 h2
        go_wp2_with fail
        refine ⟨by simp, .inl ⟨_, _, rfl, run_takeDeferred dE, ?_⟩⟩
        have RE := blk_putObj (o' := .deferred none) (R9.set 0 (.bool true)) dE rfl
        have zE := RE.cell 0
        simp at zE
        exact ⟨_, (by simp [results, Try.results14, go_sem, zE]), rfl, BE.trans (belowK_b (Nat.le_refl _) _ D _ _ (by omega) dE rfl rfl)⟩
    · have e1 : pre.length = many := by omega
      have m1 : (1 : Int) < (many : Int) := by omega
      rw [e1] at nW
      by_cases h2 : s.hist.length = many
      · have l1 : (s.hist.length : Int) = (many : Int) := by omega
        clear hfew hpl h1 h2
        go_wp2_with fail
        refine ⟨by simp, .inl ⟨_, _, rfl, run_takeDeferred dE, ?_⟩⟩
        have RE := blk_putObj (o' := .deferred none) (R9.set 0 (.bool true)) dE rfl
        have zE := RE.cell 0
        simp at zE
        exact ⟨_, (by simp [results, Try.results14, go_sem, zE]), rfl, BE.trans (belowK_b (Nat.le_refl _) _ D _ _ (by omega) dE rfl rfl)⟩
      · have l1 : (many : Int) < (s.hist.length : Int) := by omega
        clear hfew hpl h1 h2
        go_wp2_with fail
        refine ⟨by simp, .inl ⟨_, _, rfl, run_takeDeferred dE, ?_⟩⟩
        have RE := blk_putObj (o' := .deferred none) (R9.set 0 (.bool true)) dE rfl
        have zE := RE.cell 0
        simp at zE
        exact ⟨_, (by simp [results, Try.results14, go_sem, zE]), rfl, BE.trans (belowK_b (Nat.le_refl _) _ D _ _ (by omega) dE rfl rfl)⟩
end Go.Proofs.Ytbojbhjaeekjpaa
