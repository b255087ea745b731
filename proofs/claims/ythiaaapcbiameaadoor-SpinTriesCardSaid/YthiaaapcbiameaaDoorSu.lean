/- SpinTries, walked. -/
import Derived.Test.YthiaaapcbiameaaDoorSt
namespace Go.Proofs.YthiaaapcbiameaaDoor
open Go.RowKit Go.Shelf
attribute [local go_sem] Oper.semAt_some

def TriesRes (w0 : World) (B : Nat) (e : Ending) (w' : World) : Prop := e = .returned (.bool true) ∧ Below B w0 w'

set_option maxRecDepth 100000 in
set_option maxHeartbeats 1600000 in
theorem tries_bad (held : Bool) (most many : Int) (w : World) (hn : Num w) (hm : 100 < most) : Calls Tryd.prog 4 #[.bool held, .int .i64 most, .int .i64 many] w (TriesRes w w.heap.size) := by
  have hB1 : Below w.heap.size w (((w.alloc (.cells #[.bool held] 4)).alloc (.cells #[.int .i64 many] 3)).alloc (.cells #[.bool false] 4)) := (((Below.refl _ _).alloc (Nat.le_refl _) _).alloc (by simp) _).alloc (by simp; omega) _
  have b2 := Blk.new ((w.alloc (.cells #[.bool held] 4)).alloc (.cells #[.int .i64 many] 3)) 4 #[.bool false]
  rw [World.size_alloc, World.size_alloc] at b2
  have hW := works_any _ (hn.below hB1)
  refine calls_of_wp_marks 5 Tryd.func4 rfl ?_
  simp only [Tryd.ntmps4, List.size_toArray, List.length_cons, List.length_nil, Nat.reduceAdd, Nat.reduceSub, Array.replicate_succ, Array.replicate_zero, List.push_toArray, List.append_toArray, List.nil_append, List.cons_append]
  go_wp2_with (go_at_call 7; refine hW.mono ?_; rintro e w1 ⟨rfl, hB2⟩; have b3 := b2.keep (hB2.block _ b2.lt); have z0 := b3.cell 0; have z1 := b3.frozen 0; simp at z0)
  have r12 := (b3.set 0 (.bool true)).cell 0
  simp at r12
  exact ⟨_, (by simp [results, Tryd.results4, go_sem, r12]), rfl, (hB1.trans (hB2.mono (by simp; omega))).setCell (p := ⟨w.heap.size + 1 + 1, 0, none⟩) (by simp only; omega) _⟩

set_option maxRecDepth 100000 in
set_option maxHeartbeats 6400000 in
theorem tries_true (most many : Int) (w : World) (hn : Num w) (hm : most ≤ 100) (hw1 : W64 most) (hw2 : W64 many) : Calls Tryd.prog 4 #[.bool true, .int .i64 most, .int .i64 many] w (TriesRes w w.heap.size) := by
  unfold W64 at hw1 hw2
  obtain ⟨w1, hW1⟩ : ∃ w1, ((w.alloc (.cells #[.bool true] 4)).alloc (.cells #[.int .i64 many] 3)).alloc (.cells #[.bool false] 4) = w1 := ⟨_, rfl⟩
  have hB1 : Below w.heap.size w w1 := by rw [← hW1]; exact (((Below.refl _ _).alloc (Nat.le_refl _) _).alloc (by simp) _).alloc (by simp; omega) _
  have hN := New_lk 1 w1 (hn.below hB1) (by decide) (by decide)
  refine calls_of_wp_marks 5 Tryd.func4 rfl ?_
  simp only [Tryd.ntmps4, List.size_toArray, List.length_cons, List.length_nil, Nat.reduceAdd, Nat.reduceSub, Array.replicate_succ, Array.replicate_zero, List.push_toArray, List.append_toArray, List.nil_append, List.cons_append]
  go_wp2_with fail
  (try rw [hW1])
  refine hN.mono ?_
  rintro e w2 ⟨b, rfl, k2⟩
  have lk3 := k2.lk.below ((Below.refl w2.heap.size w2).alloc (Nat.le_refl _) (.cells #[.pointer (some ⟨b, 0, none⟩)] 24))
  clear hN
  go_wp2_with fail
  refine (spinNew_ok lk3).mono ?_
  rintro e w4 ⟨rfl, hst⟩
  have t4 := tw_start hW1 k2 hst rfl
  have hga : w.heap.size + 3 ≤ w2.heap.size := by have := k2.below.size; rw [← hW1] at this; simpa using this
  clear hst lk3 k2 hB1 hW1
  obtain ⟨ga, hgae⟩ : ∃ ga, w2.heap.size = ga := ⟨_, rfl⟩
  have hal : (allocSt ⟨1, [], []⟩ 1).2.1 = 0 ∧ (allocSt ⟨1, [], []⟩ 1).2.2 = 0 := ⟨rfl, rfl⟩
  rw [hal.1, hal.2]
  simp only [hgae] at t4 hga ⊢
  clear hal hgae w1
  obtain ⟨y0, y1, y2, y3, y4⟩ := t4.cells
  go_wp2_with fail
  refine (try_tw t4 (by decide)).mono ?_
  rintro e w5 ⟨rfl, t5, m5⟩
  have t5' : Tw w.heap.size b ga true many 1 1 w w5 := t5
  clear t5 t4 y0 y1 y2 y3 y4
  obtain ⟨y0, y1, y2, y3, y4⟩ := t5'.cells
  have szX := t5'.size
  go_wp2_with fail
  refine (Tries_any _ _ _ _).mono ?_
  rintro e w' ⟨rfl, rfl⟩
  have tX := t5'
  obtain ⟨s5, k5, o5⟩ := t5'.ex
  have hB6 : Below w5.heap.size w5 (((w5.alloc (.cells #[.pointer (some ⟨b, 0, none⟩)] 24)).alloc (.cells #[.int .i64 0] 3)).alloc (.cells #[.int .i64 most] 3)) := (((Below.refl _ _).alloc (Nat.le_refl _) _).alloc (by simp) _).alloc (by simp; omega) _
  have hcnt := count_tw (t5'.andBelow hB6).1
  have u4 := (t5'.andBelow hB6).1.cells.2.2.2.2
  have hnf := eql_nilSeq
  go_wp2_with (first
    | (go_at_call 16; refine hcnt.mono ?_; rintro e w' ⟨rfl, rfl⟩)
    | (go_at_call 12; refine (num_any _ _).mono ?_; rintro e w' ⟨rfl, rfl⟩))
  clear hnf hcnt u4 hB6 y0 y1 y2 y3 y4 tX
  have hWX : Below (w5.heap.size + 3) (((w5.alloc (.cells #[.pointer (some ⟨b, 0, none⟩)] 24)).alloc (.cells #[.int .i64 0] 3)).alloc (.cells #[.int .i64 most] 3)) (((((w5.alloc (.cells #[.pointer (some ⟨b, 0, none⟩)] 24)).alloc (.cells #[.int .i64 0] 3)).alloc (.cells #[.int .i64 most] 3)).alloc (.cells #[.int .u64 1] 48)).alloc (.cells #[.int .i64 0] 3)) :=
    ((Below.refl _ _).alloc (by simp) _).alloc (by simp <;> omega) _
  have hgw : Blk (((((w5.alloc (.cells #[.pointer (some ⟨b, 0, none⟩)] 24)).alloc (.cells #[.int .i64 0] 3)).alloc (.cells #[.int .i64 most] 3)).alloc (.cells #[.int .u64 1] 48)).alloc (.cells #[.int .i64 0] 3)) (w5.heap.size + 1 + 1 + 1) 48 #[.int .u64 1] := by
    have := (Blk.new (((w5.alloc (.cells #[.pointer (some ⟨b, 0, none⟩)] 24)).alloc (.cells #[.int .i64 0] 3)).alloc (.cells #[.int .i64 most] 3)) 48 #[.int .u64 1]).alloc (.cells #[.int .i64 0] 3)
    rwa [World.size_alloc, World.size_alloc, World.size_alloc] at this
  have hnb : Blk (((((w5.alloc (.cells #[.pointer (some ⟨b, 0, none⟩)] 24)).alloc (.cells #[.int .i64 0] 3)).alloc (.cells #[.int .i64 most] 3)).alloc (.cells #[.int .u64 1] 48)).alloc (.cells #[.int .i64 0] 3)) (w5.heap.size + 1 + 1 + 1 + 1) 3 #[.int .i64 0] := by
    have := Blk.new ((((w5.alloc (.cells #[.pointer (some ⟨b, 0, none⟩)] 24)).alloc (.cells #[.int .i64 0] 3)).alloc (.cells #[.int .i64 most] 3)).alloc (.cells #[.int .u64 1] 48)) 3 #[.int .i64 0]
    rwa [World.size_alloc, World.size_alloc, World.size_alloc, World.size_alloc] at this
  obtain ⟨hc, hBX, hcf, hsz⟩ := tries_ready2 k5 (by omega) most hWX
  have tX := (t5'.andBelow hBX).1
  have hgal : ga < w5.heap.size := (Array.getElem?_eq_some_iff.1 t5'.ca.at_).1
  clear hWX t5' k5 o5 hBX
  revert hc hcf hsz hgw hnb tX
  generalize (((((w5.alloc (.cells #[.pointer (some ⟨b, 0, none⟩)] 24)).alloc (.cells #[.int .i64 0] 3)).alloc (.cells #[.int .i64 most] 3)).alloc (.cells #[.int .u64 1] 48)).alloc (.cells #[.int .i64 0] 3)) = wX
  intro hgw hnb hc hcf hsz tX
  obtain ⟨sX, kX, oX⟩ := tX.ex
  have kgw : Kp b (w5.heap.size + 1 + 1 + 1) (.cells #[.int .u64 1] 48 (0, 0)) wX := ⟨hgw, hcf _ (by omega)⟩
  have hnl := hnb.lt
  have hp := pair_tries (q := cellRes (w5.heap.size + 1 + 1 + 1 + 1) 3 (fun n : Nat => #[.int .i64 (n : Int)])) (t0 := 0) kX hc hnb (fun k hk => by subst hk; exact ⟨by omega, by omega, by omega, by omega⟩) (fun k hk => by subst hk; exact hcf _ (by omega)) (fun k hk _ => hcf k hk)
  refine wp_rangeQ _ _ _ 4 rfl (enters_of Tryd.func35 (by kernel_rfl) rfl) (tries1_seqs b most 0 _ _ _ sX (by omega) (by rw [oX.hist]; decide)) (fun _ => rfl) (TryI true 1 most many) (TryX true 1 most many) 0 hp ⟨rfl, .inl ⟨rfl, oX, fun _ => rfl⟩, by simp only; omega, .inl rfl⟩ ?round ?done ?stop
  case round =>
    rintro l pre ⟨i, s, g⟩ ⟨k, g'⟩ ⟨i', s', g''⟩ t X ⟨hti, hst, hle, hfew⟩ hn hpX
    simp only at hti hst hle hfew
    subst hti
    rcases hst with ⟨rfl, ho, hz⟩ | ⟨rfl, hh, hi1, ho⟩
    · rw [nextTr_one ho] at hn
      by_cases hlt : (t : Int) < most
      · rw [if_pos hlt] at hn
        simp only [Option.some.injEq, Prod.mk.injEq] at hn
        obtain ⟨⟨rfl, rfl⟩, rfl, rfl, rfl⟩ := hn
        have hi3 : (t : Int) < 100 := by omega
        simp only [encTry]
        gi_wp2
        refine ⟨Keep.refl _ _, ?_⟩
        intro X2 ht hpX2
        have hb : Blk X2 (w5.heap.size + 1 + 1 + 1 + 1) 3 #[.int .i64 (t : Int)] := hpX2.atq
        have oldc : ∀ {k : Nat} {ty : TypeId} {cs : Array Value}, Kp b k (.cells cs ty (0, 0)) wX → k ≠ w5.heap.size + 1 + 1 + 1 + 1 → Blk X2 k ty cs := fun h hne => (hpX2.old h.at_ hne h.nf).1
        have z0 := (oldc tX.c0 (by omega)).cell 0
        have z1 := (oldc tX.c1 (by omega)).cell 0
        have z2 := (oldc tX.ca (by omega)).cell 0
        have z3 := (oldc kgw (by omega)).cell 0
        have z4 := hb.cell 0
        have z5 := hb.frozen 0
        simp at z0 z1 z2 z3 z4
        have hd := (ho.do_ 3 0 1).1
        have hrs : (arena b).R (doSt s 3 0 0 1).1 X2 := hpX2.atr
        have hk3 : Keep (fun k => k = w5.heap.size + 1 + 1 + 1 + 1) X2 (X2.setCell ⟨w5.heap.size + 1 + 1 + 1 + 1, 0, none⟩ (.int .i64 ((t : Int) + 1))) := (Keep.refl (fun k => k = w5.heap.size + 1 + 1 + 1 + 1) X2).setCell (p := ⟨w5.heap.size + 1 + 1 + 1 + 1, 0, none⟩) (.inl rfl) _
        have hr3 := (Res.beside hrs hk3 (fun k hk => by subst hk; exact hpX2.qr _ rfl)).1
        have hcq := fun m => count_one hr3 hd m
        have n1 : w5.heap.size + 1 + 1 + 1 + 1 ≠ w.heap.size := by omega
        have n2 : w5.heap.size + 1 + 1 + 1 + 1 ≠ w.heap.size + 1 := by omega
        have n3 : w5.heap.size + 1 + 1 + 1 + 1 ≠ ga := by omega
        have n4 : w5.heap.size + 1 + 1 + 1 + 1 ≠ w5.heap.size + 1 + 1 + 1 := by omega
        have hwr : IntKind.i64.wrap ((t : Int) + 1 - 1) = (t : Int) := by rw [show (t : Int) + 1 - 1 = (t : Int) by omega]; exact IntWalk.i64_in _ (by omega)
        have hu1 : IntKind.u64.wrap ((t : Int) + 1) = (t : Int) + 1 := IntWalk.u64_in _ (by omega)
        have Hcq := Lib.hid hcq
        have Hb := Lib.hid hb
        have Hd := Lib.hid hd
        clear hpX hpX2 hb oldc hd hrs hk3 hr3 hcq ht
        gi_wp2
        try simp only [List.append_eq, List.cons_append, List.nil_append]
        refine wpIn_region_round (by kernel_rfl) (by kernel_rfl) (by kernel_rfl) ?_
        repeat (first | go_big_quiet_step ((go_at_call 16; exact Hcq.out _)) | quiet_step ((go_at_call 16; exact Hcq.out _)))
        refine wpQuiet_nil ?_
        intro _ hw'
        obtain ⟨nq, hw''⟩ := hw'
        subst hw''
        have hset := fun m => cellRes_set_drewN (n := X.heap.size) (f := fun n : Nat => #[.int .i64 (n : Int)]) (t := t) (t' := t + 1) Hb.out 0 (.int .i64 ((t : Int) + 1)) (by simp) m
        have Hset := Lib.hid (hset nq)
        clear hset
        by_cases hmn : many ≤ (t : Int) + 1
        · have Hx : Hid (TryX true 1 most many (.exit 0) (pre ++ [(t, (1 : Int) == 0)], (t + 1, (doSt s 3 0 0 1).1, (1 : Int) == 0)) (t + 1)) := Lib.hid ⟨rfl, rfl, (by have := Hd.out; simpa [newOf, Nat.add_assoc] using this), (fun e => by cases e), (by simp only; omega), (by simp only; omega)⟩
          gi_wp2
          exact ⟨_, Hset.out, Hx.out⟩
        · have Hx : Hid (TryI true 1 most many (pre ++ [(t, (1 : Int) == 0)], (t + 1, (doSt s 3 0 0 1).1, (1 : Int) == 0)) (t + 1)) := Lib.hid ⟨rfl, .inl ⟨rfl, (by have := Hd.out; simpa [newOf, Nat.add_assoc] using this), (fun e => by cases e)⟩, (by simp only; omega), .inr (by simp only; omega)⟩
          gi_wp2
          exact ⟨_, Hset.out, Hx.out⟩
      · rw [if_neg hlt] at hn; cases hn
    · rw [nextTr_won] at hn; cases hn
  case' done =>
    rintro D pre ⟨i, s, g⟩ t X hD hpX hI hn hdef hput
    have hE := hI.done hn
    clear hI hn
  case' stop =>
    rintro D cd pre ⟨i, s, g⟩ t X hD hpX hI hdef hput
    have hE := hI.done
    obtain rfl := hI.cd
    clear hI
  all_goals
    have tE := tX.pair hpX (fun k hk => by subst hk; exact ⟨by omega, by omega⟩) hE.o
    have kgE := kgw.pair hpX (fun e => by have : _ = _ := e; omega)
    have knE : Kp b (w5.heap.size + 1 + 1 + 1 + 1) (.cells #[.int .i64 (t : Int)] 3 (0, 0)) X := ⟨hpX.atq, hpX.qr _ rfl⟩
    have kdE : Kp b D (.deferred (some [])) X := Kp.def_ hpX.atr hdef
    have kvE : Kp b w5.heap.size _ X := ⟨hpX.atc.v, hpX.cr _ (.inl rfl)⟩
    have kaE : Kp b (w5.heap.size + 1) _ X := ⟨hpX.atc.a, hpX.cr _ (.inr (.inl rfl))⟩
    have kmE : Kp b (w5.heap.size + 1 + 1) _ X := ⟨hpX.atc.m, hpX.cr _ (.inr (.inr (.inl rfl)))⟩
    have hw := hE.want
    have hDw : w.heap.size + 3 ≤ D := by omega
    clear hp hpX hput hE hdef hc tX kgw hcf hgw hnb kX oX hsz
    unfold wantN at hw
    obtain ⟨x0, x1, x2, x3, x4⟩ := tE.cells
    have x5 := (show Blk X (w5.heap.size + 1 + 1 + 1) _ _ from kgE.at_).cell 0
    have x6 := (show Blk X (w5.heap.size + 1 + 1 + 1 + 1) _ _ from knE.at_).cell 0
    have x7 := (show Blk X (w5.heap.size + 1 + 1 + 1 + 1) _ _ from knE.at_).frozen 0
    simp at x5 x6
    by_cases hm0 : 0 < most
    · rw [if_pos hm0] at hw
      by_cases hy1 : many ≤ 1
      · by_cases hy2 : most ≤ 1
        · obtain rfl : most = 1 := by omega
          obtain rfl : t = 1 := by simp at hw; omega
          clear hw
          have tE2 : Tw w.heap.size b ga true many 1 (1 + 1) w X := by simpa using tE
          obtain ⟨sE, rE, oE⟩ := tE2.res
          have hcq := fun m => count_one rE oE m
          have Hcq := Lib.hid hcq
          have hu1 : IntKind.u64.wrap ((1 : Int) : Int) = (1 : Int) := IntWalk.u64_in _ (by omega)
          have hu2 : IntKind.u64.wrap (1 + (1 : Int) : Int) = 1 + (1 : Int) := IntWalk.u64_in _ (by omega)
          clear tE hcq rE oE
          go_wp2_with fail
          go_quiet ((go_at_call 16; exact Hcq.out _))
          obtain ⟨XD, hXD⟩ : ∃ XD, XD = X.drewN nq := ⟨_, rfl⟩
          have hmD := tE2.andBelow (below_drewN (Below.refl _ X) nq)
          obtain ⟨tD, mD⟩ := hmD
          have kgD := kgE.moved mD
          have knD := knE.moved mD
          have kdD := kdE.moved mD
          have kvD := kvE.moved mD
          have kaD := kaE.moved mD
          have kmD := kmE.moved mD
          rw [← hXD] at tD kgD knD kdD kvD kaD kmD ⊢
          clear hXD mD tE2 kgE knE kdE kvE kaE kmE x0 x1 x2 x3 x4 x5 x6 x7 Hcq hu1 hu2
          obtain ⟨x0, x1, x2, x3, x4⟩ := tD.cells
          have hF := free_tw tD (by omega)
          go_wp2_with (first
            | (go_at_call 17; refine hF.mono ?_; rintro e w9 ⟨rfl, t9, m9⟩; obtain ⟨s0, s1, s2, s3, s4⟩ := t9.cells; have kn9 := knD.moved m9; have s6 := (show Blk w9 (w5.heap.size + 1 + 1 + 1 + 1) _ _ from kn9.at_).cell 0; have s7 := (show Blk w9 (w5.heap.size + 1 + 1 + 1 + 1) _ _ from kn9.at_).frozen 0; simp at s6)
            | (go_at_call 12; refine (num_any _ _).mono ?_; rintro e w' ⟨rfl, rfl⟩))
          have t9' : Tw w.heap.size b ga true many 0 ((1 + 1) + 1) w w9 := t9
          obtain ⟨sF, rF, oF⟩ := t9'.res
          have kd9 := (kdD.moved m9).setFar rF (k := D) (g := w5.heap.size + 1 + 1 + 1 + 1) (by omega) kn9.nf (.int .i64 0)
          have kv9 := (kvD.moved m9).setFar rF (k := w5.heap.size) (g := w5.heap.size + 1 + 1 + 1 + 1) (by omega) kn9.nf (.int .i64 0)
          have ka9 := (kaD.moved m9).setFar rF (k := w5.heap.size + 1) (g := w5.heap.size + 1 + 1 + 1 + 1) (by omega) kn9.nf (.int .i64 0)
          have km9 := (kmD.moved m9).setFar rF (k := w5.heap.size + 1 + 1) (g := w5.heap.size + 1 + 1 + 1 + 1) (by omega) kn9.nf (.int .i64 0)
          have nb9 : Blk (w9.setCell ⟨w5.heap.size + 1 + 1 + 1 + 1, 0, none⟩ (.int .i64 0)) (w5.heap.size + 1 + 1 + 1 + 1) 3 #[.int .i64 0] := (show Blk w9 (w5.heap.size + 1 + 1 + 1 + 1) 3 _ from kn9.at_).set 0 (.int .i64 0)
          have nf9 : ¬ footA b (w9.setCell ⟨w5.heap.size + 1 + 1 + 1 + 1, 0, none⟩ (.int .i64 0)) (w5.heap.size + 1 + 1 + 1 + 1) := fun e => kn9.nf (((Res.beside rF ((Keep.refl (fun i => i = w5.heap.size + 1 + 1 + 1 + 1) w9).setCell (p := ⟨w5.heap.size + 1 + 1 + 1 + 1, 0, none⟩) (.inl rfl) _) (fun i hi => hi ▸ kn9.nf)).2 _).1 e)
          have tG := t9'.setFar (g := w5.heap.size + 1 + 1 + 1 + 1) (by omega) (by omega) kn9.nf (.int .i64 0)
          have hDlt : D < (w9.setCell ⟨w5.heap.size + 1 + 1 + 1 + 1, 0, none⟩ (.int .i64 0)).heap.size := (Array.getElem?_eq_some_iff.1 kd9.at_).1
          clear t9 t9' hF tD kgD knD kdD kvD kaD kmD x0 x1 x2 x3 x4 s0 s1 s2 s3 s4 s6 s7 m9 kn9 rF oF
          revert kd9 kv9 ka9 km9 nb9 nf9 tG hDlt
          generalize w9.setCell ⟨w5.heap.size + 1 + 1 + 1 + 1, 0, none⟩ (.int .i64 0) = wG
          intro kd9 kv9 ka9 km9 nb9 nf9 tG hDlt
          obtain ⟨sG, kG, oG⟩ := tG.ex
          have hcG : CapTr (1 : Int) 0 (.pointer (some ⟨b, 0, none⟩)) w5.heap.size (w5.heap.size + 1) (w5.heap.size + 1 + 1) wG := ⟨kv9.at_, ka9.at_, km9.at_, tG.num⟩
          have hfG : ∀ k, w5.heap.size ≤ k → k ≤ w5.heap.size + 2 → ¬ footA b wG k := fun k h1 h2 => by
            have : k = w5.heap.size ∨ k = w5.heap.size + 1 ∨ k = w5.heap.size + 1 + 1 := by omega
            rcases this with rfl | rfl | rfl
            · exact kv9.nf
            · exact ka9.nf
            · exact km9.nf
          have hp := pair_tries (q := cellRes (w5.heap.size + 1 + 1 + 1 + 1) 3 (fun n : Nat => #[.int .i64 (n : Int)])) (t0 := 0) kG hcG nb9 (fun k hk => by subst hk; exact ⟨by omega, by omega, by omega, by omega⟩) (fun k hk => by subst hk; exact nf9) hfG
          refine wp_rangeQ _ _ _ 4 rfl (enters_of Tryd.func35 (by kernel_rfl) rfl) (tries1_seqs b (1 : Int) 0 _ _ _ sG (by omega) (by rw [oG.hist]; omega)) (fun _ => rfl) (SecJ ((1 + 1) + 1) (1 : Int)) (fun _ _ _ => False) 0 hp ⟨.inl ⟨rfl, rfl, oG, rfl⟩, fun e => by cases e⟩ ?round2 ?done2 (fun _ _ _ _ _ _ _ _ h => h.elim)
          case round2 =>
            rintro l pre ⟨i, s, g⟩ ⟨k, g'⟩ ⟨i', s', g''⟩ t2 X9 ⟨hI, _⟩ hn hpX
            have hmm : 0 < (1 : Int) := by
              rcases hI with ⟨h1, h2, ho, h3⟩ | ⟨h2, _⟩
              · simp only at h1 h2 ho
                subst h1; subst h2
                rw [nextTr_one ho] at hn
                by_cases hm : ((0 : Nat) : Int) < (1 : Int)
                · omega
                · rw [if_neg hm] at hn; cases hn
              · simp only at h2
                subst h2
                rw [nextTr_won] at hn; cases hn
            obtain ⟨rfl, hx, hS⟩ := hI.next hn
            simp only [Prod.mk.injEq] at hx
            obtain ⟨rfl, rfl⟩ := hx
            have HS : Hid (SecJ ((1 + 1) + 1) (1 : Int) (pre ++ [(0, true)], (i', s', g'')) 1) := Lib.hid ⟨hS, fun _ => hmm⟩
            clear hS hI hn
            simp only [encTry]
            gi_wp2
            refine ⟨Keep.refl _ _, ?_⟩
            intro X2 ht hpX2
            have hb : Blk X2 (w5.heap.size + 1 + 1 + 1 + 1) 3 #[.int .i64 0] := hpX2.atq
            have z4 := hb.cell 0
            have z5 := hb.frozen 0
            simp at z4
            have Hset := Lib.hid (cellRes_set (n := X9.heap.size) (f := fun n : Nat => #[.int .i64 (n : Int)]) (t := 0) (t' := 1) hb 0 (.int .i64 1) (by simp))
            clear hpX hpX2 hb ht
            gi_wp2
            exact ⟨_, Hset.out, HS.out⟩
          case done2 =>
            rintro D2 pre ⟨i, s, g⟩ t2 X9 hD2 hpX ⟨hI, hI2⟩ hn hdef hput
            have hfin := hI.done hn (by omega)
            have tH := tG.pair hpX (fun k hk => by subst hk; exact ⟨by omega, by omega⟩) hfin.2
            have knH : Blk X9 (w5.heap.size + 1 + 1 + 1 + 1) 3 #[.int .i64 (t2 : Int)] := hpX.atq
            have kd5 : Kp b D2 (.deferred (some [])) X9 := Kp.def_ hpX.atr hdef
            have kd6 := kd9.pair hpX (fun e => by have : _ = _ := e; omega)
            have hW := works_any X9 tH.num
            have hn2 := hfin.1
            rw [hn2] at knH
            have g6 := knH.cell 0
            simp at g6
            clear hp hpX hput hn hI hI2 hdef hcG tG kd9 kv9 ka9 km9 nb9 nf9 kG oG hfin hn2 knH
            go_wp2_with (go_at_call 7; refine hW.mono ?_; rintro e w14 ⟨rfl, hB14⟩; have hmH := tH.andBelow hB14; obtain ⟨tI, mI⟩ := hmH; obtain ⟨r0, r1, r2, r3, r4⟩ := tI.cells)
            have e2 := (kd5.moved mI).at_
            have e1 := (kd6.moved mI).at_
            have b14 := tI.toBelow
            have hR1 : D2 ≠ w.heap.size + 1 + 1 := by omega
            have hR2 : D ≠ w.heap.size + 1 + 1 := by omega
            have hDD : D ≠ D2 := fun e => by omega
            have r12 : Blk (w14.setCell ⟨w.heap.size + 1 + 1, 0, none⟩ (.bool true)) (w.heap.size + 1 + 1) 4 #[.bool true] := (show Blk w14 (w.heap.size + 1 + 1) 4 _ from tI.c2.at_).set 0 (.bool true)
            have e1' := (Below.heap_setCell w14 ⟨w.heap.size + 1 + 1, 0, none⟩ (.bool true) D hR2).trans e1
            have e2' := (Below.heap_setCell w14 ⟨w.heap.size + 1 + 1, 0, none⟩ (.bool true) D2 hR1).trans e2
            have b12 := b14.setCell (p := ⟨w.heap.size + 1 + 1, 0, none⟩) (by simp only; omega) (.bool true)
            revert r12 e1' e2' b12
            generalize w14.setCell ⟨w.heap.size + 1 + 1, 0, none⟩ (.bool true) = w15
            intro r12 e1' e2' b12
            have e3 : (w15.putObj D2 (.deferred none)).heap[D]? = some (.deferred (some [])) := (World.putObj_heap_other hDD).trans e1'
            have r14 := blk_put (o' := .deferred none) (blk_put (o' := .deferred none) r12 e2' rfl) e3 rfl
            have b15 := below_put (o' := .deferred none) (below_put (o' := .deferred none) b12 (l := D2) (by omega)) (l := D) (by omega)
            have c14 := r14.cell 0
            simp at c14
            refine ⟨by simp, .inl ⟨_, _, rfl, run_takeDeferred e2', ?_⟩⟩
            refine ⟨by simp, .inl ⟨_, _, rfl, run_takeDeferred e3, ?_⟩⟩
            exact ⟨_, (by simp [results, Tryd.results4, go_sem, c14]), rfl, b15⟩
        · obtain rfl : t = 1 := by simp at hw; omega
          clear hw
          have tE2 : Tw w.heap.size b ga true many 1 (1 + 1) w X := by simpa using tE
          obtain ⟨sE, rE, oE⟩ := tE2.res
          have hcq := fun m => count_one rE oE m
          have Hcq := Lib.hid hcq
          have hu1 : IntKind.u64.wrap ((1 : Int) : Int) = (1 : Int) := IntWalk.u64_in _ (by omega)
          have hu2 : IntKind.u64.wrap (1 + (1 : Int) : Int) = 1 + (1 : Int) := IntWalk.u64_in _ (by omega)
          clear tE hcq rE oE
          go_wp2_with fail
          go_quiet ((go_at_call 16; exact Hcq.out _))
          obtain ⟨XD, hXD⟩ : ∃ XD, XD = X.drewN nq := ⟨_, rfl⟩
          have hmD := tE2.andBelow (below_drewN (Below.refl _ X) nq)
          obtain ⟨tD, mD⟩ := hmD
          have kgD := kgE.moved mD
          have knD := knE.moved mD
          have kdD := kdE.moved mD
          have kvD := kvE.moved mD
          have kaD := kaE.moved mD
          have kmD := kmE.moved mD
          rw [← hXD] at tD kgD knD kdD kvD kaD kmD ⊢
          clear hXD mD tE2 kgE knE kdE kvE kaE kmE x0 x1 x2 x3 x4 x5 x6 x7 Hcq hu1 hu2
          obtain ⟨x0, x1, x2, x3, x4⟩ := tD.cells
          have hF := free_tw tD (by omega)
          go_wp2_with (first
            | (go_at_call 17; refine hF.mono ?_; rintro e w9 ⟨rfl, t9, m9⟩; obtain ⟨s0, s1, s2, s3, s4⟩ := t9.cells; have kn9 := knD.moved m9; have s6 := (show Blk w9 (w5.heap.size + 1 + 1 + 1 + 1) _ _ from kn9.at_).cell 0; have s7 := (show Blk w9 (w5.heap.size + 1 + 1 + 1 + 1) _ _ from kn9.at_).frozen 0; simp at s6)
            | (go_at_call 12; refine (num_any _ _).mono ?_; rintro e w' ⟨rfl, rfl⟩))
          have t9' : Tw w.heap.size b ga true many 0 ((1 + 1) + 1) w w9 := t9
          obtain ⟨sF, rF, oF⟩ := t9'.res
          have kd9 := (kdD.moved m9).setFar rF (k := D) (g := w5.heap.size + 1 + 1 + 1 + 1) (by omega) kn9.nf (.int .i64 0)
          have kv9 := (kvD.moved m9).setFar rF (k := w5.heap.size) (g := w5.heap.size + 1 + 1 + 1 + 1) (by omega) kn9.nf (.int .i64 0)
          have ka9 := (kaD.moved m9).setFar rF (k := w5.heap.size + 1) (g := w5.heap.size + 1 + 1 + 1 + 1) (by omega) kn9.nf (.int .i64 0)
          have km9 := (kmD.moved m9).setFar rF (k := w5.heap.size + 1 + 1) (g := w5.heap.size + 1 + 1 + 1 + 1) (by omega) kn9.nf (.int .i64 0)
          have nb9 : Blk (w9.setCell ⟨w5.heap.size + 1 + 1 + 1 + 1, 0, none⟩ (.int .i64 0)) (w5.heap.size + 1 + 1 + 1 + 1) 3 #[.int .i64 0] := (show Blk w9 (w5.heap.size + 1 + 1 + 1 + 1) 3 _ from kn9.at_).set 0 (.int .i64 0)
          have nf9 : ¬ footA b (w9.setCell ⟨w5.heap.size + 1 + 1 + 1 + 1, 0, none⟩ (.int .i64 0)) (w5.heap.size + 1 + 1 + 1 + 1) := fun e => kn9.nf (((Res.beside rF ((Keep.refl (fun i => i = w5.heap.size + 1 + 1 + 1 + 1) w9).setCell (p := ⟨w5.heap.size + 1 + 1 + 1 + 1, 0, none⟩) (.inl rfl) _) (fun i hi => hi ▸ kn9.nf)).2 _).1 e)
          have tG := t9'.setFar (g := w5.heap.size + 1 + 1 + 1 + 1) (by omega) (by omega) kn9.nf (.int .i64 0)
          have hDlt : D < (w9.setCell ⟨w5.heap.size + 1 + 1 + 1 + 1, 0, none⟩ (.int .i64 0)).heap.size := (Array.getElem?_eq_some_iff.1 kd9.at_).1
          clear t9 t9' hF tD kgD knD kdD kvD kaD kmD x0 x1 x2 x3 x4 s0 s1 s2 s3 s4 s6 s7 m9 kn9 rF oF
          revert kd9 kv9 ka9 km9 nb9 nf9 tG hDlt
          generalize w9.setCell ⟨w5.heap.size + 1 + 1 + 1 + 1, 0, none⟩ (.int .i64 0) = wG
          intro kd9 kv9 ka9 km9 nb9 nf9 tG hDlt
          obtain ⟨sG, kG, oG⟩ := tG.ex
          have hcG : CapTr most 0 (.pointer (some ⟨b, 0, none⟩)) w5.heap.size (w5.heap.size + 1) (w5.heap.size + 1 + 1) wG := ⟨kv9.at_, ka9.at_, km9.at_, tG.num⟩
          have hfG : ∀ k, w5.heap.size ≤ k → k ≤ w5.heap.size + 2 → ¬ footA b wG k := fun k h1 h2 => by
            have : k = w5.heap.size ∨ k = w5.heap.size + 1 ∨ k = w5.heap.size + 1 + 1 := by omega
            rcases this with rfl | rfl | rfl
            · exact kv9.nf
            · exact ka9.nf
            · exact km9.nf
          have hp := pair_tries (q := cellRes (w5.heap.size + 1 + 1 + 1 + 1) 3 (fun n : Nat => #[.int .i64 (n : Int)])) (t0 := 0) kG hcG nb9 (fun k hk => by subst hk; exact ⟨by omega, by omega, by omega, by omega⟩) (fun k hk => by subst hk; exact nf9) hfG
          refine wp_rangeQ _ _ _ 4 rfl (enters_of Tryd.func35 (by kernel_rfl) rfl) (tries1_seqs b most 0 _ _ _ sG (by omega) (by rw [oG.hist]; omega)) (fun _ => rfl) (SecJ ((1 + 1) + 1) most) (fun _ _ _ => False) 0 hp ⟨.inl ⟨rfl, rfl, oG, rfl⟩, fun e => by cases e⟩ ?round2 ?done2 (fun _ _ _ _ _ _ _ _ h => h.elim)
          case round2 =>
            rintro l pre ⟨i, s, g⟩ ⟨k, g'⟩ ⟨i', s', g''⟩ t2 X9 ⟨hI, _⟩ hn hpX
            have hmm : 0 < most := by
              rcases hI with ⟨h1, h2, ho, h3⟩ | ⟨h2, _⟩
              · simp only at h1 h2 ho
                subst h1; subst h2
                rw [nextTr_one ho] at hn
                by_cases hm : ((0 : Nat) : Int) < most
                · omega
                · rw [if_neg hm] at hn; cases hn
              · simp only at h2
                subst h2
                rw [nextTr_won] at hn; cases hn
            obtain ⟨rfl, hx, hS⟩ := hI.next hn
            simp only [Prod.mk.injEq] at hx
            obtain ⟨rfl, rfl⟩ := hx
            have HS : Hid (SecJ ((1 + 1) + 1) most (pre ++ [(0, true)], (i', s', g'')) 1) := Lib.hid ⟨hS, fun _ => hmm⟩
            clear hS hI hn
            simp only [encTry]
            gi_wp2
            refine ⟨Keep.refl _ _, ?_⟩
            intro X2 ht hpX2
            have hb : Blk X2 (w5.heap.size + 1 + 1 + 1 + 1) 3 #[.int .i64 0] := hpX2.atq
            have z4 := hb.cell 0
            have z5 := hb.frozen 0
            simp at z4
            have Hset := Lib.hid (cellRes_set (n := X9.heap.size) (f := fun n : Nat => #[.int .i64 (n : Int)]) (t := 0) (t' := 1) hb 0 (.int .i64 1) (by simp))
            clear hpX hpX2 hb ht
            gi_wp2
            exact ⟨_, Hset.out, HS.out⟩
          case done2 =>
            rintro D2 pre ⟨i, s, g⟩ t2 X9 hD2 hpX ⟨hI, hI2⟩ hn hdef hput
            have hfin := hI.done hn (by omega)
            have tH := tG.pair hpX (fun k hk => by subst hk; exact ⟨by omega, by omega⟩) hfin.2
            have knH : Blk X9 (w5.heap.size + 1 + 1 + 1 + 1) 3 #[.int .i64 (t2 : Int)] := hpX.atq
            have kd5 : Kp b D2 (.deferred (some [])) X9 := Kp.def_ hpX.atr hdef
            have kd6 := kd9.pair hpX (fun e => by have : _ = _ := e; omega)
            have hW := works_any X9 tH.num
            have hn2 := hfin.1
            rw [hn2] at knH
            have g6 := knH.cell 0
            simp at g6
            clear hp hpX hput hn hI hI2 hdef hcG tG kd9 kv9 ka9 km9 nb9 nf9 kG oG hfin hn2 knH
            go_wp2_with (go_at_call 7; refine hW.mono ?_; rintro e w14 ⟨rfl, hB14⟩; have hmH := tH.andBelow hB14; obtain ⟨tI, mI⟩ := hmH; obtain ⟨r0, r1, r2, r3, r4⟩ := tI.cells)
            have e2 := (kd5.moved mI).at_
            have e1 := (kd6.moved mI).at_
            have b14 := tI.toBelow
            have hR1 : D2 ≠ w.heap.size + 1 + 1 := by omega
            have hR2 : D ≠ w.heap.size + 1 + 1 := by omega
            have hDD : D ≠ D2 := fun e => by omega
            have r12 : Blk (w14.setCell ⟨w.heap.size + 1 + 1, 0, none⟩ (.bool true)) (w.heap.size + 1 + 1) 4 #[.bool true] := (show Blk w14 (w.heap.size + 1 + 1) 4 _ from tI.c2.at_).set 0 (.bool true)
            have e1' := (Below.heap_setCell w14 ⟨w.heap.size + 1 + 1, 0, none⟩ (.bool true) D hR2).trans e1
            have e2' := (Below.heap_setCell w14 ⟨w.heap.size + 1 + 1, 0, none⟩ (.bool true) D2 hR1).trans e2
            have b12 := b14.setCell (p := ⟨w.heap.size + 1 + 1, 0, none⟩) (by simp only; omega) (.bool true)
            revert r12 e1' e2' b12
            generalize w14.setCell ⟨w.heap.size + 1 + 1, 0, none⟩ (.bool true) = w15
            intro r12 e1' e2' b12
            have e3 : (w15.putObj D2 (.deferred none)).heap[D]? = some (.deferred (some [])) := (World.putObj_heap_other hDD).trans e1'
            have r14 := blk_put (o' := .deferred none) (blk_put (o' := .deferred none) r12 e2' rfl) e3 rfl
            have b15 := below_put (o' := .deferred none) (below_put (o' := .deferred none) b12 (l := D2) (by omega)) (l := D) (by omega)
            have c14 := r14.cell 0
            simp at c14
            refine ⟨by simp, .inl ⟨_, _, rfl, run_takeDeferred e2', ?_⟩⟩
            refine ⟨by simp, .inl ⟨_, _, rfl, run_takeDeferred e3, ?_⟩⟩
            exact ⟨_, (by simp [results, Tryd.results4, go_sem, c14]), rfl, b15⟩
      · by_cases hy2 : most ≤ many
        · obtain rfl : most = (t : Int) := by simp at hw; omega
          have ht1 : t ≠ 0 := by omega
          have hy3 : (1 : Int) ≤ (t : Int) := by omega
          rw [if_neg ht1] at tE
          clear hw ht1
          have tE2 : Tw w.heap.size b ga true many 1 (1 + t) w X := by simpa using tE
          obtain ⟨sE, rE, oE⟩ := tE2.res
          have hcq := fun m => count_one rE oE m
          have Hcq := Lib.hid hcq
          have hu1 : IntKind.u64.wrap ((t : Int) : Int) = (t : Int) := IntWalk.u64_in _ (by omega)
          have hu2 : IntKind.u64.wrap (1 + (t : Int) : Int) = 1 + (t : Int) := IntWalk.u64_in _ (by omega)
          clear tE hcq rE oE
          go_wp2_with fail
          go_quiet ((go_at_call 16; exact Hcq.out _))
          obtain ⟨XD, hXD⟩ : ∃ XD, XD = X.drewN nq := ⟨_, rfl⟩
          have hmD := tE2.andBelow (below_drewN (Below.refl _ X) nq)
          obtain ⟨tD, mD⟩ := hmD
          have kgD := kgE.moved mD
          have knD := knE.moved mD
          have kdD := kdE.moved mD
          have kvD := kvE.moved mD
          have kaD := kaE.moved mD
          have kmD := kmE.moved mD
          rw [← hXD] at tD kgD knD kdD kvD kaD kmD ⊢
          clear hXD mD tE2 kgE knE kdE kvE kaE kmE x0 x1 x2 x3 x4 x5 x6 x7 Hcq hu1 hu2
          obtain ⟨x0, x1, x2, x3, x4⟩ := tD.cells
          have hF := free_tw tD (by omega)
          go_wp2_with (first
            | (go_at_call 17; refine hF.mono ?_; rintro e w9 ⟨rfl, t9, m9⟩; obtain ⟨s0, s1, s2, s3, s4⟩ := t9.cells; have kn9 := knD.moved m9; have s6 := (show Blk w9 (w5.heap.size + 1 + 1 + 1 + 1) _ _ from kn9.at_).cell 0; have s7 := (show Blk w9 (w5.heap.size + 1 + 1 + 1 + 1) _ _ from kn9.at_).frozen 0; simp at s6)
            | (go_at_call 12; refine (num_any _ _).mono ?_; rintro e w' ⟨rfl, rfl⟩))
          have t9' : Tw w.heap.size b ga true many 0 ((1 + t) + 1) w w9 := t9
          obtain ⟨sF, rF, oF⟩ := t9'.res
          have kd9 := (kdD.moved m9).setFar rF (k := D) (g := w5.heap.size + 1 + 1 + 1 + 1) (by omega) kn9.nf (.int .i64 0)
          have kv9 := (kvD.moved m9).setFar rF (k := w5.heap.size) (g := w5.heap.size + 1 + 1 + 1 + 1) (by omega) kn9.nf (.int .i64 0)
          have ka9 := (kaD.moved m9).setFar rF (k := w5.heap.size + 1) (g := w5.heap.size + 1 + 1 + 1 + 1) (by omega) kn9.nf (.int .i64 0)
          have km9 := (kmD.moved m9).setFar rF (k := w5.heap.size + 1 + 1) (g := w5.heap.size + 1 + 1 + 1 + 1) (by omega) kn9.nf (.int .i64 0)
          have nb9 : Blk (w9.setCell ⟨w5.heap.size + 1 + 1 + 1 + 1, 0, none⟩ (.int .i64 0)) (w5.heap.size + 1 + 1 + 1 + 1) 3 #[.int .i64 0] := (show Blk w9 (w5.heap.size + 1 + 1 + 1 + 1) 3 _ from kn9.at_).set 0 (.int .i64 0)
          have nf9 : ¬ footA b (w9.setCell ⟨w5.heap.size + 1 + 1 + 1 + 1, 0, none⟩ (.int .i64 0)) (w5.heap.size + 1 + 1 + 1 + 1) := fun e => kn9.nf (((Res.beside rF ((Keep.refl (fun i => i = w5.heap.size + 1 + 1 + 1 + 1) w9).setCell (p := ⟨w5.heap.size + 1 + 1 + 1 + 1, 0, none⟩) (.inl rfl) _) (fun i hi => hi ▸ kn9.nf)).2 _).1 e)
          have tG := t9'.setFar (g := w5.heap.size + 1 + 1 + 1 + 1) (by omega) (by omega) kn9.nf (.int .i64 0)
          have hDlt : D < (w9.setCell ⟨w5.heap.size + 1 + 1 + 1 + 1, 0, none⟩ (.int .i64 0)).heap.size := (Array.getElem?_eq_some_iff.1 kd9.at_).1
          clear t9 t9' hF tD kgD knD kdD kvD kaD kmD x0 x1 x2 x3 x4 s0 s1 s2 s3 s4 s6 s7 m9 kn9 rF oF
          revert kd9 kv9 ka9 km9 nb9 nf9 tG hDlt
          generalize w9.setCell ⟨w5.heap.size + 1 + 1 + 1 + 1, 0, none⟩ (.int .i64 0) = wG
          intro kd9 kv9 ka9 km9 nb9 nf9 tG hDlt
          obtain ⟨sG, kG, oG⟩ := tG.ex
          have hcG : CapTr (t : Int) 0 (.pointer (some ⟨b, 0, none⟩)) w5.heap.size (w5.heap.size + 1) (w5.heap.size + 1 + 1) wG := ⟨kv9.at_, ka9.at_, km9.at_, tG.num⟩
          have hfG : ∀ k, w5.heap.size ≤ k → k ≤ w5.heap.size + 2 → ¬ footA b wG k := fun k h1 h2 => by
            have : k = w5.heap.size ∨ k = w5.heap.size + 1 ∨ k = w5.heap.size + 1 + 1 := by omega
            rcases this with rfl | rfl | rfl
            · exact kv9.nf
            · exact ka9.nf
            · exact km9.nf
          have hp := pair_tries (q := cellRes (w5.heap.size + 1 + 1 + 1 + 1) 3 (fun n : Nat => #[.int .i64 (n : Int)])) (t0 := 0) kG hcG nb9 (fun k hk => by subst hk; exact ⟨by omega, by omega, by omega, by omega⟩) (fun k hk => by subst hk; exact nf9) hfG
          refine wp_rangeQ _ _ _ 4 rfl (enters_of Tryd.func35 (by kernel_rfl) rfl) (tries1_seqs b (t : Int) 0 _ _ _ sG (by omega) (by rw [oG.hist]; omega)) (fun _ => rfl) (SecJ ((1 + t) + 1) (t : Int)) (fun _ _ _ => False) 0 hp ⟨.inl ⟨rfl, rfl, oG, rfl⟩, fun e => by cases e⟩ ?round2 ?done2 (fun _ _ _ _ _ _ _ _ h => h.elim)
          case round2 =>
            rintro l pre ⟨i, s, g⟩ ⟨k, g'⟩ ⟨i', s', g''⟩ t2 X9 ⟨hI, _⟩ hn hpX
            have hmm : 0 < (t : Int) := by
              rcases hI with ⟨h1, h2, ho, h3⟩ | ⟨h2, _⟩
              · simp only at h1 h2 ho
                subst h1; subst h2
                rw [nextTr_one ho] at hn
                by_cases hm : ((0 : Nat) : Int) < (t : Int)
                · omega
                · rw [if_neg hm] at hn; cases hn
              · simp only at h2
                subst h2
                rw [nextTr_won] at hn; cases hn
            obtain ⟨rfl, hx, hS⟩ := hI.next hn
            simp only [Prod.mk.injEq] at hx
            obtain ⟨rfl, rfl⟩ := hx
            have HS : Hid (SecJ ((1 + t) + 1) (t : Int) (pre ++ [(0, true)], (i', s', g'')) 1) := Lib.hid ⟨hS, fun _ => hmm⟩
            clear hS hI hn
            simp only [encTry]
            gi_wp2
            refine ⟨Keep.refl _ _, ?_⟩
            intro X2 ht hpX2
            have hb : Blk X2 (w5.heap.size + 1 + 1 + 1 + 1) 3 #[.int .i64 0] := hpX2.atq
            have z4 := hb.cell 0
            have z5 := hb.frozen 0
            simp at z4
            have Hset := Lib.hid (cellRes_set (n := X9.heap.size) (f := fun n : Nat => #[.int .i64 (n : Int)]) (t := 0) (t' := 1) hb 0 (.int .i64 1) (by simp))
            clear hpX hpX2 hb ht
            gi_wp2
            exact ⟨_, Hset.out, HS.out⟩
          case done2 =>
            rintro D2 pre ⟨i, s, g⟩ t2 X9 hD2 hpX ⟨hI, hI2⟩ hn hdef hput
            have hfin := hI.done hn (by omega)
            have tH := tG.pair hpX (fun k hk => by subst hk; exact ⟨by omega, by omega⟩) hfin.2
            have knH : Blk X9 (w5.heap.size + 1 + 1 + 1 + 1) 3 #[.int .i64 (t2 : Int)] := hpX.atq
            have kd5 : Kp b D2 (.deferred (some [])) X9 := Kp.def_ hpX.atr hdef
            have kd6 := kd9.pair hpX (fun e => by have : _ = _ := e; omega)
            have hW := works_any X9 tH.num
            have hn2 := hfin.1
            rw [hn2] at knH
            have g6 := knH.cell 0
            simp at g6
            clear hp hpX hput hn hI hI2 hdef hcG tG kd9 kv9 ka9 km9 nb9 nf9 kG oG hfin hn2 knH
            go_wp2_with (go_at_call 7; refine hW.mono ?_; rintro e w14 ⟨rfl, hB14⟩; have hmH := tH.andBelow hB14; obtain ⟨tI, mI⟩ := hmH; obtain ⟨r0, r1, r2, r3, r4⟩ := tI.cells)
            have e2 := (kd5.moved mI).at_
            have e1 := (kd6.moved mI).at_
            have b14 := tI.toBelow
            have hR1 : D2 ≠ w.heap.size + 1 + 1 := by omega
            have hR2 : D ≠ w.heap.size + 1 + 1 := by omega
            have hDD : D ≠ D2 := fun e => by omega
            have r12 : Blk (w14.setCell ⟨w.heap.size + 1 + 1, 0, none⟩ (.bool true)) (w.heap.size + 1 + 1) 4 #[.bool true] := (show Blk w14 (w.heap.size + 1 + 1) 4 _ from tI.c2.at_).set 0 (.bool true)
            have e1' := (Below.heap_setCell w14 ⟨w.heap.size + 1 + 1, 0, none⟩ (.bool true) D hR2).trans e1
            have e2' := (Below.heap_setCell w14 ⟨w.heap.size + 1 + 1, 0, none⟩ (.bool true) D2 hR1).trans e2
            have b12 := b14.setCell (p := ⟨w.heap.size + 1 + 1, 0, none⟩) (by simp only; omega) (.bool true)
            revert r12 e1' e2' b12
            generalize w14.setCell ⟨w.heap.size + 1 + 1, 0, none⟩ (.bool true) = w15
            intro r12 e1' e2' b12
            have e3 : (w15.putObj D2 (.deferred none)).heap[D]? = some (.deferred (some [])) := (World.putObj_heap_other hDD).trans e1'
            have r14 := blk_put (o' := .deferred none) (blk_put (o' := .deferred none) r12 e2' rfl) e3 rfl
            have b15 := below_put (o' := .deferred none) (below_put (o' := .deferred none) b12 (l := D2) (by omega)) (l := D) (by omega)
            have c14 := r14.cell 0
            simp at c14
            refine ⟨by simp, .inl ⟨_, _, rfl, run_takeDeferred e2', ?_⟩⟩
            refine ⟨by simp, .inl ⟨_, _, rfl, run_takeDeferred e3, ?_⟩⟩
            exact ⟨_, (by simp [results, Tryd.results4, go_sem, c14]), rfl, b15⟩
        · obtain rfl : many = (t : Int) := by simp at hw; omega
          have ht1 : t ≠ 0 := by omega
          rw [if_neg ht1] at tE
          clear hw ht1
          have tE2 : Tw w.heap.size b ga true (t : Int) 1 (1 + t) w X := by simpa using tE
          obtain ⟨sE, rE, oE⟩ := tE2.res
          have hcq := fun m => count_one rE oE m
          have Hcq := Lib.hid hcq
          have hu1 : IntKind.u64.wrap ((t : Int) : Int) = (t : Int) := IntWalk.u64_in _ (by omega)
          have hu2 : IntKind.u64.wrap (1 + (t : Int) : Int) = 1 + (t : Int) := IntWalk.u64_in _ (by omega)
          clear tE hcq rE oE
          go_wp2_with fail
          go_quiet ((go_at_call 16; exact Hcq.out _))
          obtain ⟨XD, hXD⟩ : ∃ XD, XD = X.drewN nq := ⟨_, rfl⟩
          have hmD := tE2.andBelow (below_drewN (Below.refl _ X) nq)
          obtain ⟨tD, mD⟩ := hmD
          have kgD := kgE.moved mD
          have knD := knE.moved mD
          have kdD := kdE.moved mD
          have kvD := kvE.moved mD
          have kaD := kaE.moved mD
          have kmD := kmE.moved mD
          rw [← hXD] at tD kgD knD kdD kvD kaD kmD ⊢
          clear hXD mD tE2 kgE knE kdE kvE kaE kmE x0 x1 x2 x3 x4 x5 x6 x7 Hcq hu1 hu2
          obtain ⟨x0, x1, x2, x3, x4⟩ := tD.cells
          have hF := free_tw tD (by omega)
          go_wp2_with (first
            | (go_at_call 17; refine hF.mono ?_; rintro e w9 ⟨rfl, t9, m9⟩; obtain ⟨s0, s1, s2, s3, s4⟩ := t9.cells; have kn9 := knD.moved m9; have s6 := (show Blk w9 (w5.heap.size + 1 + 1 + 1 + 1) _ _ from kn9.at_).cell 0; have s7 := (show Blk w9 (w5.heap.size + 1 + 1 + 1 + 1) _ _ from kn9.at_).frozen 0; simp at s6)
            | (go_at_call 12; refine (num_any _ _).mono ?_; rintro e w' ⟨rfl, rfl⟩))
          have t9' : Tw w.heap.size b ga true (t : Int) 0 ((1 + t) + 1) w w9 := t9
          obtain ⟨sF, rF, oF⟩ := t9'.res
          have kd9 := (kdD.moved m9).setFar rF (k := D) (g := w5.heap.size + 1 + 1 + 1 + 1) (by omega) kn9.nf (.int .i64 0)
          have kv9 := (kvD.moved m9).setFar rF (k := w5.heap.size) (g := w5.heap.size + 1 + 1 + 1 + 1) (by omega) kn9.nf (.int .i64 0)
          have ka9 := (kaD.moved m9).setFar rF (k := w5.heap.size + 1) (g := w5.heap.size + 1 + 1 + 1 + 1) (by omega) kn9.nf (.int .i64 0)
          have km9 := (kmD.moved m9).setFar rF (k := w5.heap.size + 1 + 1) (g := w5.heap.size + 1 + 1 + 1 + 1) (by omega) kn9.nf (.int .i64 0)
          have nb9 : Blk (w9.setCell ⟨w5.heap.size + 1 + 1 + 1 + 1, 0, none⟩ (.int .i64 0)) (w5.heap.size + 1 + 1 + 1 + 1) 3 #[.int .i64 0] := (show Blk w9 (w5.heap.size + 1 + 1 + 1 + 1) 3 _ from kn9.at_).set 0 (.int .i64 0)
          have nf9 : ¬ footA b (w9.setCell ⟨w5.heap.size + 1 + 1 + 1 + 1, 0, none⟩ (.int .i64 0)) (w5.heap.size + 1 + 1 + 1 + 1) := fun e => kn9.nf (((Res.beside rF ((Keep.refl (fun i => i = w5.heap.size + 1 + 1 + 1 + 1) w9).setCell (p := ⟨w5.heap.size + 1 + 1 + 1 + 1, 0, none⟩) (.inl rfl) _) (fun i hi => hi ▸ kn9.nf)).2 _).1 e)
          have tG := t9'.setFar (g := w5.heap.size + 1 + 1 + 1 + 1) (by omega) (by omega) kn9.nf (.int .i64 0)
          have hDlt : D < (w9.setCell ⟨w5.heap.size + 1 + 1 + 1 + 1, 0, none⟩ (.int .i64 0)).heap.size := (Array.getElem?_eq_some_iff.1 kd9.at_).1
          clear t9 t9' hF tD kgD knD kdD kvD kaD kmD x0 x1 x2 x3 x4 s0 s1 s2 s3 s4 s6 s7 m9 kn9 rF oF
          revert kd9 kv9 ka9 km9 nb9 nf9 tG hDlt
          generalize w9.setCell ⟨w5.heap.size + 1 + 1 + 1 + 1, 0, none⟩ (.int .i64 0) = wG
          intro kd9 kv9 ka9 km9 nb9 nf9 tG hDlt
          obtain ⟨sG, kG, oG⟩ := tG.ex
          have hcG : CapTr most 0 (.pointer (some ⟨b, 0, none⟩)) w5.heap.size (w5.heap.size + 1) (w5.heap.size + 1 + 1) wG := ⟨kv9.at_, ka9.at_, km9.at_, tG.num⟩
          have hfG : ∀ k, w5.heap.size ≤ k → k ≤ w5.heap.size + 2 → ¬ footA b wG k := fun k h1 h2 => by
            have : k = w5.heap.size ∨ k = w5.heap.size + 1 ∨ k = w5.heap.size + 1 + 1 := by omega
            rcases this with rfl | rfl | rfl
            · exact kv9.nf
            · exact ka9.nf
            · exact km9.nf
          have hp := pair_tries (q := cellRes (w5.heap.size + 1 + 1 + 1 + 1) 3 (fun n : Nat => #[.int .i64 (n : Int)])) (t0 := 0) kG hcG nb9 (fun k hk => by subst hk; exact ⟨by omega, by omega, by omega, by omega⟩) (fun k hk => by subst hk; exact nf9) hfG
          refine wp_rangeQ _ _ _ 4 rfl (enters_of Tryd.func35 (by kernel_rfl) rfl) (tries1_seqs b most 0 _ _ _ sG (by omega) (by rw [oG.hist]; omega)) (fun _ => rfl) (SecJ ((1 + t) + 1) most) (fun _ _ _ => False) 0 hp ⟨.inl ⟨rfl, rfl, oG, rfl⟩, fun e => by cases e⟩ ?round2 ?done2 (fun _ _ _ _ _ _ _ _ h => h.elim)
          case round2 =>
            rintro l pre ⟨i, s, g⟩ ⟨k, g'⟩ ⟨i', s', g''⟩ t2 X9 ⟨hI, _⟩ hn hpX
            have hmm : 0 < most := by
              rcases hI with ⟨h1, h2, ho, h3⟩ | ⟨h2, _⟩
              · simp only at h1 h2 ho
                subst h1; subst h2
                rw [nextTr_one ho] at hn
                by_cases hm : ((0 : Nat) : Int) < most
                · omega
                · rw [if_neg hm] at hn; cases hn
              · simp only at h2
                subst h2
                rw [nextTr_won] at hn; cases hn
            obtain ⟨rfl, hx, hS⟩ := hI.next hn
            simp only [Prod.mk.injEq] at hx
            obtain ⟨rfl, rfl⟩ := hx
            have HS : Hid (SecJ ((1 + t) + 1) most (pre ++ [(0, true)], (i', s', g'')) 1) := Lib.hid ⟨hS, fun _ => hmm⟩
            clear hS hI hn
            simp only [encTry]
            gi_wp2
            refine ⟨Keep.refl _ _, ?_⟩
            intro X2 ht hpX2
            have hb : Blk X2 (w5.heap.size + 1 + 1 + 1 + 1) 3 #[.int .i64 0] := hpX2.atq
            have z4 := hb.cell 0
            have z5 := hb.frozen 0
            simp at z4
            have Hset := Lib.hid (cellRes_set (n := X9.heap.size) (f := fun n : Nat => #[.int .i64 (n : Int)]) (t := 0) (t' := 1) hb 0 (.int .i64 1) (by simp))
            clear hpX hpX2 hb ht
            gi_wp2
            exact ⟨_, Hset.out, HS.out⟩
          case done2 =>
            rintro D2 pre ⟨i, s, g⟩ t2 X9 hD2 hpX ⟨hI, hI2⟩ hn hdef hput
            have hfin := hI.done hn (by omega)
            have tH := tG.pair hpX (fun k hk => by subst hk; exact ⟨by omega, by omega⟩) hfin.2
            have knH : Blk X9 (w5.heap.size + 1 + 1 + 1 + 1) 3 #[.int .i64 (t2 : Int)] := hpX.atq
            have kd5 : Kp b D2 (.deferred (some [])) X9 := Kp.def_ hpX.atr hdef
            have kd6 := kd9.pair hpX (fun e => by have : _ = _ := e; omega)
            have hW := works_any X9 tH.num
            have hn2 := hfin.1
            rw [hn2] at knH
            have g6 := knH.cell 0
            simp at g6
            clear hp hpX hput hn hI hI2 hdef hcG tG kd9 kv9 ka9 km9 nb9 nf9 kG oG hfin hn2 knH
            go_wp2_with (go_at_call 7; refine hW.mono ?_; rintro e w14 ⟨rfl, hB14⟩; have hmH := tH.andBelow hB14; obtain ⟨tI, mI⟩ := hmH; obtain ⟨r0, r1, r2, r3, r4⟩ := tI.cells)
            have e2 := (kd5.moved mI).at_
            have e1 := (kd6.moved mI).at_
            have b14 := tI.toBelow
            have hR1 : D2 ≠ w.heap.size + 1 + 1 := by omega
            have hR2 : D ≠ w.heap.size + 1 + 1 := by omega
            have hDD : D ≠ D2 := fun e => by omega
            have r12 : Blk (w14.setCell ⟨w.heap.size + 1 + 1, 0, none⟩ (.bool true)) (w.heap.size + 1 + 1) 4 #[.bool true] := (show Blk w14 (w.heap.size + 1 + 1) 4 _ from tI.c2.at_).set 0 (.bool true)
            have e1' := (Below.heap_setCell w14 ⟨w.heap.size + 1 + 1, 0, none⟩ (.bool true) D hR2).trans e1
            have e2' := (Below.heap_setCell w14 ⟨w.heap.size + 1 + 1, 0, none⟩ (.bool true) D2 hR1).trans e2
            have b12 := b14.setCell (p := ⟨w.heap.size + 1 + 1, 0, none⟩) (by simp only; omega) (.bool true)
            revert r12 e1' e2' b12
            generalize w14.setCell ⟨w.heap.size + 1 + 1, 0, none⟩ (.bool true) = w15
            intro r12 e1' e2' b12
            have e3 : (w15.putObj D2 (.deferred none)).heap[D]? = some (.deferred (some [])) := (World.putObj_heap_other hDD).trans e1'
            have r14 := blk_put (o' := .deferred none) (blk_put (o' := .deferred none) r12 e2' rfl) e3 rfl
            have b15 := below_put (o' := .deferred none) (below_put (o' := .deferred none) b12 (l := D2) (by omega)) (l := D) (by omega)
            have c14 := r14.cell 0
            simp at c14
            refine ⟨by simp, .inl ⟨_, _, rfl, run_takeDeferred e2', ?_⟩⟩
            refine ⟨by simp, .inl ⟨_, _, rfl, run_takeDeferred e3, ?_⟩⟩
            exact ⟨_, (by simp [results, Tryd.results4, go_sem, c14]), rfl, b15⟩
    · rw [if_neg hm0] at hw
      obtain rfl : t = 0 := by omega
      have hm1 : most ≤ 0 := by omega
      clear hw hm0
      have tE2 : Tw w.heap.size b ga true many 1 (1 + 0) w X := by simpa using tE
      obtain ⟨sE, rE, oE⟩ := tE2.res
      have hcq := fun m => count_one rE oE m
      have Hcq := Lib.hid hcq
      have hu1 : IntKind.u64.wrap ((0 : Int) : Int) = (0 : Int) := IntWalk.u64_in _ (by omega)
      have hu2 : IntKind.u64.wrap (1 + (0 : Int) : Int) = 1 + (0 : Int) := IntWalk.u64_in _ (by omega)
      clear tE hcq rE oE
      go_wp2_with fail
      go_quiet ((go_at_call 16; exact Hcq.out _))
      obtain ⟨XD, hXD⟩ : ∃ XD, XD = X.drewN nq := ⟨_, rfl⟩
      have hmD := tE2.andBelow (below_drewN (Below.refl _ X) nq)
      obtain ⟨tD, mD⟩ := hmD
      have kgD := kgE.moved mD
      have knD := knE.moved mD
      have kdD := kdE.moved mD
      have kvD := kvE.moved mD
      have kaD := kaE.moved mD
      have kmD := kmE.moved mD
      rw [← hXD] at tD kgD knD kdD kvD kaD kmD ⊢
      clear hXD mD tE2 kgE knE kdE kvE kaE kmE x0 x1 x2 x3 x4 x5 x6 x7 Hcq hu1 hu2
      obtain ⟨x0, x1, x2, x3, x4⟩ := tD.cells
      have hF := free_tw tD (by omega)
      go_wp2_with (first
        | (go_at_call 17; refine hF.mono ?_; rintro e w9 ⟨rfl, t9, m9⟩; obtain ⟨s0, s1, s2, s3, s4⟩ := t9.cells; have kn9 := knD.moved m9; have s6 := (show Blk w9 (w5.heap.size + 1 + 1 + 1 + 1) _ _ from kn9.at_).cell 0; have s7 := (show Blk w9 (w5.heap.size + 1 + 1 + 1 + 1) _ _ from kn9.at_).frozen 0; simp at s6)
        | (go_at_call 12; refine (num_any _ _).mono ?_; rintro e w' ⟨rfl, rfl⟩))
      have t9' : Tw w.heap.size b ga true many 0 ((1 + 0) + 1) w w9 := t9
      obtain ⟨sF, rF, oF⟩ := t9'.res
      have kd9 := (kdD.moved m9).setFar rF (k := D) (g := w5.heap.size + 1 + 1 + 1 + 1) (by omega) kn9.nf (.int .i64 0)
      have kv9 := (kvD.moved m9).setFar rF (k := w5.heap.size) (g := w5.heap.size + 1 + 1 + 1 + 1) (by omega) kn9.nf (.int .i64 0)
      have ka9 := (kaD.moved m9).setFar rF (k := w5.heap.size + 1) (g := w5.heap.size + 1 + 1 + 1 + 1) (by omega) kn9.nf (.int .i64 0)
      have km9 := (kmD.moved m9).setFar rF (k := w5.heap.size + 1 + 1) (g := w5.heap.size + 1 + 1 + 1 + 1) (by omega) kn9.nf (.int .i64 0)
      have nb9 : Blk (w9.setCell ⟨w5.heap.size + 1 + 1 + 1 + 1, 0, none⟩ (.int .i64 0)) (w5.heap.size + 1 + 1 + 1 + 1) 3 #[.int .i64 0] := (show Blk w9 (w5.heap.size + 1 + 1 + 1 + 1) 3 _ from kn9.at_).set 0 (.int .i64 0)
      have nf9 : ¬ footA b (w9.setCell ⟨w5.heap.size + 1 + 1 + 1 + 1, 0, none⟩ (.int .i64 0)) (w5.heap.size + 1 + 1 + 1 + 1) := fun e => kn9.nf (((Res.beside rF ((Keep.refl (fun i => i = w5.heap.size + 1 + 1 + 1 + 1) w9).setCell (p := ⟨w5.heap.size + 1 + 1 + 1 + 1, 0, none⟩) (.inl rfl) _) (fun i hi => hi ▸ kn9.nf)).2 _).1 e)
      have tG := t9'.setFar (g := w5.heap.size + 1 + 1 + 1 + 1) (by omega) (by omega) kn9.nf (.int .i64 0)
      have hDlt : D < (w9.setCell ⟨w5.heap.size + 1 + 1 + 1 + 1, 0, none⟩ (.int .i64 0)).heap.size := (Array.getElem?_eq_some_iff.1 kd9.at_).1
      clear t9 t9' hF tD kgD knD kdD kvD kaD kmD x0 x1 x2 x3 x4 s0 s1 s2 s3 s4 s6 s7 m9 kn9 rF oF
      revert kd9 kv9 ka9 km9 nb9 nf9 tG hDlt
      generalize w9.setCell ⟨w5.heap.size + 1 + 1 + 1 + 1, 0, none⟩ (.int .i64 0) = wG
      intro kd9 kv9 ka9 km9 nb9 nf9 tG hDlt
      obtain ⟨sG, kG, oG⟩ := tG.ex
      have hcG : CapTr most 0 (.pointer (some ⟨b, 0, none⟩)) w5.heap.size (w5.heap.size + 1) (w5.heap.size + 1 + 1) wG := ⟨kv9.at_, ka9.at_, km9.at_, tG.num⟩
      have hfG : ∀ k, w5.heap.size ≤ k → k ≤ w5.heap.size + 2 → ¬ footA b wG k := fun k h1 h2 => by
        have : k = w5.heap.size ∨ k = w5.heap.size + 1 ∨ k = w5.heap.size + 1 + 1 := by omega
        rcases this with rfl | rfl | rfl
        · exact kv9.nf
        · exact ka9.nf
        · exact km9.nf
      have hp := pair_tries (q := cellRes (w5.heap.size + 1 + 1 + 1 + 1) 3 (fun n : Nat => #[.int .i64 (n : Int)])) (t0 := 0) kG hcG nb9 (fun k hk => by subst hk; exact ⟨by omega, by omega, by omega, by omega⟩) (fun k hk => by subst hk; exact nf9) hfG
      refine wp_rangeQ _ _ _ 4 rfl (enters_of Tryd.func35 (by kernel_rfl) rfl) (tries1_seqs b most 0 _ _ _ sG (by omega) (by rw [oG.hist]; omega)) (fun _ => rfl) (SecJ ((1 + 0) + 1) most) (fun _ _ _ => False) 0 hp ⟨.inl ⟨rfl, rfl, oG, rfl⟩, fun e => by cases e⟩ ?round2 ?done2 (fun _ _ _ _ _ _ _ _ h => h.elim)
      case round2 =>
        rintro l pre ⟨i, s, g⟩ ⟨k, g'⟩ ⟨i', s', g''⟩ t2 X9 ⟨hI, _⟩ hn hpX
        have hmm : 0 < most := by
          rcases hI with ⟨h1, h2, ho, h3⟩ | ⟨h2, _⟩
          · simp only at h1 h2 ho
            subst h1; subst h2
            rw [nextTr_one ho] at hn
            by_cases hm : ((0 : Nat) : Int) < most
            · omega
            · rw [if_neg hm] at hn; cases hn
          · simp only at h2
            subst h2
            rw [nextTr_won] at hn; cases hn
        exact absurd hmm (by omega)
      case done2 =>
        rintro D2 pre ⟨i, s, g⟩ t2 X9 hD2 hpX ⟨hI, hI2⟩ hn hdef hput
        have hfin : t2 = 0 ∧ One 0 ((1 + 0) + 1) s := hI.none_ (by cases g with | false => rfl | true => exact absurd (hI2 rfl) (by omega))
        have tH := tG.pair hpX (fun k hk => by subst hk; exact ⟨by omega, by omega⟩) hfin.2
        have knH : Blk X9 (w5.heap.size + 1 + 1 + 1 + 1) 3 #[.int .i64 (t2 : Int)] := hpX.atq
        have kd5 : Kp b D2 (.deferred (some [])) X9 := Kp.def_ hpX.atr hdef
        have kd6 := kd9.pair hpX (fun e => by have : _ = _ := e; omega)
        have hW := works_any X9 tH.num
        have hn2 := hfin.1
        rw [hn2] at knH
        have g6 := knH.cell 0
        simp at g6
        clear hp hpX hput hn hI hI2 hdef hcG tG kd9 kv9 ka9 km9 nb9 nf9 kG oG hfin hn2 knH
        go_wp2_with (go_at_call 7; refine hW.mono ?_; rintro e w14 ⟨rfl, hB14⟩; have hmH := tH.andBelow hB14; obtain ⟨tI, mI⟩ := hmH; obtain ⟨r0, r1, r2, r3, r4⟩ := tI.cells)
        have e2 := (kd5.moved mI).at_
        have e1 := (kd6.moved mI).at_
        have b14 := tI.toBelow
        have hR1 : D2 ≠ w.heap.size + 1 + 1 := by omega
        have hR2 : D ≠ w.heap.size + 1 + 1 := by omega
        have hDD : D ≠ D2 := fun e => by omega
        have r12 : Blk (w14.setCell ⟨w.heap.size + 1 + 1, 0, none⟩ (.bool true)) (w.heap.size + 1 + 1) 4 #[.bool true] := (show Blk w14 (w.heap.size + 1 + 1) 4 _ from tI.c2.at_).set 0 (.bool true)
        have e1' := (Below.heap_setCell w14 ⟨w.heap.size + 1 + 1, 0, none⟩ (.bool true) D hR2).trans e1
        have e2' := (Below.heap_setCell w14 ⟨w.heap.size + 1 + 1, 0, none⟩ (.bool true) D2 hR1).trans e2
        have b12 := b14.setCell (p := ⟨w.heap.size + 1 + 1, 0, none⟩) (by simp only; omega) (.bool true)
        revert r12 e1' e2' b12
        generalize w14.setCell ⟨w.heap.size + 1 + 1, 0, none⟩ (.bool true) = w15
        intro r12 e1' e2' b12
        have e3 : (w15.putObj D2 (.deferred none)).heap[D]? = some (.deferred (some [])) := (World.putObj_heap_other hDD).trans e1'
        have r14 := blk_put (o' := .deferred none) (blk_put (o' := .deferred none) r12 e2' rfl) e3 rfl
        have b15 := below_put (o' := .deferred none) (below_put (o' := .deferred none) b12 (l := D2) (by omega)) (l := D) (by omega)
        have c14 := r14.cell 0
        simp at c14
        refine ⟨by simp, .inl ⟨_, _, rfl, run_takeDeferred e2', ?_⟩⟩
        refine ⟨by simp, .inl ⟨_, _, rfl, run_takeDeferred e3, ?_⟩⟩
        exact ⟨_, (by simp [results, Tryd.results4, go_sem, c14]), rfl, b15⟩

set_option maxRecDepth 100000 in
set_option maxHeartbeats 6400000 in
theorem tries_false (most many : Int) (w : World) (hn : Num w) (hm : most ≤ 100) (hw1 : W64 most) (hw2 : W64 many) : Calls Tryd.prog 4 #[.bool false, .int .i64 most, .int .i64 many] w (TriesRes w w.heap.size) := by
  unfold W64 at hw1 hw2
  obtain ⟨w1, hW1⟩ : ∃ w1, ((w.alloc (.cells #[.bool false] 4)).alloc (.cells #[.int .i64 many] 3)).alloc (.cells #[.bool false] 4) = w1 := ⟨_, rfl⟩
  have hB1 : Below w.heap.size w w1 := by rw [← hW1]; exact (((Below.refl _ _).alloc (Nat.le_refl _) _).alloc (by simp) _).alloc (by simp; omega) _
  have hN := New_lk 1 w1 (hn.below hB1) (by decide) (by decide)
  refine calls_of_wp_marks 5 Tryd.func4 rfl ?_
  simp only [Tryd.ntmps4, List.size_toArray, List.length_cons, List.length_nil, Nat.reduceAdd, Nat.reduceSub, Array.replicate_succ, Array.replicate_zero, List.push_toArray, List.append_toArray, List.nil_append, List.cons_append]
  go_wp2_with fail
  (try rw [hW1])
  refine hN.mono ?_
  rintro e w2 ⟨b, rfl, k2⟩
  have lk3 := k2.lk.below ((Below.refl w2.heap.size w2).alloc (Nat.le_refl _) (.cells #[.pointer (some ⟨b, 0, none⟩)] 24))
  clear hN
  go_wp2_with fail
  refine (spinNew_ok lk3).mono ?_
  rintro e w4 ⟨rfl, hst⟩
  have t4 := tw_start hW1 k2 hst rfl
  have hga : w.heap.size + 3 ≤ w2.heap.size := by have := k2.below.size; rw [← hW1] at this; simpa using this
  clear hst lk3 k2 hB1 hW1
  obtain ⟨ga, hgae⟩ : ∃ ga, w2.heap.size = ga := ⟨_, rfl⟩
  have hal : (allocSt ⟨1, [], []⟩ 1).2.1 = 0 ∧ (allocSt ⟨1, [], []⟩ 1).2.2 = 0 := ⟨rfl, rfl⟩
  rw [hal.1, hal.2]
  simp only [hgae] at t4 hga ⊢
  clear hal hgae w1
  obtain ⟨y0, y1, y2, y3, y4⟩ := t4.cells

  have szX := t4.size
  go_wp2_with fail
  refine (Tries_any _ _ _ _).mono ?_
  rintro e w' ⟨rfl, rfl⟩
  have tX := t4
  obtain ⟨s5, k5, o5⟩ := t4.ex
  have hB6 : Below w4.heap.size w4 (((w4.alloc (.cells #[.pointer (some ⟨b, 0, none⟩)] 24)).alloc (.cells #[.int .i64 0] 3)).alloc (.cells #[.int .i64 most] 3)) := (((Below.refl _ _).alloc (Nat.le_refl _) _).alloc (by simp) _).alloc (by simp; omega) _
  have hcnt := count_tw (t4.andBelow hB6).1
  have u4 := (t4.andBelow hB6).1.cells.2.2.2.2
  have hnf := eql_nilSeq
  go_wp2_with (first
    | (go_at_call 16; refine hcnt.mono ?_; rintro e w' ⟨rfl, rfl⟩)
    | (go_at_call 12; refine (num_any _ _).mono ?_; rintro e w' ⟨rfl, rfl⟩))
  clear hnf hcnt u4 hB6 y0 y1 y2 y3 y4 tX
  have hWX : Below (w4.heap.size + 3) (((w4.alloc (.cells #[.pointer (some ⟨b, 0, none⟩)] 24)).alloc (.cells #[.int .i64 0] 3)).alloc (.cells #[.int .i64 most] 3)) (((((w4.alloc (.cells #[.pointer (some ⟨b, 0, none⟩)] 24)).alloc (.cells #[.int .i64 0] 3)).alloc (.cells #[.int .i64 most] 3)).alloc (.cells #[.int .u64 0] 48)).alloc (.cells #[.int .i64 0] 3)) :=
    ((Below.refl _ _).alloc (by simp) _).alloc (by simp <;> omega) _
  have hgw : Blk (((((w4.alloc (.cells #[.pointer (some ⟨b, 0, none⟩)] 24)).alloc (.cells #[.int .i64 0] 3)).alloc (.cells #[.int .i64 most] 3)).alloc (.cells #[.int .u64 0] 48)).alloc (.cells #[.int .i64 0] 3)) (w4.heap.size + 1 + 1 + 1) 48 #[.int .u64 0] := by
    have := (Blk.new (((w4.alloc (.cells #[.pointer (some ⟨b, 0, none⟩)] 24)).alloc (.cells #[.int .i64 0] 3)).alloc (.cells #[.int .i64 most] 3)) 48 #[.int .u64 0]).alloc (.cells #[.int .i64 0] 3)
    rwa [World.size_alloc, World.size_alloc, World.size_alloc] at this
  have hnb : Blk (((((w4.alloc (.cells #[.pointer (some ⟨b, 0, none⟩)] 24)).alloc (.cells #[.int .i64 0] 3)).alloc (.cells #[.int .i64 most] 3)).alloc (.cells #[.int .u64 0] 48)).alloc (.cells #[.int .i64 0] 3)) (w4.heap.size + 1 + 1 + 1 + 1) 3 #[.int .i64 0] := by
    have := Blk.new ((((w4.alloc (.cells #[.pointer (some ⟨b, 0, none⟩)] 24)).alloc (.cells #[.int .i64 0] 3)).alloc (.cells #[.int .i64 most] 3)).alloc (.cells #[.int .u64 0] 48)) 3 #[.int .i64 0]
    rwa [World.size_alloc, World.size_alloc, World.size_alloc, World.size_alloc] at this
  obtain ⟨hc, hBX, hcf, hsz⟩ := tries_ready2 k5 (by omega) most hWX
  have tX := (t4.andBelow hBX).1
  have hgal : ga < w4.heap.size := (Array.getElem?_eq_some_iff.1 t4.ca.at_).1
  clear hWX t4 k5 o5 hBX
  revert hc hcf hsz hgw hnb tX
  generalize (((((w4.alloc (.cells #[.pointer (some ⟨b, 0, none⟩)] 24)).alloc (.cells #[.int .i64 0] 3)).alloc (.cells #[.int .i64 most] 3)).alloc (.cells #[.int .u64 0] 48)).alloc (.cells #[.int .i64 0] 3)) = wX
  intro hgw hnb hc hcf hsz tX
  obtain ⟨sX, kX, oX⟩ := tX.ex
  have kgw : Kp b (w4.heap.size + 1 + 1 + 1) (.cells #[.int .u64 0] 48 (0, 0)) wX := ⟨hgw, hcf _ (by omega)⟩
  have hnl := hnb.lt
  have hp := pair_tries (q := cellRes (w4.heap.size + 1 + 1 + 1 + 1) 3 (fun n : Nat => #[.int .i64 (n : Int)])) (t0 := 0) kX hc hnb (fun k hk => by subst hk; exact ⟨by omega, by omega, by omega, by omega⟩) (fun k hk => by subst hk; exact hcf _ (by omega)) (fun k hk _ => hcf k hk)
  refine wp_rangeQ _ _ _ 4 rfl (enters_of Tryd.func35 (by kernel_rfl) rfl) (tries1_seqs b most 0 _ _ _ sX (by omega) (by rw [oX.hist]; decide)) (fun _ => rfl) (TryI false 0 most many) (TryX false 0 most many) 0 hp ⟨rfl, .inl ⟨rfl, oX, fun _ => rfl⟩, by simp only; omega, .inl rfl⟩ ?round ?done ?stop
  case round =>
    rintro l pre ⟨i, s, g⟩ ⟨k, g'⟩ ⟨i', s', g''⟩ t X ⟨hti, hst, hle, hfew⟩ hn hpX
    simp only at hti hst hle hfew
    subst hti
    rcases hst with ⟨rfl, ho, hz⟩ | ⟨rfl, hh, hi1, ho⟩
    · rw [nextTr_one ho] at hn
      by_cases hlt : (t : Int) < most
      · rw [if_pos hlt] at hn
        simp only [Option.some.injEq, Prod.mk.injEq] at hn
        obtain ⟨⟨rfl, rfl⟩, rfl, rfl, rfl⟩ := hn
        have Hz := Lib.hid (hz trivial)
        clear hz
        simp only [encTry]
        gi_wp2
        refine ⟨Keep.refl _ _, ?_⟩
        intro X2 ht hpX2
        have hb : Blk X2 (w4.heap.size + 1 + 1 + 1 + 1) 3 #[.int .i64 (t : Int)] := hpX2.atq
        have oldc : ∀ {k : Nat} {ty : TypeId} {cs : Array Value}, Kp b k (.cells cs ty (0, 0)) wX → k ≠ w4.heap.size + 1 + 1 + 1 + 1 → Blk X2 k ty cs := fun h hne => (hpX2.old h.at_ hne h.nf).1
        have z0 := (oldc tX.c0 (by omega)).cell 0
        have z1 := (oldc tX.c1 (by omega)).cell 0
        have z2 := (oldc tX.ca (by omega)).cell 0
        have z3 := (oldc kgw (by omega)).cell 0
        have z4 := hb.cell 0
        have z5 := hb.frozen 0
        simp at z0 z1 z2 z3 z4
        have hd := (ho.do_ 3 0 1).1
        have hrs : (arena b).R (doSt s 3 0 0 1).1 X2 := hpX2.atr
        have hk3 : Keep (fun k => k = w4.heap.size + 1 + 1 + 1 + 1) X2 (X2.setCell ⟨w4.heap.size + 1 + 1 + 1 + 1, 0, none⟩ (.int .i64 ((t : Int) + 1))) := (Keep.refl (fun k => k = w4.heap.size + 1 + 1 + 1 + 1) X2).setCell (p := ⟨w4.heap.size + 1 + 1 + 1 + 1, 0, none⟩) (.inl rfl) _
        have hr3 := (Res.beside hrs hk3 (fun k hk => by subst hk; exact hpX2.qr _ rfl)).1
        have hcq := fun m => count_one hr3 hd m
        have n1 : w4.heap.size + 1 + 1 + 1 + 1 ≠ w.heap.size := by omega
        have n2 : w4.heap.size + 1 + 1 + 1 + 1 ≠ w.heap.size + 1 := by omega
        have n3 : w4.heap.size + 1 + 1 + 1 + 1 ≠ ga := by omega
        have n4 : w4.heap.size + 1 + 1 + 1 + 1 ≠ w4.heap.size + 1 + 1 + 1 := by omega
        have hwr : IntKind.i64.wrap ((t : Int) + 1 - 1) = (t : Int) := by rw [show (t : Int) + 1 - 1 = (t : Int) by omega]; exact IntWalk.i64_in _ (by omega)
        have hu1 : IntKind.u64.wrap ((t : Int) + 1) = (t : Int) + 1 := IntWalk.u64_in _ (by omega)
        have Hcq := Lib.hid hcq
        have Hb := Lib.hid hb
        have Hd := Lib.hid hd
        clear hpX hpX2 hb oldc hd hrs hk3 hr3 hcq ht
        gi_wp2
        try simp only [List.append_eq, List.cons_append, List.nil_append]
        refine wpIn_region_round (by kernel_rfl) (by kernel_rfl) (by kernel_rfl) ?_
        repeat (first | go_big_quiet_step ((go_at_call 16; exact Hcq.out _)) | quiet_step ((go_at_call 16; exact Hcq.out _)))
        refine wpQuiet_nil ?_
        intro _ hw'
        obtain ⟨nq, hw''⟩ := hw'
        subst hw''
        have hset := fun m => cellRes_set_drewN (n := X.heap.size) (f := fun n : Nat => #[.int .i64 (n : Int)]) (t := t) (t' := t + 1) Hb.out 0 (.int .i64 ((t : Int) + 1)) (by simp) m
        have Hset := Lib.hid (hset nq)
        clear hset
        by_cases hmn : many ≤ (t : Int) + 1
        · have Hx : Hid (TryX false 0 most many (.exit 0) (pre ++ [(t, (0 : Int) == 0)], (t + 1, (doSt s 3 0 0 1).1, (0 : Int) == 0)) (t + 1)) := Lib.hid ⟨rfl, rfl, (by have := Hd.out; simpa [newOf, Nat.add_assoc] using this), (fun _ => by have := Hz.out; simp only; omega), (by simp only; omega), (by simp only; omega)⟩
          gi_wp2
          exact ⟨_, Hset.out, Hx.out⟩
        · have Hx : Hid (TryI false 0 most many (pre ++ [(t, (0 : Int) == 0)], (t + 1, (doSt s 3 0 0 1).1, (0 : Int) == 0)) (t + 1)) := Lib.hid ⟨rfl, .inr ⟨rfl, rfl, (by have := Hz.out; simp only; omega), (by have := Hd.out; rw [Hz.out] at this; simpa [newOf, Hz.out] using this)⟩, (by simp only; omega), .inr (by simp only; omega)⟩
          gi_wp2
          exact ⟨_, Hset.out, Hx.out⟩
      · rw [if_neg hlt] at hn; cases hn
    · rw [nextTr_won] at hn; cases hn
  case' done =>
    rintro D pre ⟨i, s, g⟩ t X hD hpX hI hn hdef hput
    have hE := hI.done hn
    clear hI hn
  case' stop =>
    rintro D cd pre ⟨i, s, g⟩ t X hD hpX hI hdef hput
    have hE := hI.done
    obtain rfl := hI.cd
    clear hI
  all_goals
    have tE := tX.pair hpX (fun k hk => by subst hk; exact ⟨by omega, by omega⟩) hE.o
    have kgE := kgw.pair hpX (fun e => by have : _ = _ := e; omega)
    have knE : Kp b (w4.heap.size + 1 + 1 + 1 + 1) (.cells #[.int .i64 (t : Int)] 3 (0, 0)) X := ⟨hpX.atq, hpX.qr _ rfl⟩
    have kdE : Kp b D (.deferred (some [])) X := Kp.def_ hpX.atr hdef
    have kvE : Kp b w4.heap.size _ X := ⟨hpX.atc.v, hpX.cr _ (.inl rfl)⟩
    have kaE : Kp b (w4.heap.size + 1) _ X := ⟨hpX.atc.a, hpX.cr _ (.inr (.inl rfl))⟩
    have kmE : Kp b (w4.heap.size + 1 + 1) _ X := ⟨hpX.atc.m, hpX.cr _ (.inr (.inr (.inl rfl)))⟩
    have hw := hE.want
    have hDw : w.heap.size + 3 ≤ D := by omega
    clear hp hpX hput hE hdef hc tX kgw hcf hgw hnb kX oX hsz
    unfold wantN at hw
    obtain ⟨x0, x1, x2, x3, x4⟩ := tE.cells
    have x5 := (show Blk X (w4.heap.size + 1 + 1 + 1) _ _ from kgE.at_).cell 0
    have x6 := (show Blk X (w4.heap.size + 1 + 1 + 1 + 1) _ _ from knE.at_).cell 0
    have x7 := (show Blk X (w4.heap.size + 1 + 1 + 1 + 1) _ _ from knE.at_).frozen 0
    simp at x5 x6
    by_cases hm0 : 0 < most
    · rw [if_pos hm0] at hw
      obtain rfl : t = 1 := by simp at hw; omega
      clear hw
      by_cases hy1 : many ≤ 1
      · by_cases hy2 : most ≤ 1
        · obtain rfl : most = 1 := by omega
          have tE2 : Tw w.heap.size b ga false many 1 (0 + 1) w X := by simpa using tE
          obtain ⟨sE, rE, oE⟩ := tE2.res
          have hcq := fun m => count_one rE oE m
          have Hcq := Lib.hid hcq
          have hu1 : IntKind.u64.wrap ((1 : Int) : Int) = (1 : Int) := IntWalk.u64_in _ (by omega)
          have hu2 : IntKind.u64.wrap (0 + (1 : Int) : Int) = 0 + (1 : Int) := IntWalk.u64_in _ (by omega)
          clear tE hcq rE oE
          go_wp2_with fail
          go_quiet ((go_at_call 16; exact Hcq.out _))
          obtain ⟨XD, hXD⟩ : ∃ XD, XD = X.drewN nq := ⟨_, rfl⟩
          have hmD := tE2.andBelow (below_drewN (Below.refl _ X) nq)
          obtain ⟨tD, mD⟩ := hmD
          have kgD := kgE.moved mD
          have knD := knE.moved mD
          have kdD := kdE.moved mD
          have kvD := kvE.moved mD
          have kaD := kaE.moved mD
          have kmD := kmE.moved mD
          rw [← hXD] at tD kgD knD kdD kvD kaD kmD ⊢
          clear hXD mD tE2 kgE knE kdE kvE kaE kmE x0 x1 x2 x3 x4 x5 x6 x7 Hcq hu1 hu2
          obtain ⟨x0, x1, x2, x3, x4⟩ := tD.cells
          have hF := free_tw tD (by omega)
          go_wp2_with (first
            | (go_at_call 17; refine hF.mono ?_; rintro e w9 ⟨rfl, t9, m9⟩; obtain ⟨s0, s1, s2, s3, s4⟩ := t9.cells; have kn9 := knD.moved m9; have s6 := (show Blk w9 (w4.heap.size + 1 + 1 + 1 + 1) _ _ from kn9.at_).cell 0; have s7 := (show Blk w9 (w4.heap.size + 1 + 1 + 1 + 1) _ _ from kn9.at_).frozen 0; simp at s6)
            | (go_at_call 12; refine (num_any _ _).mono ?_; rintro e w' ⟨rfl, rfl⟩))
          have t9' : Tw w.heap.size b ga false many 0 ((0 + 1) + 1) w w9 := t9
          obtain ⟨sF, rF, oF⟩ := t9'.res
          have kd9 := (kdD.moved m9).setFar rF (k := D) (g := w4.heap.size + 1 + 1 + 1 + 1) (by omega) kn9.nf (.int .i64 0)
          have kv9 := (kvD.moved m9).setFar rF (k := w4.heap.size) (g := w4.heap.size + 1 + 1 + 1 + 1) (by omega) kn9.nf (.int .i64 0)
          have ka9 := (kaD.moved m9).setFar rF (k := w4.heap.size + 1) (g := w4.heap.size + 1 + 1 + 1 + 1) (by omega) kn9.nf (.int .i64 0)
          have km9 := (kmD.moved m9).setFar rF (k := w4.heap.size + 1 + 1) (g := w4.heap.size + 1 + 1 + 1 + 1) (by omega) kn9.nf (.int .i64 0)
          have nb9 : Blk (w9.setCell ⟨w4.heap.size + 1 + 1 + 1 + 1, 0, none⟩ (.int .i64 0)) (w4.heap.size + 1 + 1 + 1 + 1) 3 #[.int .i64 0] := (show Blk w9 (w4.heap.size + 1 + 1 + 1 + 1) 3 _ from kn9.at_).set 0 (.int .i64 0)
          have nf9 : ¬ footA b (w9.setCell ⟨w4.heap.size + 1 + 1 + 1 + 1, 0, none⟩ (.int .i64 0)) (w4.heap.size + 1 + 1 + 1 + 1) := fun e => kn9.nf (((Res.beside rF ((Keep.refl (fun i => i = w4.heap.size + 1 + 1 + 1 + 1) w9).setCell (p := ⟨w4.heap.size + 1 + 1 + 1 + 1, 0, none⟩) (.inl rfl) _) (fun i hi => hi ▸ kn9.nf)).2 _).1 e)
          have tG := t9'.setFar (g := w4.heap.size + 1 + 1 + 1 + 1) (by omega) (by omega) kn9.nf (.int .i64 0)
          have hDlt : D < (w9.setCell ⟨w4.heap.size + 1 + 1 + 1 + 1, 0, none⟩ (.int .i64 0)).heap.size := (Array.getElem?_eq_some_iff.1 kd9.at_).1
          clear t9 t9' hF tD kgD knD kdD kvD kaD kmD x0 x1 x2 x3 x4 s0 s1 s2 s3 s4 s6 s7 m9 kn9 rF oF
          revert kd9 kv9 ka9 km9 nb9 nf9 tG hDlt
          generalize w9.setCell ⟨w4.heap.size + 1 + 1 + 1 + 1, 0, none⟩ (.int .i64 0) = wG
          intro kd9 kv9 ka9 km9 nb9 nf9 tG hDlt
          obtain ⟨sG, kG, oG⟩ := tG.ex
          have hcG : CapTr (1 : Int) 0 (.pointer (some ⟨b, 0, none⟩)) w4.heap.size (w4.heap.size + 1) (w4.heap.size + 1 + 1) wG := ⟨kv9.at_, ka9.at_, km9.at_, tG.num⟩
          have hfG : ∀ k, w4.heap.size ≤ k → k ≤ w4.heap.size + 2 → ¬ footA b wG k := fun k h1 h2 => by
            have : k = w4.heap.size ∨ k = w4.heap.size + 1 ∨ k = w4.heap.size + 1 + 1 := by omega
            rcases this with rfl | rfl | rfl
            · exact kv9.nf
            · exact ka9.nf
            · exact km9.nf
          have hp := pair_tries (q := cellRes (w4.heap.size + 1 + 1 + 1 + 1) 3 (fun n : Nat => #[.int .i64 (n : Int)])) (t0 := 0) kG hcG nb9 (fun k hk => by subst hk; exact ⟨by omega, by omega, by omega, by omega⟩) (fun k hk => by subst hk; exact nf9) hfG
          refine wp_rangeQ _ _ _ 4 rfl (enters_of Tryd.func35 (by kernel_rfl) rfl) (tries1_seqs b (1 : Int) 0 _ _ _ sG (by omega) (by rw [oG.hist]; omega)) (fun _ => rfl) (SecJ ((0 + 1) + 1) (1 : Int)) (fun _ _ _ => False) 0 hp ⟨.inl ⟨rfl, rfl, oG, rfl⟩, fun e => by cases e⟩ ?round2 ?done2 (fun _ _ _ _ _ _ _ _ h => h.elim)
          case round2 =>
            rintro l pre ⟨i, s, g⟩ ⟨k, g'⟩ ⟨i', s', g''⟩ t2 X9 ⟨hI, _⟩ hn hpX
            have hmm : 0 < (1 : Int) := by
              rcases hI with ⟨h1, h2, ho, h3⟩ | ⟨h2, _⟩
              · simp only at h1 h2 ho
                subst h1; subst h2
                rw [nextTr_one ho] at hn
                by_cases hm : ((0 : Nat) : Int) < (1 : Int)
                · omega
                · rw [if_neg hm] at hn; cases hn
              · simp only at h2
                subst h2
                rw [nextTr_won] at hn; cases hn
            obtain ⟨rfl, hx, hS⟩ := hI.next hn
            simp only [Prod.mk.injEq] at hx
            obtain ⟨rfl, rfl⟩ := hx
            have HS : Hid (SecJ ((0 + 1) + 1) (1 : Int) (pre ++ [(0, true)], (i', s', g'')) 1) := Lib.hid ⟨hS, fun _ => hmm⟩
            clear hS hI hn
            simp only [encTry]
            gi_wp2
            refine ⟨Keep.refl _ _, ?_⟩
            intro X2 ht hpX2
            have hb : Blk X2 (w4.heap.size + 1 + 1 + 1 + 1) 3 #[.int .i64 0] := hpX2.atq
            have z4 := hb.cell 0
            have z5 := hb.frozen 0
            simp at z4
            have Hset := Lib.hid (cellRes_set (n := X9.heap.size) (f := fun n : Nat => #[.int .i64 (n : Int)]) (t := 0) (t' := 1) hb 0 (.int .i64 1) (by simp))
            clear hpX hpX2 hb ht
            gi_wp2
            exact ⟨_, Hset.out, HS.out⟩
          case done2 =>
            rintro D2 pre ⟨i, s, g⟩ t2 X9 hD2 hpX ⟨hI, hI2⟩ hn hdef hput
            have hfin := hI.done hn (by omega)
            have tH := tG.pair hpX (fun k hk => by subst hk; exact ⟨by omega, by omega⟩) hfin.2
            have knH : Blk X9 (w4.heap.size + 1 + 1 + 1 + 1) 3 #[.int .i64 (t2 : Int)] := hpX.atq
            have kd5 : Kp b D2 (.deferred (some [])) X9 := Kp.def_ hpX.atr hdef
            have kd6 := kd9.pair hpX (fun e => by have : _ = _ := e; omega)
            have hW := works_any X9 tH.num
            have hn2 := hfin.1
            rw [hn2] at knH
            have g6 := knH.cell 0
            simp at g6
            clear hp hpX hput hn hI hI2 hdef hcG tG kd9 kv9 ka9 km9 nb9 nf9 kG oG hfin hn2 knH
            go_wp2_with (go_at_call 7; refine hW.mono ?_; rintro e w14 ⟨rfl, hB14⟩; have hmH := tH.andBelow hB14; obtain ⟨tI, mI⟩ := hmH; obtain ⟨r0, r1, r2, r3, r4⟩ := tI.cells)
            have e2 := (kd5.moved mI).at_
            have e1 := (kd6.moved mI).at_
            have b14 := tI.toBelow
            have hR1 : D2 ≠ w.heap.size + 1 + 1 := by omega
            have hR2 : D ≠ w.heap.size + 1 + 1 := by omega
            have hDD : D ≠ D2 := fun e => by omega
            have r12 : Blk (w14.setCell ⟨w.heap.size + 1 + 1, 0, none⟩ (.bool true)) (w.heap.size + 1 + 1) 4 #[.bool true] := (show Blk w14 (w.heap.size + 1 + 1) 4 _ from tI.c2.at_).set 0 (.bool true)
            have e1' := (Below.heap_setCell w14 ⟨w.heap.size + 1 + 1, 0, none⟩ (.bool true) D hR2).trans e1
            have e2' := (Below.heap_setCell w14 ⟨w.heap.size + 1 + 1, 0, none⟩ (.bool true) D2 hR1).trans e2
            have b12 := b14.setCell (p := ⟨w.heap.size + 1 + 1, 0, none⟩) (by simp only; omega) (.bool true)
            revert r12 e1' e2' b12
            generalize w14.setCell ⟨w.heap.size + 1 + 1, 0, none⟩ (.bool true) = w15
            intro r12 e1' e2' b12
            have e3 : (w15.putObj D2 (.deferred none)).heap[D]? = some (.deferred (some [])) := (World.putObj_heap_other hDD).trans e1'
            have r14 := blk_put (o' := .deferred none) (blk_put (o' := .deferred none) r12 e2' rfl) e3 rfl
            have b15 := below_put (o' := .deferred none) (below_put (o' := .deferred none) b12 (l := D2) (by omega)) (l := D) (by omega)
            have c14 := r14.cell 0
            simp at c14
            refine ⟨by simp, .inl ⟨_, _, rfl, run_takeDeferred e2', ?_⟩⟩
            refine ⟨by simp, .inl ⟨_, _, rfl, run_takeDeferred e3, ?_⟩⟩
            exact ⟨_, (by simp [results, Tryd.results4, go_sem, c14]), rfl, b15⟩
        · skip
          have tE2 : Tw w.heap.size b ga false many 1 (0 + 1) w X := by simpa using tE
          obtain ⟨sE, rE, oE⟩ := tE2.res
          have hcq := fun m => count_one rE oE m
          have Hcq := Lib.hid hcq
          have hu1 : IntKind.u64.wrap ((1 : Int) : Int) = (1 : Int) := IntWalk.u64_in _ (by omega)
          have hu2 : IntKind.u64.wrap (0 + (1 : Int) : Int) = 0 + (1 : Int) := IntWalk.u64_in _ (by omega)
          clear tE hcq rE oE
          go_wp2_with fail
          go_quiet ((go_at_call 16; exact Hcq.out _))
          obtain ⟨XD, hXD⟩ : ∃ XD, XD = X.drewN nq := ⟨_, rfl⟩
          have hmD := tE2.andBelow (below_drewN (Below.refl _ X) nq)
          obtain ⟨tD, mD⟩ := hmD
          have kgD := kgE.moved mD
          have knD := knE.moved mD
          have kdD := kdE.moved mD
          have kvD := kvE.moved mD
          have kaD := kaE.moved mD
          have kmD := kmE.moved mD
          rw [← hXD] at tD kgD knD kdD kvD kaD kmD ⊢
          clear hXD mD tE2 kgE knE kdE kvE kaE kmE x0 x1 x2 x3 x4 x5 x6 x7 Hcq hu1 hu2
          obtain ⟨x0, x1, x2, x3, x4⟩ := tD.cells
          have hF := free_tw tD (by omega)
          go_wp2_with (first
            | (go_at_call 17; refine hF.mono ?_; rintro e w9 ⟨rfl, t9, m9⟩; obtain ⟨s0, s1, s2, s3, s4⟩ := t9.cells; have kn9 := knD.moved m9; have s6 := (show Blk w9 (w4.heap.size + 1 + 1 + 1 + 1) _ _ from kn9.at_).cell 0; have s7 := (show Blk w9 (w4.heap.size + 1 + 1 + 1 + 1) _ _ from kn9.at_).frozen 0; simp at s6)
            | (go_at_call 12; refine (num_any _ _).mono ?_; rintro e w' ⟨rfl, rfl⟩))
          have t9' : Tw w.heap.size b ga false many 0 ((0 + 1) + 1) w w9 := t9
          obtain ⟨sF, rF, oF⟩ := t9'.res
          have kd9 := (kdD.moved m9).setFar rF (k := D) (g := w4.heap.size + 1 + 1 + 1 + 1) (by omega) kn9.nf (.int .i64 0)
          have kv9 := (kvD.moved m9).setFar rF (k := w4.heap.size) (g := w4.heap.size + 1 + 1 + 1 + 1) (by omega) kn9.nf (.int .i64 0)
          have ka9 := (kaD.moved m9).setFar rF (k := w4.heap.size + 1) (g := w4.heap.size + 1 + 1 + 1 + 1) (by omega) kn9.nf (.int .i64 0)
          have km9 := (kmD.moved m9).setFar rF (k := w4.heap.size + 1 + 1) (g := w4.heap.size + 1 + 1 + 1 + 1) (by omega) kn9.nf (.int .i64 0)
          have nb9 : Blk (w9.setCell ⟨w4.heap.size + 1 + 1 + 1 + 1, 0, none⟩ (.int .i64 0)) (w4.heap.size + 1 + 1 + 1 + 1) 3 #[.int .i64 0] := (show Blk w9 (w4.heap.size + 1 + 1 + 1 + 1) 3 _ from kn9.at_).set 0 (.int .i64 0)
          have nf9 : ¬ footA b (w9.setCell ⟨w4.heap.size + 1 + 1 + 1 + 1, 0, none⟩ (.int .i64 0)) (w4.heap.size + 1 + 1 + 1 + 1) := fun e => kn9.nf (((Res.beside rF ((Keep.refl (fun i => i = w4.heap.size + 1 + 1 + 1 + 1) w9).setCell (p := ⟨w4.heap.size + 1 + 1 + 1 + 1, 0, none⟩) (.inl rfl) _) (fun i hi => hi ▸ kn9.nf)).2 _).1 e)
          have tG := t9'.setFar (g := w4.heap.size + 1 + 1 + 1 + 1) (by omega) (by omega) kn9.nf (.int .i64 0)
          have hDlt : D < (w9.setCell ⟨w4.heap.size + 1 + 1 + 1 + 1, 0, none⟩ (.int .i64 0)).heap.size := (Array.getElem?_eq_some_iff.1 kd9.at_).1
          clear t9 t9' hF tD kgD knD kdD kvD kaD kmD x0 x1 x2 x3 x4 s0 s1 s2 s3 s4 s6 s7 m9 kn9 rF oF
          revert kd9 kv9 ka9 km9 nb9 nf9 tG hDlt
          generalize w9.setCell ⟨w4.heap.size + 1 + 1 + 1 + 1, 0, none⟩ (.int .i64 0) = wG
          intro kd9 kv9 ka9 km9 nb9 nf9 tG hDlt
          obtain ⟨sG, kG, oG⟩ := tG.ex
          have hcG : CapTr most 0 (.pointer (some ⟨b, 0, none⟩)) w4.heap.size (w4.heap.size + 1) (w4.heap.size + 1 + 1) wG := ⟨kv9.at_, ka9.at_, km9.at_, tG.num⟩
          have hfG : ∀ k, w4.heap.size ≤ k → k ≤ w4.heap.size + 2 → ¬ footA b wG k := fun k h1 h2 => by
            have : k = w4.heap.size ∨ k = w4.heap.size + 1 ∨ k = w4.heap.size + 1 + 1 := by omega
            rcases this with rfl | rfl | rfl
            · exact kv9.nf
            · exact ka9.nf
            · exact km9.nf
          have hp := pair_tries (q := cellRes (w4.heap.size + 1 + 1 + 1 + 1) 3 (fun n : Nat => #[.int .i64 (n : Int)])) (t0 := 0) kG hcG nb9 (fun k hk => by subst hk; exact ⟨by omega, by omega, by omega, by omega⟩) (fun k hk => by subst hk; exact nf9) hfG
          refine wp_rangeQ _ _ _ 4 rfl (enters_of Tryd.func35 (by kernel_rfl) rfl) (tries1_seqs b most 0 _ _ _ sG (by omega) (by rw [oG.hist]; omega)) (fun _ => rfl) (SecJ ((0 + 1) + 1) most) (fun _ _ _ => False) 0 hp ⟨.inl ⟨rfl, rfl, oG, rfl⟩, fun e => by cases e⟩ ?round2 ?done2 (fun _ _ _ _ _ _ _ _ h => h.elim)
          case round2 =>
            rintro l pre ⟨i, s, g⟩ ⟨k, g'⟩ ⟨i', s', g''⟩ t2 X9 ⟨hI, _⟩ hn hpX
            have hmm : 0 < most := by
              rcases hI with ⟨h1, h2, ho, h3⟩ | ⟨h2, _⟩
              · simp only at h1 h2 ho
                subst h1; subst h2
                rw [nextTr_one ho] at hn
                by_cases hm : ((0 : Nat) : Int) < most
                · omega
                · rw [if_neg hm] at hn; cases hn
              · simp only at h2
                subst h2
                rw [nextTr_won] at hn; cases hn
            obtain ⟨rfl, hx, hS⟩ := hI.next hn
            simp only [Prod.mk.injEq] at hx
            obtain ⟨rfl, rfl⟩ := hx
            have HS : Hid (SecJ ((0 + 1) + 1) most (pre ++ [(0, true)], (i', s', g'')) 1) := Lib.hid ⟨hS, fun _ => hmm⟩
            clear hS hI hn
            simp only [encTry]
            gi_wp2
            refine ⟨Keep.refl _ _, ?_⟩
            intro X2 ht hpX2
            have hb : Blk X2 (w4.heap.size + 1 + 1 + 1 + 1) 3 #[.int .i64 0] := hpX2.atq
            have z4 := hb.cell 0
            have z5 := hb.frozen 0
            simp at z4
            have Hset := Lib.hid (cellRes_set (n := X9.heap.size) (f := fun n : Nat => #[.int .i64 (n : Int)]) (t := 0) (t' := 1) hb 0 (.int .i64 1) (by simp))
            clear hpX hpX2 hb ht
            gi_wp2
            exact ⟨_, Hset.out, HS.out⟩
          case done2 =>
            rintro D2 pre ⟨i, s, g⟩ t2 X9 hD2 hpX ⟨hI, hI2⟩ hn hdef hput
            have hfin := hI.done hn (by omega)
            have tH := tG.pair hpX (fun k hk => by subst hk; exact ⟨by omega, by omega⟩) hfin.2
            have knH : Blk X9 (w4.heap.size + 1 + 1 + 1 + 1) 3 #[.int .i64 (t2 : Int)] := hpX.atq
            have kd5 : Kp b D2 (.deferred (some [])) X9 := Kp.def_ hpX.atr hdef
            have kd6 := kd9.pair hpX (fun e => by have : _ = _ := e; omega)
            have hW := works_any X9 tH.num
            have hn2 := hfin.1
            rw [hn2] at knH
            have g6 := knH.cell 0
            simp at g6
            clear hp hpX hput hn hI hI2 hdef hcG tG kd9 kv9 ka9 km9 nb9 nf9 kG oG hfin hn2 knH
            go_wp2_with (go_at_call 7; refine hW.mono ?_; rintro e w14 ⟨rfl, hB14⟩; have hmH := tH.andBelow hB14; obtain ⟨tI, mI⟩ := hmH; obtain ⟨r0, r1, r2, r3, r4⟩ := tI.cells)
            have e2 := (kd5.moved mI).at_
            have e1 := (kd6.moved mI).at_
            have b14 := tI.toBelow
            have hR1 : D2 ≠ w.heap.size + 1 + 1 := by omega
            have hR2 : D ≠ w.heap.size + 1 + 1 := by omega
            have hDD : D ≠ D2 := fun e => by omega
            have r12 : Blk (w14.setCell ⟨w.heap.size + 1 + 1, 0, none⟩ (.bool true)) (w.heap.size + 1 + 1) 4 #[.bool true] := (show Blk w14 (w.heap.size + 1 + 1) 4 _ from tI.c2.at_).set 0 (.bool true)
            have e1' := (Below.heap_setCell w14 ⟨w.heap.size + 1 + 1, 0, none⟩ (.bool true) D hR2).trans e1
            have e2' := (Below.heap_setCell w14 ⟨w.heap.size + 1 + 1, 0, none⟩ (.bool true) D2 hR1).trans e2
            have b12 := b14.setCell (p := ⟨w.heap.size + 1 + 1, 0, none⟩) (by simp only; omega) (.bool true)
            revert r12 e1' e2' b12
            generalize w14.setCell ⟨w.heap.size + 1 + 1, 0, none⟩ (.bool true) = w15
            intro r12 e1' e2' b12
            have e3 : (w15.putObj D2 (.deferred none)).heap[D]? = some (.deferred (some [])) := (World.putObj_heap_other hDD).trans e1'
            have r14 := blk_put (o' := .deferred none) (blk_put (o' := .deferred none) r12 e2' rfl) e3 rfl
            have b15 := below_put (o' := .deferred none) (below_put (o' := .deferred none) b12 (l := D2) (by omega)) (l := D) (by omega)
            have c14 := r14.cell 0
            simp at c14
            refine ⟨by simp, .inl ⟨_, _, rfl, run_takeDeferred e2', ?_⟩⟩
            refine ⟨by simp, .inl ⟨_, _, rfl, run_takeDeferred e3, ?_⟩⟩
            exact ⟨_, (by simp [results, Tryd.results4, go_sem, c14]), rfl, b15⟩
      · by_cases hy2 : most ≤ many
        · skip
          have tE2 : Tw w.heap.size b ga false many 1 (0 + 1) w X := by simpa using tE
          obtain ⟨sE, rE, oE⟩ := tE2.res
          have hcq := fun m => count_one rE oE m
          have Hcq := Lib.hid hcq
          have hu1 : IntKind.u64.wrap ((1 : Int) : Int) = (1 : Int) := IntWalk.u64_in _ (by omega)
          have hu2 : IntKind.u64.wrap (0 + (1 : Int) : Int) = 0 + (1 : Int) := IntWalk.u64_in _ (by omega)
          clear tE hcq rE oE
          go_wp2_with fail
          go_quiet ((go_at_call 16; exact Hcq.out _))
          obtain ⟨XD, hXD⟩ : ∃ XD, XD = X.drewN nq := ⟨_, rfl⟩
          have hmD := tE2.andBelow (below_drewN (Below.refl _ X) nq)
          obtain ⟨tD, mD⟩ := hmD
          have kgD := kgE.moved mD
          have knD := knE.moved mD
          have kdD := kdE.moved mD
          have kvD := kvE.moved mD
          have kaD := kaE.moved mD
          have kmD := kmE.moved mD
          rw [← hXD] at tD kgD knD kdD kvD kaD kmD ⊢
          clear hXD mD tE2 kgE knE kdE kvE kaE kmE x0 x1 x2 x3 x4 x5 x6 x7 Hcq hu1 hu2
          obtain ⟨x0, x1, x2, x3, x4⟩ := tD.cells
          have hF := free_tw tD (by omega)
          go_wp2_with (first
            | (go_at_call 17; refine hF.mono ?_; rintro e w9 ⟨rfl, t9, m9⟩; obtain ⟨s0, s1, s2, s3, s4⟩ := t9.cells; have kn9 := knD.moved m9; have s6 := (show Blk w9 (w4.heap.size + 1 + 1 + 1 + 1) _ _ from kn9.at_).cell 0; have s7 := (show Blk w9 (w4.heap.size + 1 + 1 + 1 + 1) _ _ from kn9.at_).frozen 0; simp at s6)
            | (go_at_call 12; refine (num_any _ _).mono ?_; rintro e w' ⟨rfl, rfl⟩))
          have t9' : Tw w.heap.size b ga false many 0 ((0 + 1) + 1) w w9 := t9
          obtain ⟨sF, rF, oF⟩ := t9'.res
          have kd9 := (kdD.moved m9).setFar rF (k := D) (g := w4.heap.size + 1 + 1 + 1 + 1) (by omega) kn9.nf (.int .i64 0)
          have kv9 := (kvD.moved m9).setFar rF (k := w4.heap.size) (g := w4.heap.size + 1 + 1 + 1 + 1) (by omega) kn9.nf (.int .i64 0)
          have ka9 := (kaD.moved m9).setFar rF (k := w4.heap.size + 1) (g := w4.heap.size + 1 + 1 + 1 + 1) (by omega) kn9.nf (.int .i64 0)
          have km9 := (kmD.moved m9).setFar rF (k := w4.heap.size + 1 + 1) (g := w4.heap.size + 1 + 1 + 1 + 1) (by omega) kn9.nf (.int .i64 0)
          have nb9 : Blk (w9.setCell ⟨w4.heap.size + 1 + 1 + 1 + 1, 0, none⟩ (.int .i64 0)) (w4.heap.size + 1 + 1 + 1 + 1) 3 #[.int .i64 0] := (show Blk w9 (w4.heap.size + 1 + 1 + 1 + 1) 3 _ from kn9.at_).set 0 (.int .i64 0)
          have nf9 : ¬ footA b (w9.setCell ⟨w4.heap.size + 1 + 1 + 1 + 1, 0, none⟩ (.int .i64 0)) (w4.heap.size + 1 + 1 + 1 + 1) := fun e => kn9.nf (((Res.beside rF ((Keep.refl (fun i => i = w4.heap.size + 1 + 1 + 1 + 1) w9).setCell (p := ⟨w4.heap.size + 1 + 1 + 1 + 1, 0, none⟩) (.inl rfl) _) (fun i hi => hi ▸ kn9.nf)).2 _).1 e)
          have tG := t9'.setFar (g := w4.heap.size + 1 + 1 + 1 + 1) (by omega) (by omega) kn9.nf (.int .i64 0)
          have hDlt : D < (w9.setCell ⟨w4.heap.size + 1 + 1 + 1 + 1, 0, none⟩ (.int .i64 0)).heap.size := (Array.getElem?_eq_some_iff.1 kd9.at_).1
          clear t9 t9' hF tD kgD knD kdD kvD kaD kmD x0 x1 x2 x3 x4 s0 s1 s2 s3 s4 s6 s7 m9 kn9 rF oF
          revert kd9 kv9 ka9 km9 nb9 nf9 tG hDlt
          generalize w9.setCell ⟨w4.heap.size + 1 + 1 + 1 + 1, 0, none⟩ (.int .i64 0) = wG
          intro kd9 kv9 ka9 km9 nb9 nf9 tG hDlt
          obtain ⟨sG, kG, oG⟩ := tG.ex
          have hcG : CapTr most 0 (.pointer (some ⟨b, 0, none⟩)) w4.heap.size (w4.heap.size + 1) (w4.heap.size + 1 + 1) wG := ⟨kv9.at_, ka9.at_, km9.at_, tG.num⟩
          have hfG : ∀ k, w4.heap.size ≤ k → k ≤ w4.heap.size + 2 → ¬ footA b wG k := fun k h1 h2 => by
            have : k = w4.heap.size ∨ k = w4.heap.size + 1 ∨ k = w4.heap.size + 1 + 1 := by omega
            rcases this with rfl | rfl | rfl
            · exact kv9.nf
            · exact ka9.nf
            · exact km9.nf
          have hp := pair_tries (q := cellRes (w4.heap.size + 1 + 1 + 1 + 1) 3 (fun n : Nat => #[.int .i64 (n : Int)])) (t0 := 0) kG hcG nb9 (fun k hk => by subst hk; exact ⟨by omega, by omega, by omega, by omega⟩) (fun k hk => by subst hk; exact nf9) hfG
          refine wp_rangeQ _ _ _ 4 rfl (enters_of Tryd.func35 (by kernel_rfl) rfl) (tries1_seqs b most 0 _ _ _ sG (by omega) (by rw [oG.hist]; omega)) (fun _ => rfl) (SecJ ((0 + 1) + 1) most) (fun _ _ _ => False) 0 hp ⟨.inl ⟨rfl, rfl, oG, rfl⟩, fun e => by cases e⟩ ?round2 ?done2 (fun _ _ _ _ _ _ _ _ h => h.elim)
          case round2 =>
            rintro l pre ⟨i, s, g⟩ ⟨k, g'⟩ ⟨i', s', g''⟩ t2 X9 ⟨hI, _⟩ hn hpX
            have hmm : 0 < most := by
              rcases hI with ⟨h1, h2, ho, h3⟩ | ⟨h2, _⟩
              · simp only at h1 h2 ho
                subst h1; subst h2
                rw [nextTr_one ho] at hn
                by_cases hm : ((0 : Nat) : Int) < most
                · omega
                · rw [if_neg hm] at hn; cases hn
              · simp only at h2
                subst h2
                rw [nextTr_won] at hn; cases hn
            obtain ⟨rfl, hx, hS⟩ := hI.next hn
            simp only [Prod.mk.injEq] at hx
            obtain ⟨rfl, rfl⟩ := hx
            have HS : Hid (SecJ ((0 + 1) + 1) most (pre ++ [(0, true)], (i', s', g'')) 1) := Lib.hid ⟨hS, fun _ => hmm⟩
            clear hS hI hn
            simp only [encTry]
            gi_wp2
            refine ⟨Keep.refl _ _, ?_⟩
            intro X2 ht hpX2
            have hb : Blk X2 (w4.heap.size + 1 + 1 + 1 + 1) 3 #[.int .i64 0] := hpX2.atq
            have z4 := hb.cell 0
            have z5 := hb.frozen 0
            simp at z4
            have Hset := Lib.hid (cellRes_set (n := X9.heap.size) (f := fun n : Nat => #[.int .i64 (n : Int)]) (t := 0) (t' := 1) hb 0 (.int .i64 1) (by simp))
            clear hpX hpX2 hb ht
            gi_wp2
            exact ⟨_, Hset.out, HS.out⟩
          case done2 =>
            rintro D2 pre ⟨i, s, g⟩ t2 X9 hD2 hpX ⟨hI, hI2⟩ hn hdef hput
            have hfin := hI.done hn (by omega)
            have tH := tG.pair hpX (fun k hk => by subst hk; exact ⟨by omega, by omega⟩) hfin.2
            have knH : Blk X9 (w4.heap.size + 1 + 1 + 1 + 1) 3 #[.int .i64 (t2 : Int)] := hpX.atq
            have kd5 : Kp b D2 (.deferred (some [])) X9 := Kp.def_ hpX.atr hdef
            have kd6 := kd9.pair hpX (fun e => by have : _ = _ := e; omega)
            have hW := works_any X9 tH.num
            have hn2 := hfin.1
            rw [hn2] at knH
            have g6 := knH.cell 0
            simp at g6
            clear hp hpX hput hn hI hI2 hdef hcG tG kd9 kv9 ka9 km9 nb9 nf9 kG oG hfin hn2 knH
            go_wp2_with (go_at_call 7; refine hW.mono ?_; rintro e w14 ⟨rfl, hB14⟩; have hmH := tH.andBelow hB14; obtain ⟨tI, mI⟩ := hmH; obtain ⟨r0, r1, r2, r3, r4⟩ := tI.cells)
            have e2 := (kd5.moved mI).at_
            have e1 := (kd6.moved mI).at_
            have b14 := tI.toBelow
            have hR1 : D2 ≠ w.heap.size + 1 + 1 := by omega
            have hR2 : D ≠ w.heap.size + 1 + 1 := by omega
            have hDD : D ≠ D2 := fun e => by omega
            have r12 : Blk (w14.setCell ⟨w.heap.size + 1 + 1, 0, none⟩ (.bool true)) (w.heap.size + 1 + 1) 4 #[.bool true] := (show Blk w14 (w.heap.size + 1 + 1) 4 _ from tI.c2.at_).set 0 (.bool true)
            have e1' := (Below.heap_setCell w14 ⟨w.heap.size + 1 + 1, 0, none⟩ (.bool true) D hR2).trans e1
            have e2' := (Below.heap_setCell w14 ⟨w.heap.size + 1 + 1, 0, none⟩ (.bool true) D2 hR1).trans e2
            have b12 := b14.setCell (p := ⟨w.heap.size + 1 + 1, 0, none⟩) (by simp only; omega) (.bool true)
            revert r12 e1' e2' b12
            generalize w14.setCell ⟨w.heap.size + 1 + 1, 0, none⟩ (.bool true) = w15
            intro r12 e1' e2' b12
            have e3 : (w15.putObj D2 (.deferred none)).heap[D]? = some (.deferred (some [])) := (World.putObj_heap_other hDD).trans e1'
            have r14 := blk_put (o' := .deferred none) (blk_put (o' := .deferred none) r12 e2' rfl) e3 rfl
            have b15 := below_put (o' := .deferred none) (below_put (o' := .deferred none) b12 (l := D2) (by omega)) (l := D) (by omega)
            have c14 := r14.cell 0
            simp at c14
            refine ⟨by simp, .inl ⟨_, _, rfl, run_takeDeferred e2', ?_⟩⟩
            refine ⟨by simp, .inl ⟨_, _, rfl, run_takeDeferred e3, ?_⟩⟩
            exact ⟨_, (by simp [results, Tryd.results4, go_sem, c14]), rfl, b15⟩
        · skip
          have tE2 : Tw w.heap.size b ga false many 1 (0 + 1) w X := by simpa using tE
          obtain ⟨sE, rE, oE⟩ := tE2.res
          have hcq := fun m => count_one rE oE m
          have Hcq := Lib.hid hcq
          have hu1 : IntKind.u64.wrap ((1 : Int) : Int) = (1 : Int) := IntWalk.u64_in _ (by omega)
          have hu2 : IntKind.u64.wrap (0 + (1 : Int) : Int) = 0 + (1 : Int) := IntWalk.u64_in _ (by omega)
          clear tE hcq rE oE
          go_wp2_with fail
          go_quiet ((go_at_call 16; exact Hcq.out _))
          obtain ⟨XD, hXD⟩ : ∃ XD, XD = X.drewN nq := ⟨_, rfl⟩
          have hmD := tE2.andBelow (below_drewN (Below.refl _ X) nq)
          obtain ⟨tD, mD⟩ := hmD
          have kgD := kgE.moved mD
          have knD := knE.moved mD
          have kdD := kdE.moved mD
          have kvD := kvE.moved mD
          have kaD := kaE.moved mD
          have kmD := kmE.moved mD
          rw [← hXD] at tD kgD knD kdD kvD kaD kmD ⊢
          clear hXD mD tE2 kgE knE kdE kvE kaE kmE x0 x1 x2 x3 x4 x5 x6 x7 Hcq hu1 hu2
          obtain ⟨x0, x1, x2, x3, x4⟩ := tD.cells
          have hF := free_tw tD (by omega)
          go_wp2_with (first
            | (go_at_call 17; refine hF.mono ?_; rintro e w9 ⟨rfl, t9, m9⟩; obtain ⟨s0, s1, s2, s3, s4⟩ := t9.cells; have kn9 := knD.moved m9; have s6 := (show Blk w9 (w4.heap.size + 1 + 1 + 1 + 1) _ _ from kn9.at_).cell 0; have s7 := (show Blk w9 (w4.heap.size + 1 + 1 + 1 + 1) _ _ from kn9.at_).frozen 0; simp at s6)
            | (go_at_call 12; refine (num_any _ _).mono ?_; rintro e w' ⟨rfl, rfl⟩))
          have t9' : Tw w.heap.size b ga false many 0 ((0 + 1) + 1) w w9 := t9
          obtain ⟨sF, rF, oF⟩ := t9'.res
          have kd9 := (kdD.moved m9).setFar rF (k := D) (g := w4.heap.size + 1 + 1 + 1 + 1) (by omega) kn9.nf (.int .i64 0)
          have kv9 := (kvD.moved m9).setFar rF (k := w4.heap.size) (g := w4.heap.size + 1 + 1 + 1 + 1) (by omega) kn9.nf (.int .i64 0)
          have ka9 := (kaD.moved m9).setFar rF (k := w4.heap.size + 1) (g := w4.heap.size + 1 + 1 + 1 + 1) (by omega) kn9.nf (.int .i64 0)
          have km9 := (kmD.moved m9).setFar rF (k := w4.heap.size + 1 + 1) (g := w4.heap.size + 1 + 1 + 1 + 1) (by omega) kn9.nf (.int .i64 0)
          have nb9 : Blk (w9.setCell ⟨w4.heap.size + 1 + 1 + 1 + 1, 0, none⟩ (.int .i64 0)) (w4.heap.size + 1 + 1 + 1 + 1) 3 #[.int .i64 0] := (show Blk w9 (w4.heap.size + 1 + 1 + 1 + 1) 3 _ from kn9.at_).set 0 (.int .i64 0)
          have nf9 : ¬ footA b (w9.setCell ⟨w4.heap.size + 1 + 1 + 1 + 1, 0, none⟩ (.int .i64 0)) (w4.heap.size + 1 + 1 + 1 + 1) := fun e => kn9.nf (((Res.beside rF ((Keep.refl (fun i => i = w4.heap.size + 1 + 1 + 1 + 1) w9).setCell (p := ⟨w4.heap.size + 1 + 1 + 1 + 1, 0, none⟩) (.inl rfl) _) (fun i hi => hi ▸ kn9.nf)).2 _).1 e)
          have tG := t9'.setFar (g := w4.heap.size + 1 + 1 + 1 + 1) (by omega) (by omega) kn9.nf (.int .i64 0)
          have hDlt : D < (w9.setCell ⟨w4.heap.size + 1 + 1 + 1 + 1, 0, none⟩ (.int .i64 0)).heap.size := (Array.getElem?_eq_some_iff.1 kd9.at_).1
          clear t9 t9' hF tD kgD knD kdD kvD kaD kmD x0 x1 x2 x3 x4 s0 s1 s2 s3 s4 s6 s7 m9 kn9 rF oF
          revert kd9 kv9 ka9 km9 nb9 nf9 tG hDlt
          generalize w9.setCell ⟨w4.heap.size + 1 + 1 + 1 + 1, 0, none⟩ (.int .i64 0) = wG
          intro kd9 kv9 ka9 km9 nb9 nf9 tG hDlt
          obtain ⟨sG, kG, oG⟩ := tG.ex
          have hcG : CapTr most 0 (.pointer (some ⟨b, 0, none⟩)) w4.heap.size (w4.heap.size + 1) (w4.heap.size + 1 + 1) wG := ⟨kv9.at_, ka9.at_, km9.at_, tG.num⟩
          have hfG : ∀ k, w4.heap.size ≤ k → k ≤ w4.heap.size + 2 → ¬ footA b wG k := fun k h1 h2 => by
            have : k = w4.heap.size ∨ k = w4.heap.size + 1 ∨ k = w4.heap.size + 1 + 1 := by omega
            rcases this with rfl | rfl | rfl
            · exact kv9.nf
            · exact ka9.nf
            · exact km9.nf
          have hp := pair_tries (q := cellRes (w4.heap.size + 1 + 1 + 1 + 1) 3 (fun n : Nat => #[.int .i64 (n : Int)])) (t0 := 0) kG hcG nb9 (fun k hk => by subst hk; exact ⟨by omega, by omega, by omega, by omega⟩) (fun k hk => by subst hk; exact nf9) hfG
          refine wp_rangeQ _ _ _ 4 rfl (enters_of Tryd.func35 (by kernel_rfl) rfl) (tries1_seqs b most 0 _ _ _ sG (by omega) (by rw [oG.hist]; omega)) (fun _ => rfl) (SecJ ((0 + 1) + 1) most) (fun _ _ _ => False) 0 hp ⟨.inl ⟨rfl, rfl, oG, rfl⟩, fun e => by cases e⟩ ?round2 ?done2 (fun _ _ _ _ _ _ _ _ h => h.elim)
          case round2 =>
            rintro l pre ⟨i, s, g⟩ ⟨k, g'⟩ ⟨i', s', g''⟩ t2 X9 ⟨hI, _⟩ hn hpX
            have hmm : 0 < most := by
              rcases hI with ⟨h1, h2, ho, h3⟩ | ⟨h2, _⟩
              · simp only at h1 h2 ho
                subst h1; subst h2
                rw [nextTr_one ho] at hn
                by_cases hm : ((0 : Nat) : Int) < most
                · omega
                · rw [if_neg hm] at hn; cases hn
              · simp only at h2
                subst h2
                rw [nextTr_won] at hn; cases hn
            obtain ⟨rfl, hx, hS⟩ := hI.next hn
            simp only [Prod.mk.injEq] at hx
            obtain ⟨rfl, rfl⟩ := hx
            have HS : Hid (SecJ ((0 + 1) + 1) most (pre ++ [(0, true)], (i', s', g'')) 1) := Lib.hid ⟨hS, fun _ => hmm⟩
            clear hS hI hn
            simp only [encTry]
            gi_wp2
            refine ⟨Keep.refl _ _, ?_⟩
            intro X2 ht hpX2
            have hb : Blk X2 (w4.heap.size + 1 + 1 + 1 + 1) 3 #[.int .i64 0] := hpX2.atq
            have z4 := hb.cell 0
            have z5 := hb.frozen 0
            simp at z4
            have Hset := Lib.hid (cellRes_set (n := X9.heap.size) (f := fun n : Nat => #[.int .i64 (n : Int)]) (t := 0) (t' := 1) hb 0 (.int .i64 1) (by simp))
            clear hpX hpX2 hb ht
            gi_wp2
            exact ⟨_, Hset.out, HS.out⟩
          case done2 =>
            rintro D2 pre ⟨i, s, g⟩ t2 X9 hD2 hpX ⟨hI, hI2⟩ hn hdef hput
            have hfin := hI.done hn (by omega)
            have tH := tG.pair hpX (fun k hk => by subst hk; exact ⟨by omega, by omega⟩) hfin.2
            have knH : Blk X9 (w4.heap.size + 1 + 1 + 1 + 1) 3 #[.int .i64 (t2 : Int)] := hpX.atq
            have kd5 : Kp b D2 (.deferred (some [])) X9 := Kp.def_ hpX.atr hdef
            have kd6 := kd9.pair hpX (fun e => by have : _ = _ := e; omega)
            have hW := works_any X9 tH.num
            have hn2 := hfin.1
            rw [hn2] at knH
            have g6 := knH.cell 0
            simp at g6
            clear hp hpX hput hn hI hI2 hdef hcG tG kd9 kv9 ka9 km9 nb9 nf9 kG oG hfin hn2 knH
            go_wp2_with (go_at_call 7; refine hW.mono ?_; rintro e w14 ⟨rfl, hB14⟩; have hmH := tH.andBelow hB14; obtain ⟨tI, mI⟩ := hmH; obtain ⟨r0, r1, r2, r3, r4⟩ := tI.cells)
            have e2 := (kd5.moved mI).at_
            have e1 := (kd6.moved mI).at_
            have b14 := tI.toBelow
            have hR1 : D2 ≠ w.heap.size + 1 + 1 := by omega
            have hR2 : D ≠ w.heap.size + 1 + 1 := by omega
            have hDD : D ≠ D2 := fun e => by omega
            have r12 : Blk (w14.setCell ⟨w.heap.size + 1 + 1, 0, none⟩ (.bool true)) (w.heap.size + 1 + 1) 4 #[.bool true] := (show Blk w14 (w.heap.size + 1 + 1) 4 _ from tI.c2.at_).set 0 (.bool true)
            have e1' := (Below.heap_setCell w14 ⟨w.heap.size + 1 + 1, 0, none⟩ (.bool true) D hR2).trans e1
            have e2' := (Below.heap_setCell w14 ⟨w.heap.size + 1 + 1, 0, none⟩ (.bool true) D2 hR1).trans e2
            have b12 := b14.setCell (p := ⟨w.heap.size + 1 + 1, 0, none⟩) (by simp only; omega) (.bool true)
            revert r12 e1' e2' b12
            generalize w14.setCell ⟨w.heap.size + 1 + 1, 0, none⟩ (.bool true) = w15
            intro r12 e1' e2' b12
            have e3 : (w15.putObj D2 (.deferred none)).heap[D]? = some (.deferred (some [])) := (World.putObj_heap_other hDD).trans e1'
            have r14 := blk_put (o' := .deferred none) (blk_put (o' := .deferred none) r12 e2' rfl) e3 rfl
            have b15 := below_put (o' := .deferred none) (below_put (o' := .deferred none) b12 (l := D2) (by omega)) (l := D) (by omega)
            have c14 := r14.cell 0
            simp at c14
            refine ⟨by simp, .inl ⟨_, _, rfl, run_takeDeferred e2', ?_⟩⟩
            refine ⟨by simp, .inl ⟨_, _, rfl, run_takeDeferred e3, ?_⟩⟩
            exact ⟨_, (by simp [results, Tryd.results4, go_sem, c14]), rfl, b15⟩
    · rw [if_neg hm0] at hw
      obtain rfl : t = 0 := by omega
      have hm1 : most ≤ 0 := by omega
      clear hw hm0
      have tE2 : Tw w.heap.size b ga false many 0 (0 + 0) w X := by simpa using tE
      obtain ⟨sE, rE, oE⟩ := tE2.res
      have hcq := fun m => count_one rE oE m
      have Hcq := Lib.hid hcq
      have hu1 : IntKind.u64.wrap ((0 : Int) : Int) = (0 : Int) := IntWalk.u64_in _ (by omega)
      have hu2 : IntKind.u64.wrap (0 + (0 : Int) : Int) = 0 + (0 : Int) := IntWalk.u64_in _ (by omega)
      clear tE hcq rE oE
      go_wp2_with fail
      go_quiet ((go_at_call 16; exact Hcq.out _))
      obtain ⟨XD, hXD⟩ : ∃ XD, XD = X.drewN nq := ⟨_, rfl⟩
      have hmD := tE2.andBelow (below_drewN (Below.refl _ X) nq)
      obtain ⟨tD, mD⟩ := hmD
      have kgD := kgE.moved mD
      have knD := knE.moved mD
      have kdD := kdE.moved mD
      have kvD := kvE.moved mD
      have kaD := kaE.moved mD
      have kmD := kmE.moved mD
      rw [← hXD] at tD kgD knD kdD kvD kaD kmD ⊢
      clear hXD mD tE2 kgE knE kdE kvE kaE kmE x0 x1 x2 x3 x4 x5 x6 x7 Hcq hu1 hu2
      obtain ⟨x0, x1, x2, x3, x4⟩ := tD.cells
      have hF := free_tw tD (by omega)
      go_wp2_with (first
        | (go_at_call 17; refine hF.mono ?_; rintro e w9 ⟨rfl, t9, m9⟩; obtain ⟨s0, s1, s2, s3, s4⟩ := t9.cells; have kn9 := knD.moved m9; have s6 := (show Blk w9 (w4.heap.size + 1 + 1 + 1 + 1) _ _ from kn9.at_).cell 0; have s7 := (show Blk w9 (w4.heap.size + 1 + 1 + 1 + 1) _ _ from kn9.at_).frozen 0; simp at s6)
        | (go_at_call 12; refine (num_any _ _).mono ?_; rintro e w' ⟨rfl, rfl⟩))
      have t9' : Tw w.heap.size b ga false many 0 ((0 + 0) + 1) w w9 := t9
      obtain ⟨sF, rF, oF⟩ := t9'.res
      have kd9 := (kdD.moved m9).setFar rF (k := D) (g := w4.heap.size + 1 + 1 + 1 + 1) (by omega) kn9.nf (.int .i64 0)
      have kv9 := (kvD.moved m9).setFar rF (k := w4.heap.size) (g := w4.heap.size + 1 + 1 + 1 + 1) (by omega) kn9.nf (.int .i64 0)
      have ka9 := (kaD.moved m9).setFar rF (k := w4.heap.size + 1) (g := w4.heap.size + 1 + 1 + 1 + 1) (by omega) kn9.nf (.int .i64 0)
      have km9 := (kmD.moved m9).setFar rF (k := w4.heap.size + 1 + 1) (g := w4.heap.size + 1 + 1 + 1 + 1) (by omega) kn9.nf (.int .i64 0)
      have nb9 : Blk (w9.setCell ⟨w4.heap.size + 1 + 1 + 1 + 1, 0, none⟩ (.int .i64 0)) (w4.heap.size + 1 + 1 + 1 + 1) 3 #[.int .i64 0] := (show Blk w9 (w4.heap.size + 1 + 1 + 1 + 1) 3 _ from kn9.at_).set 0 (.int .i64 0)
      have nf9 : ¬ footA b (w9.setCell ⟨w4.heap.size + 1 + 1 + 1 + 1, 0, none⟩ (.int .i64 0)) (w4.heap.size + 1 + 1 + 1 + 1) := fun e => kn9.nf (((Res.beside rF ((Keep.refl (fun i => i = w4.heap.size + 1 + 1 + 1 + 1) w9).setCell (p := ⟨w4.heap.size + 1 + 1 + 1 + 1, 0, none⟩) (.inl rfl) _) (fun i hi => hi ▸ kn9.nf)).2 _).1 e)
      have tG := t9'.setFar (g := w4.heap.size + 1 + 1 + 1 + 1) (by omega) (by omega) kn9.nf (.int .i64 0)
      have hDlt : D < (w9.setCell ⟨w4.heap.size + 1 + 1 + 1 + 1, 0, none⟩ (.int .i64 0)).heap.size := (Array.getElem?_eq_some_iff.1 kd9.at_).1
      clear t9 t9' hF tD kgD knD kdD kvD kaD kmD x0 x1 x2 x3 x4 s0 s1 s2 s3 s4 s6 s7 m9 kn9 rF oF
      revert kd9 kv9 ka9 km9 nb9 nf9 tG hDlt
      generalize w9.setCell ⟨w4.heap.size + 1 + 1 + 1 + 1, 0, none⟩ (.int .i64 0) = wG
      intro kd9 kv9 ka9 km9 nb9 nf9 tG hDlt
      obtain ⟨sG, kG, oG⟩ := tG.ex
      have hcG : CapTr most 0 (.pointer (some ⟨b, 0, none⟩)) w4.heap.size (w4.heap.size + 1) (w4.heap.size + 1 + 1) wG := ⟨kv9.at_, ka9.at_, km9.at_, tG.num⟩
      have hfG : ∀ k, w4.heap.size ≤ k → k ≤ w4.heap.size + 2 → ¬ footA b wG k := fun k h1 h2 => by
        have : k = w4.heap.size ∨ k = w4.heap.size + 1 ∨ k = w4.heap.size + 1 + 1 := by omega
        rcases this with rfl | rfl | rfl
        · exact kv9.nf
        · exact ka9.nf
        · exact km9.nf
      have hp := pair_tries (q := cellRes (w4.heap.size + 1 + 1 + 1 + 1) 3 (fun n : Nat => #[.int .i64 (n : Int)])) (t0 := 0) kG hcG nb9 (fun k hk => by subst hk; exact ⟨by omega, by omega, by omega, by omega⟩) (fun k hk => by subst hk; exact nf9) hfG
      refine wp_rangeQ _ _ _ 4 rfl (enters_of Tryd.func35 (by kernel_rfl) rfl) (tries1_seqs b most 0 _ _ _ sG (by omega) (by rw [oG.hist]; omega)) (fun _ => rfl) (SecJ ((0 + 0) + 1) most) (fun _ _ _ => False) 0 hp ⟨.inl ⟨rfl, rfl, oG, rfl⟩, fun e => by cases e⟩ ?round2 ?done2 (fun _ _ _ _ _ _ _ _ h => h.elim)
      case round2 =>
        rintro l pre ⟨i, s, g⟩ ⟨k, g'⟩ ⟨i', s', g''⟩ t2 X9 ⟨hI, _⟩ hn hpX
        have hmm : 0 < most := by
          rcases hI with ⟨h1, h2, ho, h3⟩ | ⟨h2, _⟩
          · simp only at h1 h2 ho
            subst h1; subst h2
            rw [nextTr_one ho] at hn
            by_cases hm : ((0 : Nat) : Int) < most
            · omega
            · rw [if_neg hm] at hn; cases hn
          · simp only at h2
            subst h2
            rw [nextTr_won] at hn; cases hn
        exact absurd hmm (by omega)
      case done2 =>
        rintro D2 pre ⟨i, s, g⟩ t2 X9 hD2 hpX ⟨hI, hI2⟩ hn hdef hput
        have hfin : t2 = 0 ∧ One 0 ((0 + 0) + 1) s := hI.none_ (by cases g with | false => rfl | true => exact absurd (hI2 rfl) (by omega))
        have tH := tG.pair hpX (fun k hk => by subst hk; exact ⟨by omega, by omega⟩) hfin.2
        have knH : Blk X9 (w4.heap.size + 1 + 1 + 1 + 1) 3 #[.int .i64 (t2 : Int)] := hpX.atq
        have kd5 : Kp b D2 (.deferred (some [])) X9 := Kp.def_ hpX.atr hdef
        have kd6 := kd9.pair hpX (fun e => by have : _ = _ := e; omega)
        have hW := works_any X9 tH.num
        have hn2 := hfin.1
        rw [hn2] at knH
        have g6 := knH.cell 0
        simp at g6
        clear hp hpX hput hn hI hI2 hdef hcG tG kd9 kv9 ka9 km9 nb9 nf9 kG oG hfin hn2 knH
        go_wp2_with (go_at_call 7; refine hW.mono ?_; rintro e w14 ⟨rfl, hB14⟩; have hmH := tH.andBelow hB14; obtain ⟨tI, mI⟩ := hmH; obtain ⟨r0, r1, r2, r3, r4⟩ := tI.cells)
        have e2 := (kd5.moved mI).at_
        have e1 := (kd6.moved mI).at_
        have b14 := tI.toBelow
        have hR1 : D2 ≠ w.heap.size + 1 + 1 := by omega
        have hR2 : D ≠ w.heap.size + 1 + 1 := by omega
        have hDD : D ≠ D2 := fun e => by omega
        have r12 : Blk (w14.setCell ⟨w.heap.size + 1 + 1, 0, none⟩ (.bool true)) (w.heap.size + 1 + 1) 4 #[.bool true] := (show Blk w14 (w.heap.size + 1 + 1) 4 _ from tI.c2.at_).set 0 (.bool true)
        have e1' := (Below.heap_setCell w14 ⟨w.heap.size + 1 + 1, 0, none⟩ (.bool true) D hR2).trans e1
        have e2' := (Below.heap_setCell w14 ⟨w.heap.size + 1 + 1, 0, none⟩ (.bool true) D2 hR1).trans e2
        have b12 := b14.setCell (p := ⟨w.heap.size + 1 + 1, 0, none⟩) (by simp only; omega) (.bool true)
        revert r12 e1' e2' b12
        generalize w14.setCell ⟨w.heap.size + 1 + 1, 0, none⟩ (.bool true) = w15
        intro r12 e1' e2' b12
        have e3 : (w15.putObj D2 (.deferred none)).heap[D]? = some (.deferred (some [])) := (World.putObj_heap_other hDD).trans e1'
        have r14 := blk_put (o' := .deferred none) (blk_put (o' := .deferred none) r12 e2' rfl) e3 rfl
        have b15 := below_put (o' := .deferred none) (below_put (o' := .deferred none) b12 (l := D2) (by omega)) (l := D) (by omega)
        have c14 := r14.cell 0
        simp at c14
        refine ⟨by simp, .inl ⟨_, _, rfl, run_takeDeferred e2', ?_⟩⟩
        refine ⟨by simp, .inl ⟨_, _, rfl, run_takeDeferred e3, ?_⟩⟩
        exact ⟨_, (by simp [results, Tryd.results4, go_sem, c14]), rfl, b15⟩

end Go.Proofs.YthiaaapcbiameaaDoor
