/- SpinPlays: a call: Tries. -/
import Derived.Test.YthiaaapcbiameaaDoorTa
namespace Go.Proofs.YthiaaapcbiameaaDoor
open Go.RowKit Go.Shelf
attribute [local go_sem] Oper.semAt_some
set_option maxRecDepth 100000 in
set_option maxHeartbeats 6400000 in
theorem act3_7 {w : World} {b : Nat} {s : St} {v : Value} (x : ActD) (h : Sd b s s v w) (hx : x.what = 7) (hh : s.hist.length < 1000000) (hm : x.n ≤ 1000) :
    Calls Tryd.prog 10 #[.pointer (some ⟨b, 0, none⟩), v, x.val] w (ActPost b (triesSt x.at_ x.n.toNat s).1 w) := by
  obtain ⟨xw, xa, xn⟩ := x
  simp only at hx hm ⊢
  subst hx
  obtain ⟨A0, c0, A0', c0', rfl⟩ := h.ref.form
  have M0 := Mid.start (x := ⟨7, xa, xn⟩) (v0 := .nilFunc) h #[.slice A0 s.cs.length c0, .int .i64 s.most, .slice A0' s.hist.length c0']
  unfold ActD.val
  simp only
  have hr := refTries3 xa xn _ M0.sd.ref hh hm
  have htl := triesSt_len xa xn.toNat s
  revert hr htl
  generalize hz : triesSt xa xn.toNat s = z
  obtain ⟨r1, told⟩ := z
  simp only
  intro hr htl
  refine calls_of_wp_marks 5 Tryd.func10 rfl ?_
  simp only [Tryd.ntmps10, List.size_toArray, List.length_cons, List.length_nil, Nat.reduceAdd, Nat.reduceSub, Array.replicate_succ, Array.replicate_zero, List.push_toArray, List.append_toArray, List.nil_append, List.cons_append]
  have hnf := eql_nilSeq
  go_wp2_with (first
    | (go_at_call 25
       refine hr.mono ?_
       rintro e w1 ⟨v1, u1, rfl, hr1, hu1, hB1, ho1⟩
       obtain ⟨A1, c1, A1', c1', rfl⟩ := hr1.form
       have M1 := (M0.ref hr1 hB1 ho1).below ((Below.refl _ _).alloc (Nat.le_refl _) (.cells #[.slice A1 r1.cs.length c1, .int .i64 r1.most, .slice A1' r1.hist.length c1'] 31))
       have ob1 := Blk.new w1 31 #[.slice A1 r1.cs.length c1, .int .i64 r1.most, .slice A1' r1.hist.length c1']
       have hs1 := M0.sz
       have hs2 := hB1.size
       have q0 := M1.bx.cell 0
       have q1 := M1.bx.cell 1
       have q2 := M1.bx.cell 2
       simp at q0 q1 q2
       have sd1 := (M0.ref hr1 hB1 ho1).sd)
    | (go_at_call 15; refine (Tries_any _ _ _ _).mono ?_; rintro e w2 ⟨rfl, rfl⟩))
  clear hnf q0 q1 q2
  obtain ⟨wX, hwX⟩ : ∃ wX, (((((w1.alloc (.cells #[.slice A1 r1.cs.length c1, .int .i64 r1.most, .slice A1' r1.hist.length c1'] 31)).alloc (.cells #[.pointer (some ⟨b, 0, none⟩)] 24)).alloc (.cells #[.int .i64 xa] 3)).alloc (.cells #[.int .i64 xn] 3)).alloc (.cells #[.slice none 0 0] 56)) = wX := ⟨_, rfl⟩
  have BX : Below w1.heap.size w1 wX := by rw [← hwX]; exact (((((Below.refl _ _).alloc (Nat.le_refl _) _).alloc (by simp) _).alloc (by simp; omega) _).alloc (by simp; omega) _).alloc (by simp; omega) _
  have szX : wX.heap.size = w1.heap.size + 5 := by rw [← hwX]; simp
  have MX := (M0.ref hr1 hB1 ho1).below BX
  have g1 : Blk wX w1.heap.size 31 #[.slice A1 r1.cs.length c1, .int .i64 r1.most, .slice A1' r1.hist.length c1'] := by rw [← hwX]; exact ((((Blk.new w1 31 #[.slice A1 r1.cs.length c1, .int .i64 r1.most, .slice A1' r1.hist.length c1']).alloc _).alloc _).alloc _).alloc _
  have g2 : Blk wX (w1.heap.size + 1) 24 #[.pointer (some ⟨b, 0, none⟩)] := by
    rw [← hwX]
    have := (((Blk.new (w1.alloc (.cells #[.slice A1 r1.cs.length c1, .int .i64 r1.most, .slice A1' r1.hist.length c1'] 31)) 24 #[.pointer (some ⟨b, 0, none⟩)]).alloc (.cells #[.int .i64 xa] 3)).alloc (.cells #[.int .i64 xn] 3)).alloc (.cells #[.slice none 0 0] 56)
    rwa [World.size_alloc] at this
  have g3 : Blk wX (w1.heap.size + 1 + 1) 3 #[.int .i64 xa] := by
    rw [← hwX]
    have := ((Blk.new ((w1.alloc (.cells #[.slice A1 r1.cs.length c1, .int .i64 r1.most, .slice A1' r1.hist.length c1'] 31)).alloc (.cells #[.pointer (some ⟨b, 0, none⟩)] 24)) 3 #[.int .i64 xa]).alloc (.cells #[.int .i64 xn] 3)).alloc (.cells #[.slice none 0 0] 56)
    rwa [World.size_alloc, World.size_alloc] at this
  have g4 : Blk wX (w1.heap.size + 1 + 1 + 1) 3 #[.int .i64 xn] := by
    rw [← hwX]
    have := (Blk.new (((w1.alloc (.cells #[.slice A1 r1.cs.length c1, .int .i64 r1.most, .slice A1' r1.hist.length c1'] 31)).alloc (.cells #[.pointer (some ⟨b, 0, none⟩)] 24)).alloc (.cells #[.int .i64 xa] 3)) 3 #[.int .i64 xn]).alloc (.cells #[.slice none 0 0] 56)
    rwa [World.size_alloc, World.size_alloc, World.size_alloc] at this
  have g5 : Blk wX (w1.heap.size + 1 + 1 + 1 + 1) 56 #[.slice none 0 0] := by
    rw [← hwX]
    have := Blk.new ((((w1.alloc (.cells #[.slice A1 r1.cs.length c1, .int .i64 r1.most, .slice A1' r1.hist.length c1'] 31)).alloc (.cells #[.pointer (some ⟨b, 0, none⟩)] 24)).alloc (.cells #[.int .i64 xa] 3)).alloc (.cells #[.int .i64 xn] 3)) 56 #[.slice none 0 0]
    rwa [World.size_alloc, World.size_alloc, World.size_alloc, World.size_alloc] at this
  have hu : Bools wX u1 told := hu1.below (BX.mono (Nat.le_refl _))
  have hfr : ∀ k, w1.heap.size ≤ k → ¬ footA b wX k := fun k hk => fresh_below sd1.lk.are BX hk
  have hn0 := sd1.lk.num.lt
  have hq0 : ∀ k, (boolsRes (w1.heap.size + 1 + 1 + 1 + 1)).ft wX k → k = w1.heap.size + 1 + 1 + 1 + 1 := fun k hk => by
    rcases hk with rfl | ⟨u', hb, hk⟩
    · rfl
    · unfold Blk at g5 hb
      rw [g5] at hb
      simp at hb
      subst hb
      simp [Value.ownBlock] at hk
  have hcap : (capTr xn xa (.pointer (some ⟨b, 0, none⟩)) (w1.heap.size + 1) (w1.heap.size + 1 + 1) (w1.heap.size + 1 + 1 + 1)).R () wX := ⟨g2, g3, g4, MX.sd.lk.num⟩
  have hp : Pair (boolsRes (w1.heap.size + 1 + 1 + 1 + 1)) ((arena b).comap (fun t : Nat × St × Bool => t.2.1)) (capTr xn xa (.pointer (some ⟨b, 0, none⟩)) (w1.heap.size + 1) (w1.heap.size + 1 + 1) (w1.heap.size + 1 + 1 + 1)) wX [] (0, s, false) wX := by
    refine Pair.start ⟨_, g5, Bools.nil _⟩ MX.sd.lk.are hcap (fun k hk => ?_) (fun k hk hk' => ?_) (fun k hk => ?_)
    · obtain rfl := hq0 k hk
      exact hfr _ (by omega)
    · have := hq0 k hk'
      rcases hk with rfl | rfl | rfl | rfl <;> omega
    · rcases hk with rfl | rfl | rfl | rfl
      · exact hfr _ (by omega)
      · exact hfr _ (by omega)
      · exact hfr _ (by omega)
      · exact MX.sd.lk.nf
  rw [hwX]
  clear hwX hcap g2 g3 g4 M1 ob1 M0 hr1 ho1 hr hu1 sd1 hB1
  refine wp_rangeQ _ _ _ 4 rfl (enters_of Tryd.func35 (by kernel_rfl) rfl) (tries1_seqs b xn xa _ _ _ s (by omega) (by omega)) (fun _ => rfl) (TrI xa xn s) (fun _ _ _ => False) [] hp TrI.start ?round ?done (fun _ _ _ _ _ _ _ _ h => h.elim)
  case round =>
    rintro l pre ⟨i, s1, g⟩ ⟨k, g'⟩ ⟨i', s', g''⟩ t X hI hn hpX
    obtain ⟨hk, hlt, hI'⟩ := hI.step hn
    subst hk
    clear hI hn
    simp only [encTry]
    gi_wp2
    refine ⟨Keep.refl _ _, ?_⟩
    intro X2 ht hpX2
    obtain ⟨ua, hba, hra⟩ := hpX2.atq
    obtain ⟨Au, cu, rfl, hcu1, hcu2⟩ := Row.form hra
    have y0 := hba.cell 0
    have y1 := hba.frozen 0
    have yl := hba.lt
    simp at y0
    have e0 : ((t.length : Int) != (t.length : Int)) = false := by simp
    obtain ⟨i0, hi0, hz0, hz1, hz2⟩ := info_parts info4
    have hsz : X.heap.size = X2.heap.size := by have := ht.size; omega
    have HI := Lib.hid hI'
    clear hp MX hu hfr hq0 g1 g5 BX hpX hpX2 ht hI' h
    gi_wp2_with (gi_at_builtin
                 go_loud (refine wpListIn_append_row rfl (.tmp 165) (.tmp 167) 56 rfl 4 4 i0 _ 1 1 Tryd.underlying56 hi0 hz0 hz1 hz2 rfl (.slice Au t.length cu) t.length _ rfl (hra.alloc (.cells #[.bool g'] 4)) (.slice (some ⟨X2.heap.size, 0, none⟩) 1 1) 1 [.bool g'] rfl (Row.made_at X2 X2.heap.size rfl 4 1 1 #[.bool g'] [.bool g'] rfl (by simp [maxLen]) rfl) (by simp [Value.oneCell']) (by simp only [maxLen]; omega) (by omega) ?_)
                 intro v4 w4 hown4 hgrow hat
                 obtain ⟨A4, c4, rfl, hc4, hm4⟩ := Row.form hown4
                 have hb4 : Blk w4 (w1.heap.size + 1 + 1 + 1 + 1) 56 #[.slice Au t.length cu] := (hba.alloc (.cells #[.bool g'] 4)).keep (hgrow.block _ (by rw [World.size_alloc]; omega) (fun e => Row.ne_blk hra hba (by decide) e.symm))
                 have hs1' : (boolsRes (w1.heap.size + 1 + 1 + 1 + 1)).Steps t X2 (X2.alloc (.cells #[.bool g'] 4)) := Res.Steps.below (r := boolsRes (w1.heap.size + 1 + 1 + 1 + 1)) (s := t) ⟨(Value.slice Au t.length cu), hba, hra⟩ ((Below.refl X2.heap.size X2).alloc (Nat.le_refl _) (.cells #[.bool g'] 4))
                 have hs2' : (boolsRes (w1.heap.size + 1 + 1 + 1 + 1)).StepsN (X2.alloc (.cells #[.bool g'] 4)).heap.size (t ++ [g']) (X2.alloc (.cells #[.bool g'] 4)) (w4.setCell ⟨w1.heap.size + 1 + 1 + 1 + 1, 0, none⟩ (.slice A4 (t.length + 1) c4)) := boolsRes_step (l := t) (n := (X2.alloc (.cells #[.bool g'] 4)).heap.size) (hba.alloc (.cells #[.bool g'] 4)) (Nat.le_refl _) (bools_snoc hown4) hb4 hgrow hat
                 have hst := Res.StepsN.trans hs1' hs1'.size hs2'
                 have z0 := hb4.cell 0
                 have z1 := hb4.frozen 0
                 simp at z0
                 have HS := Lib.hid (Res.StepsN.mono hst (Nat.le_of_eq hsz))
                 clear hs1' hs2' hst hb4 hat hgrow hown4)
    exact ⟨_, HS.out, HI.out⟩
  case done =>
    rintro D pre ⟨i, s1, g⟩ t X hD hpX hI hn hdef hput
    have hE := hz.symm.trans (hI.done hn)
    injection hE with e1 e2
    subst e1
    subst e2
    have hps : w.heap.size + 4 ≤ w1.heap.size := Nat.le_trans hs1 hs2
    have MD := MX.pair hpX hq0 (by omega) (fun e => by
      obtain ⟨⟨vC, vL, hv, h1, h2⟩, _, _⟩ := MX.sd.ref
      rw [hv] at e
      rcases e.parts with e' | e'
      · exact h1.ne_blk g5 (by decide) e'
      · exact h2.ne_blk g5 (by decide) e')
    have gD : Blk X w1.heap.size 31 #[.slice A1 r1.cs.length c1, .int .i64 r1.most, .slice A1' r1.hist.length c1'] := (hpX.old g1 (fun e => by have := hq0 _ e; omega) (hfr _ (Nat.le_refl _))).1
    have uD : Bools X u1 told := Row.keep hu (fun k hk => hpX.keep.block k (Row.lt hu k hk) (fun e => by
      rcases e with e | e
      · have := hq0 k e
        subst this
        exact Row.ne_blk hu g5 (by decide) hk
      · exact footA_row MX.sd.lk.are hu hk e))
    obtain ⟨ua, hba, hra⟩ := hpX.atq
    have hDs : w.heap.size + 4 ≤ D := by omega
    have hDw : w1.heap.size < D := by omega
    have k0 := gD.cell 0
    have k1 := gD.cell 1
    have k2 := gD.cell 2
    have k3 := hba.cell 0
    simp at k0 k1 k2 k3
    clear hp MX hu hfr hq0 g1 g5 BX hpX hI hn hput h hz
    go_wp2_with fail
    have nn0 : w.heap.size + 1 + 1 ≠ w1.heap.size := by omega
    have nn1 : w.heap.size + 1 + 1 + 1 ≠ w1.heap.size := by omega
    have nn2 : w.heap.size + 1 + 1 ≠ w1.heap.size + 1 + 1 + 1 + 1 := by omega
    have nn3 : w.heap.size + 1 + 1 + 1 ≠ w1.heap.size + 1 + 1 + 1 + 1 := by omega
    go_region_held3 (fun w' => w'.cell? ⟨w1.heap.size, 0, none⟩ = some (.slice A1 r1.cs.length c1) ∧ w'.cell? ⟨w1.heap.size, 1, none⟩ = some (.int .i64 r1.most) ∧ w'.cell? ⟨w1.heap.size, 2, none⟩ = some (.slice A1' r1.hist.length c1') ∧ w'.cell? ⟨w1.heap.size + 1 + 1 + 1 + 1, 0, none⟩ = some ua)
      (first
        | with_reducible exact ⟨y0, y1, y2, y3⟩
        | with_reducible exact ⟨k0, k1, k2, k3⟩
        | ((refine ⟨?_, ?_, ?_, ?_⟩ <;> (repeat (rw [World.cell?_setCell_far _ _ _ _ (by with_reducible first | exact nn0 | exact nn1 | exact nn2 | exact nn3)]))) <;> with_reducible (first | assumption | exact y0 | exact y1 | exact y2 | exact y3))
        | go_keep)
      ((go_at_call 26
        refine (bools_same ua u1 told X.drew hra uD).mono ?_
        rintro e w2 ⟨rfl, hB2⟩
        have M2 := (MD.below ((Below.refl _ _).drew)).below hB2
        have ob2 := gD.drew.keep (hB2.block _ gD.lt)
        have bb2 := hba.drew.keep (hB2.block _ hba.lt)
        have kd2 : w2.heap[D]? = some (.deferred (some [])) := (hB2.block D (Array.getElem?_eq_some_iff.1 hdef).1).trans hdef
        have y0 := ob2.cell 0
        have y1 := ob2.cell 1
        have y2 := ob2.cell 2
        have y3 := bb2.cell 0
        have z0 := M2.rs.cell 0
        have z1 := M2.rs.cell 1
        have z2 := M2.rs.cell 2
        have f0 := M2.rs.frozen 0
        have f1 := M2.rs.frozen 1
        have f2 := M2.rs.frozen 2
        have z3 := M2.rb.cell 0
        have f3 := M2.rb.frozen 0
        simp at y0 y1 y2 y3 z0 z1 z2 z3))
    rename_i hHeld
    clear hHeld
    have M5 := (M2.set3 rfl (.slice A1 r1.cs.length c1) (.int .i64 r1.most) (.slice A1' r1.hist.length c1')).setb rfl (.bool true)
    have kd5 : ((((w2.setCell ⟨w.heap.size + 1 + 1, 0, none⟩ (.slice A1 r1.cs.length c1)).setCell ⟨w.heap.size + 1 + 1, 1, none⟩ (.int .i64 r1.most)).setCell ⟨w.heap.size + 1 + 1, 2, none⟩ (.slice A1' r1.hist.length c1')).setCell ⟨w.heap.size + 1 + 1 + 1, 0, none⟩ (.bool true)).heap[D]? = some (.deferred (some [])) :=
      (Below.heap_setCell _ ⟨w.heap.size + 1 + 1 + 1, 0, none⟩ _ D (by simp only; omega)).trans ((Below.heap_setCell _ ⟨w.heap.size + 1 + 1, 2, none⟩ _ D (by simp only; omega)).trans ((Below.heap_setCell _ ⟨w.heap.size + 1 + 1, 1, none⟩ _ D (by simp only; omega)).trans ((Below.heap_setCell _ ⟨w.heap.size + 1 + 1, 0, none⟩ _ D (by simp only; omega)).trans kd2)))
    have M6 := M5.put kd5 hDs
    have v0 := M6.rs.cell 0
    have v1 := M6.rs.cell 1
    have v2 := M6.rs.cell 2
    have v3 := M6.rb.cell 0
    simp only [List.getElem?_toArray, List.getElem?_cons_zero, List.getElem?_cons_succ] at v0 v1 v2 v3
    have hfin := M6.post
    go_wp2_with fail
    refine ⟨by simp, .inl ⟨_, _, rfl, run_takeDeferred kd5, ?_⟩⟩
    exact ⟨.tuple #[(.agg #[.slice A1 r1.cs.length c1, .int .i64 r1.most, .slice A1' r1.hist.length c1']), .bool true], (by simp [results, Tryd.results10, go_sem, v0, v1, v2, v3]), hfin⟩
end Go.Proofs.YthiaaapcbiameaaDoor
