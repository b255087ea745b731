/- Tries: its iterator: it ends behind the one that got it. -/
import Derived.Test.YthiaaapcbiameaaDoorSc
namespace Go.Proofs.YthiaaapcbiameaaDoor
open Go.RowKit Go.Shelf
attribute [local go_sem] Oper.semAt_some

/-- One more try, as long as there are any and none got it. -/
def nextTr (most j : Int) (t : Nat × St × Bool) : Option ((Nat × Bool) × (Nat × St × Bool)) :=
  if t.2.2 = true then none else (nextAtt most j (t.1, t.2.1)).map fun q => (q.1, (q.2.1, q.2.2, q.1.2))
theorem nextTr_some {most j : Int} {i : Nat} {s : St} {x : Nat × Bool} {t' : Nat × St} (h : nextAtt most j (i, s) = some (x, t')) : nextTr most j (i, s, false) = some (x, (t'.1, t'.2, x.2)) := by
  unfold nextTr
  rw [if_neg (by simp)]
  simp only
  rw [h]; rfl
theorem nextTr_none {most j : Int} {i : Nat} {s : St} (h : nextAtt most j (i, s) = none) : nextTr most j (i, s, false) = none := by
  unfold nextTr
  rw [if_neg (by simp)]
  simp only
  rw [h]; rfl
theorem nextTr_won (most j : Int) (i : Nat) (s : St) : nextTr most j (i, s, true) = none := by unfold nextTr; rw [if_pos rfl]

def capTr (most j : Int) (v : Value) (pv pa pm : Nat) : Res Unit where
  R _ W := CapTr most j v pv pa pm W
  ft _ k := k = pv ∨ k = pa ∨ k = pm ∨ k = 0
  lt := by
    rintro _ W h k (rfl | rfl | rfl | rfl)
    · exact h.v.lt
    · exact h.a.lt
    · exact h.m.lt
    · exact h.num.lt
  loc := by
    intro _ W W' h hk
    exact ⟨⟨h.v.keep (hk _ (.inl rfl)), h.a.keep (hk _ (.inr (.inl rfl))), h.m.keep (hk _ (.inr (.inr (.inl rfl)))), h.num.keep (hk _ (.inr (.inr (.inr rfl))))⟩, fun _ => Iff.rfl⟩
/-- The same where there is no arena. -/
def capTrVoid (most j : Int) (v : Value) (pv pa pm : Nat) : Res Unit where
  R _ W := CapTr most j v pv pa pm W ∧ Void W v
  ft _ k := (k = pv ∨ k = pa ∨ k = pm ∨ k = 0) ∨ v = .pointer (some ⟨k, 0, none⟩)
  lt := by
    rintro _ W ⟨h, hv⟩ k (hk | rfl)
    · exact (capTr most j v pv pa pm).lt (s := ()) h k hk
    · rcases hv with hv | ⟨b0, hv, hb, _⟩
      · cases hv
      · cases hv; exact hb
  loc := by
    rintro _ W W' ⟨h, hv⟩ hk
    exact ⟨⟨((capTr most j v pv pa pm).loc (s := ()) h (fun k e => hk k (.inl e))).1, hv.keep (fun b0 e => hk b0 (.inr e))⟩, fun _ => Iff.rfl⟩

/-- Between the pair of the outer iterator, and that of the inner one: W1 lies some new blocks on from W. -/
theorem pair_up {τ σ σ' : Type} {q : Res τ} {r : Res σ} {r' : Res σ'} {c c' : Res Unit} {W W1 X : World} {t0 t : τ} {s0 : σ} {s : σ} {s' : σ'} (h0 : Pair q r c W t0 s0 W) (hB : Below W.heap.size W W1)
    (hft : r'.ft = r.ft) (hR : r'.R s' X → r.R s X) (h : Pair q r' c' W1 t s' X) : Pair q r c W t s X := by
  obtain ⟨a1, a2⟩ := Res.beside h0.atq (Keep.none_of_below hB) (fun _ e => e.elim)
  obtain ⟨b1, b2⟩ := Res.beside h0.atr (Keep.none_of_below hB) (fun _ e => e.elim)
  obtain ⟨d1, d2⟩ := Res.beside h0.atc (Keep.none_of_below hB) (fun _ e => e.elim)
  have hc := c.loc (W' := X) d1 (fun k hk => by
    have hlt := c.lt d1 k hk
    refine h.keep.block k hlt (fun e => ?_)
    rcases e with e | e
    · exact h0.cq k ((d2 k).1 hk) ((a2 k).1 e)
    · rw [hft] at e; exact h0.cr k ((d2 k).1 hk) ((b2 k).1 e))
  have key : Pair q r c W1 t s X := by
    refine ⟨h.atq, hR h.atr, hc.1, fun k hk hr => h.qr k hk (by rw [hft]; exact hr), fun k hk hq => ?_, fun k hk hr => ?_, ?_, h.qn, fun k hk => ?_⟩
    · have hk1 := (hc.2 k).1 hk
      have hlt := c.lt d1 k hk1
      rcases h.qn k hq with e | e
      · exact h0.cq k ((d2 k).1 hk1) ((a2 k).1 e)
      · omega
    · have hk1 := (hc.2 k).1 hk
      have hlt := c.lt d1 k hk1
      rcases h.rn k (by rw [hft]; exact hr) with e | e
      · rw [hft] at e; exact h0.cr k ((d2 k).1 hk1) ((b2 k).1 e)
      · omega
    · have := h.keep; rw [hft] at this; exact this
    · have := h.rn k (by rw [hft]; exact hk); rw [hft] at this; exact this
  exact key.rebase ((Keep.none_of_below hB).mono (fun _ e => e.elim)) (fun k hk => .inl ((a2 k).1 hk)) (fun k hk => .inl ((b2 k).1 hk))
theorem pair_down {τ σ σ' : Type} {q : Res τ} {r : Res σ} {r' : Res σ'} {c c' : Res Unit} {W W1 : World} {t0 : τ} {s0 : σ} {s0' : σ'} (h0 : Pair q r c W t0 s0 W) (hB : Below W.heap.size W W1)
    (hft : r'.ft = r.ft) (hR : r.R s0 W1 → r'.R s0' W1) (hc : c'.R () W1) (hcf : ∀ k, c'.ft W1 k → c.ft W k ∨ W.heap.size ≤ k) : Pair q r' c' W1 t0 s0' W1 := by
  obtain ⟨a1, a2⟩ := Res.beside h0.atq (Keep.none_of_below hB) (fun _ e => e.elim)
  obtain ⟨b1, b2⟩ := Res.beside h0.atr (Keep.none_of_below hB) (fun _ e => e.elim)
  refine Pair.start a1 (hR b1) hc (fun k hk hr => ?_) (fun k hk hq => ?_) (fun k hk hr => ?_)
  · rw [hft] at hr; exact h0.qr k ((a2 k).1 hk) ((b2 k).1 hr)
  · have := q.lt h0.atq k ((a2 k).1 hq)
    rcases hcf k hk with e | e
    · exact h0.cq k e ((a2 k).1 hq)
    · omega
  · rw [hft] at hr
    have := r.lt h0.atr k ((b2 k).1 hr)
    rcases hcf k hk with e | e
    · exact h0.cr k e ((b2 k).1 hr)
    · omega

/-- The outer loop's round was the last one. -/
def LeftX {τ : Type} (Ix : List (Nat × Bool) × (Nat × St × Bool) → τ → Prop) (p : List (Nat × Bool) × (Nat × St)) (t : τ) : Prop := ∃ p' g, Ix (p', (p.2.1, p.2.2, g)) t

set_option maxRecDepth 100000 in
set_option maxHeartbeats 1600000 in
theorem tries1_seqs (b : Nat) (most j : Int) (pv pa pm : Nat) (s0 : St) (hm1 : most < 1000000) (hh : s0.hist.length < 1000000) :
    SeqsQ ((arena b).comap (fun t : Nat × St × Bool => t.2.1)) (capTr most j (.pointer (some ⟨b, 0, none⟩)) pv pa pm) Tryd.prog 35 #[.pointer (some ⟨pv, 0, none⟩), .pointer (some ⟨pa, 0, none⟩), .pointer (some ⟨pm, 0, none⟩)] encTry (nextTr most j) (0, s0, false) := by
  intro τ q n l I Ix t0 W hp h0 hY
  refine callsIn_wide.2 ?_
  have hcap : CapTr most j (.pointer (some ⟨b, 0, none⟩)) pv pa pm W := hp.atc
  have c1 := hcap.v.cell 0
  have c2 := hcap.a.cell 0
  have c3 := hcap.m.cell 0
  simp at c1 c2 c3
  have l1 := hcap.v.lt
  have l2 := hcap.a.lt
  have l3 := hcap.m.lt
  show Calls Tryd.prog 35 #[.func (.yield l) #[] #[], .pointer (some ⟨pv, 0, none⟩), .pointer (some ⟨pa, 0, none⟩), .pointer (some ⟨pm, 0, none⟩)] W _
  refine calls_of_wp_marks 5 Tryd.func35 rfl ?_
  simp only [Tryd.ntmps35, List.size_toArray, List.length_cons, List.length_nil, Nat.reduceAdd, Nat.reduceSub, Array.replicate_succ, Array.replicate_zero, List.push_toArray, List.append_toArray, List.nil_append, List.cons_append]
  go_wp2
  go_step3
  go_wp2
  go_step3
  go_wp2_with (go_at_call 36; refine (attempts_any _ _ _ _).mono ?_; rintro e w' ⟨rfl, rfl⟩)
  have hB0 : Below W.heap.size W (W.alloc (.cells #[.func (.yield l) #[] #[]] 86)) := (Below.refl _ _).alloc (Nat.le_refl _) _
  have hB : Below W.heap.size W ((((W.alloc (.cells #[.func (.yield l) #[] #[]] 86)).alloc (.cells #[.pointer (some ⟨b, 0, none⟩)] 83)).alloc (.cells #[.int .i64 j] 3)).alloc (.cells #[.int .i64 most] 3)) := ((hB0.alloc (by simp) _).alloc (by simp; omega) _).alloc (by simp; omega) _
  have hc0 := capAtt_made (.pointer (some ⟨b, 0, none⟩)) j most (W.alloc (.cells #[.func (.yield l) #[] #[]] 86)) (hcap.num.below hB0)
  have hy0 : Blk ((((W.alloc (.cells #[.func (.yield l) #[] #[]] 86)).alloc (.cells #[.pointer (some ⟨b, 0, none⟩)] 83)).alloc (.cells #[.int .i64 j] 3)).alloc (.cells #[.int .i64 most] 3)) W.heap.size 86 #[.func (.yield l) #[] #[]] := (((Blk.new W _ _).alloc _).alloc _).alloc _
  rw [World.size_alloc] at hc0
  (try simp only [World.size_alloc])
  revert hB hc0 hy0
  generalize ((((W.alloc (.cells #[.func (.yield l) #[] #[]] 86)).alloc (.cells #[.pointer (some ⟨b, 0, none⟩)] 83)).alloc (.cells #[.int .i64 j] 3)).alloc (.cells #[.int .i64 most] 3)) = W1
  intro hB hc0 hy0
  have hp1 : Pair q ((arena b).comap Prod.snd) (capAtt most j (.pointer (some ⟨b, 0, none⟩)) (W.heap.size + 1 + 1 + 1) (W.heap.size + 1) (W.heap.size + 1 + 1)) W1 t0 (0, s0) W1 :=
    pair_down hp hB rfl id hc0 (fun k hk => by
      rcases hk with rfl | rfl | rfl | rfl
      · exact .inr (by omega)
      · exact .inr (by omega)
      · exact .inr (by omega)
      · exact .inl (.inr (.inr (.inr rfl))))
  have yq : ¬ q.ft W1 W.heap.size ∧ ¬ ((arena b).comap (Prod.snd : Nat × St → St)).ft W1 W.heap.size := by
    have a2 := (Res.beside hp.atq (Keep.none_of_below hB) (fun _ e => e.elim)).2
    have b2 := (Res.beside hp.atr (Keep.none_of_below hB) (fun _ e => e.elim)).2
    exact ⟨fun e => by have := q.lt hp.atq _ ((a2 _).1 e); omega, fun e => by have := Res.lt _ hp.atr _ ((b2 _).1 e); omega⟩
  have Hp := Lib.hid hp
  have HB := Lib.hid hB
  have HY := Lib.hid hY
  have Hy := Lib.hid hy0
  have Hq := Lib.hid yq
  clear c1 c2 c3 hcap hp l1 l2 l3 hB hB0 hY hy0 yq hc0
  refine wp_rangeQ q ((arena b).comap Prod.snd) (capAtt most j (.pointer (some ⟨b, 0, none⟩)) (W.heap.size + 1 + 1 + 1) (W.heap.size + 1) (W.heap.size + 1 + 1)) 4 rfl (enters_of Tryd.func52 (by kernel_rfl) rfl)
    (attempts1_seqs b most j (W.heap.size + 1 + 1 + 1) (W.heap.size + 1) (W.heap.size + 1 + 1) s0 hm1 hh) (fun _ => rfl)
    (fun p t => I (p.1, (p.2.1, p.2.2, false)) t) (fun cd p t => cd = .exit 0 ∧ (LeftX Ix p t ∨ I (p.1, (p.2.1, p.2.2, true)) t)) t0 hp1 h0 ?round ?done ?stop
  case round =>
    rintro l' pre ⟨i, s⟩ ⟨k, g⟩ ⟨i', s'⟩ t X hI hn hpX
    simp only [encTry]
    gi_wp2
    refine ⟨Keep.refl _ _, ?_⟩
    intro X2 ht hpX2
    have hup : Pair q ((arena b).comap (fun t : Nat × St × Bool => t.2.1)) (capTr most j (.pointer (some ⟨b, 0, none⟩)) pv pa pm) W t (i', s', g) X2 := pair_up (r' := (arena b).comap (Prod.snd : Nat × St → St)) (s' := (i', s')) Hp.out HB.out rfl id hpX2
    obtain ⟨fn, tmps, assign, body, hy, hR⟩ := yield_depth 3 (HY.out pre (i, s, false) (k, g) (i', s', g) t X2 hI (nextTr_some hn) hup)
    simp only [encTry] at hy
    have y0 := (show Blk X2 W.heap.size 86 #[.func (.yield l) #[] #[]] from (hpX2.old Hy.out Hq.out.1 Hq.out.2).1).cell 0
    simp at y0
    have hsz : X.heap.size ≤ X2.heap.size := by rw [ht.size]; exact Nat.le_refl _
    have HS := Lib.hid hsz
    clear hpX hpX2 hup hn hsz ht
    cases g
    all_goals
      gi_wp2
      refine hR.mono ?_
      rintro e X3 ⟨t', hs3, (⟨rfl, hI3⟩ | ⟨rfl, hI3⟩)⟩
      · have hs4 := Lib.hid (hs3.mono HS.out)
        gi_wp2
        first
          | exact ⟨t', hs4.out, hI3⟩
          | exact ⟨t', hs4.out, rfl, .inr hI3⟩
      · have hs4 := Lib.hid (hs3.mono HS.out)
        gi_wp2
        exact ⟨t', hs4.out, rfl, .inl ⟨_, _, hI3⟩⟩
  case done =>
    rintro D pre ⟨i, s⟩ t X hD hpX hI hn hdef hput
    have hfin := pair_up (r := (arena b).comap (fun t : Nat × St × Bool => t.2.1)) (s := (i, s, false)) (r' := (arena b).comap (Prod.snd : Nat × St → St)) (s' := (i, s)) Hp.out HB.out rfl id (hput (.deferred none))
    go_wp2
    (try rw [Exit.noGoto_normal])
    refine ⟨by simp, .inl ⟨_, _, rfl, run_takeDeferred hdef, ?_⟩⟩
    exact ⟨_, results_none rfl _ _ _, ⟨_, rfl⟩, pre, (i, s, false), t, hfin, .inl ⟨hI, nextTr_none hn⟩⟩
  case stop =>
    rintro D cd pre ⟨i, s⟩ t X hD hpX ⟨rfl, hs⟩ hdef hput
    have hfin := fun g => pair_up (r := (arena b).comap (fun t : Nat × St × Bool => t.2.1)) (s := (i, s, g)) (r' := (arena b).comap (Prod.snd : Nat × St → St)) (s' := (i, s)) Hp.out HB.out rfl id (hput (.deferred none))
    go_wp2
    (try rw [Exit.noGoto_normal])
    refine ⟨by simp, .inl ⟨_, _, rfl, run_takeDeferred hdef, ?_⟩⟩
    refine ⟨_, results_none rfl _ _ _, ⟨_, rfl⟩, ?_⟩
    rcases hs with ⟨p', g, hs⟩ | hs
    · exact ⟨p', _, t, hfin _, .inr hs⟩
    · exact ⟨pre, (i, s, true), t, hfin _, .inl ⟨hs, nextTr_won _ _ _ _⟩⟩

set_option maxRecDepth 100000 in
set_option maxHeartbeats 1600000 in
theorem tries1_void (p : Option Addr) (most j : Int) (pv pa pm : Nat) :
    SeqsQ nores (capTrVoid most j (.pointer p) pv pa pm) Tryd.prog 35 #[.pointer (some ⟨pv, 0, none⟩), .pointer (some ⟨pa, 0, none⟩), .pointer (some ⟨pm, 0, none⟩)] encTry (fun _ => none) () := by
  intro τ q n l I Ix t0 W hp h0 hY
  refine callsIn_wide.2 ?_
  have hcap : CapTr most j (.pointer p) pv pa pm W := hp.atc.1
  have hvo : Void W (.pointer p) := hp.atc.2
  have c1 := hcap.v.cell 0
  have c2 := hcap.a.cell 0
  have c3 := hcap.m.cell 0
  simp at c1 c2 c3
  have l1 := hcap.v.lt
  have l2 := hcap.a.lt
  have l3 := hcap.m.lt
  have Hv := Lib.hid hvo
  have HY := Lib.hid hY
  clear hvo hY
  show Calls Tryd.prog 35 #[.func (.yield l) #[] #[], .pointer (some ⟨pv, 0, none⟩), .pointer (some ⟨pa, 0, none⟩), .pointer (some ⟨pm, 0, none⟩)] W _
  refine calls_of_wp_marks 5 Tryd.func35 rfl ?_
  simp only [Tryd.ntmps35, List.size_toArray, List.length_cons, List.length_nil, Nat.reduceAdd, Nat.reduceSub, Array.replicate_succ, Array.replicate_zero, List.push_toArray, List.append_toArray, List.nil_append, List.cons_append]
  go_wp2
  go_step3
  go_wp2
  go_step3
  go_wp2_with (go_at_call 36; refine (attempts_any _ _ _ _).mono ?_; rintro e w' ⟨rfl, rfl⟩)
  have hB0 : Below W.heap.size W (W.alloc (.cells #[.func (.yield l) #[] #[]] 86)) := (Below.refl _ _).alloc (Nat.le_refl _) _
  have hB : Below W.heap.size W ((((W.alloc (.cells #[.func (.yield l) #[] #[]] 86)).alloc (.cells #[.pointer p] 83)).alloc (.cells #[.int .i64 j] 3)).alloc (.cells #[.int .i64 most] 3)) := ((hB0.alloc (by simp) _).alloc (by simp; omega) _).alloc (by simp; omega) _
  have hc0 := capAtt_made (.pointer p) j most (W.alloc (.cells #[.func (.yield l) #[] #[]] 86)) (hcap.num.below hB0)
  rw [World.size_alloc] at hc0
  (try simp only [World.size_alloc])
  revert hB hc0
  generalize ((((W.alloc (.cells #[.func (.yield l) #[] #[]] 86)).alloc (.cells #[.pointer p] 83)).alloc (.cells #[.int .i64 j] 3)).alloc (.cells #[.int .i64 most] 3)) = W1
  intro hB hc0
  have hp1 : Pair q nores (capVoid most j (.pointer p) (W.heap.size + 1 + 1 + 1) (W.heap.size + 1) (W.heap.size + 1 + 1)) W1 t0 () W1 :=
    pair_down hp hB rfl id ⟨hc0, Hv.out.below hB⟩ (fun k hk => by
      rcases hk with (rfl | rfl | rfl | rfl) | hk
      · exact .inr (by omega)
      · exact .inr (by omega)
      · exact .inr (by omega)
      · exact .inl (.inl (.inr (.inr (.inr rfl))))
      · exact .inl (.inr hk))
  have Hp := Lib.hid hp
  have HB := Lib.hid hB
  clear c1 c2 c3 hcap hp l1 l2 l3 hB hB0 hc0
  refine wp_rangeQ q nores (capVoid most j (.pointer p) (W.heap.size + 1 + 1 + 1) (W.heap.size + 1) (W.heap.size + 1 + 1)) 4 rfl (enters_of Tryd.func52 (by kernel_rfl) rfl)
    (attempts1_void (.pointer p) most j (W.heap.size + 1 + 1 + 1) (W.heap.size + 1) (W.heap.size + 1 + 1)) (fun _ => rfl)
    I (fun _ _ _ => False) t0 hp1 h0 (fun _ _ _ _ _ _ _ _ hn => by cases hn) ?done (fun _ _ _ _ _ _ _ _ h => h.elim)
  case done =>
    rintro D pre ⟨⟩ t X hD hpX hI hn hdef hput
    have hfin := Lib.hid (pair_up (r := nores) (s := ()) (r' := nores) (s' := ()) Hp.out HB.out rfl id (hput (.deferred none)))
    go_wp2
    (try rw [Exit.noGoto_normal])
    refine ⟨by simp, .inl ⟨_, _, rfl, run_takeDeferred hdef, ?_⟩⟩
    exact ⟨_, results_none rfl _ _ _, ⟨_, rfl⟩, pre, (), t, hfin.out, .inl ⟨hI, by trivial⟩⟩
end Go.Proofs.YthiaaapcbiameaaDoor
