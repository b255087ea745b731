/- The chapter's rows: works. -/
import Derived.Test.YthiaaapcbiameaaDoorSe
namespace Go.Proofs.YthiaaapcbiameaaDoor
open Go.RowKit Go.Shelf
attribute [local go_sem] Oper.semAt_some

/-- A round over a held lock: as many were yielded as the loop has counted. -/
structure LockI (p : List (Nat × Bool) × (Nat × St × Bool)) (n : Nat) : Prop where
  n : n = p.2.1
  g : p.2.2.2 = false
  o : One 1 (4 + p.2.1) p.2.2.1
  le : p.2.1 ≤ 3

/-- A round over a free lock. -/
def FreeI (p : List (Nat × Bool) × (Nat × St × Bool)) (_ : Unit) : Prop := (p.2.1 = 0 ∧ p.2.2.2 = false ∧ One 0 10 p.2.2.1) ∨ (p.2.2.2 = true ∧ One 1 11 p.2.2.1)

set_option maxRecDepth 100000 in
set_option maxHeartbeats 3200000 in
theorem works_any (w : World) (hn : Num w) : Calls Tryd.prog 7 #[] w fun e w' => e = .returned (.bool true) ∧ Below w.heap.size w w' := by
  refine calls_of_wp_marks 5 Tryd.func7 rfl ?_
  simp only [Tryd.ntmps7, List.size_toArray, List.length_nil, Nat.reduceSub, Array.replicate_succ, Array.replicate_zero, List.push_toArray, List.append_toArray, List.nil_append, List.cons_append]
  go_wp2_with fail
  refine (new_wr hn).mono ?_
  rintro e w1 ⟨b, s, rfl, hs, k1, b1, f1⟩
  go_wp2_with fail
  refine (snew_wr k1 hs b1 f1).mono ?_
  rintro e w2 ⟨rfl, a2⟩
  clear hs k1 b1 f1
  go_wp2_with fail
  refine (held_wr a2 (by decide)).mono ?_
  rintro e w3 ⟨rfl, a3, _⟩
  go_wp2_with fail
  refine (try_wr a3 (by decide)).mono ?_
  rintro e w4 ⟨rfl, a4, _⟩
  go_wp2_with fail
  refine (try_wr a4 (by decide)).mono ?_
  rintro e w5 ⟨rfl, a5, _⟩
  go_wp2_with fail
  refine (held_wr a5 (by decide)).mono ?_
  rintro e w6 ⟨rfl, a6, _⟩
  clear a2 a3 a4 a5
  go_wp2_with fail
  refine (Tries_any _ _ _ _).mono ?_
  rintro e w' ⟨rfl, rfl⟩
  have hnf := eql_nilSeq
  go_wp2_with fail
  clear hnf
  have a6' : Wr w.heap.size b 1 4 w w6 := a6
  have hW : Below (w6.heap.size + 3) (((w6.alloc (.cells #[.pointer (some ⟨b, 0, none⟩)] 24)).alloc (.cells #[.int .i64 0] 3)).alloc (.cells #[.int .i64 3] 3)) ((((w6.alloc (.cells #[.pointer (some ⟨b, 0, none⟩)] 24)).alloc (.cells #[.int .i64 0] 3)).alloc (.cells #[.int .i64 3] 3)).alloc (.cells #[.int .i64 0] 3)) :=
    (Below.refl _ _).alloc (by simp) _
  have hnb := Blk.new (((w6.alloc (.cells #[.pointer (some ⟨b, 0, none⟩)] 24)).alloc (.cells #[.int .i64 0] 3)).alloc (.cells #[.int .i64 3] 3)) 3 #[.int .i64 0]
  rw [World.size_alloc, World.size_alloc, World.size_alloc] at hnb
  obtain ⟨hc, a7, hcf, hsz⟩ := tries_ready a6' 3 hW
  have hlt := a6'.rb.lt
  have h0 := a6'.num.lt
  revert hc a7 hcf hnb hsz
  clear hW a6 a6'
  generalize ((((w6.alloc (.cells #[.pointer (some ⟨b, 0, none⟩)] 24)).alloc (.cells #[.int .i64 0] 3)).alloc (.cells #[.int .i64 3] 3)).alloc (.cells #[.int .i64 0] 3)) = w7
  intro hnb hc a7 hcf hsz
  have a7e := a7.ex
  obtain ⟨s1, k7, o7⟩ := a7e
  have hp := pair_tries (q := cellRes (w6.heap.size + 1 + 1 + 1) 3 (fun n : Nat => #[.int .i64 (n : Int)])) (t0 := 0) k7 hc hnb (fun k hk => by subst hk; exact ⟨by omega, by omega, by omega, by omega⟩) (fun k hk => by subst hk; exact hcf _ (by omega)) (fun k hk _ => hcf k hk)
  refine wp_rangeQ _ _ _ 4 rfl (enters_of Tryd.func35 (by kernel_rfl) rfl) (tries1_seqs b 3 0 _ _ _ s1 (by decide) (by rw [o7.hist]; decide)) (fun _ => rfl) LockI (fun _ _ _ => False) 0 hp ⟨rfl, rfl, o7, Nat.zero_le _⟩ ?round ?done (fun _ _ _ _ _ _ _ _ h => h.elim)
  case round =>
    rintro l pre ⟨i, s, g⟩ ⟨k, g'⟩ ⟨i', s', g''⟩ t X ⟨hti, hg, ho, hi⟩ hn hpX
    simp only at ho hi hn hti hg
    subst hti; subst hg
    rw [nextTr_one ho] at hn
    by_cases hi3 : (t : Int) < 3
    · rw [if_pos hi3] at hn
      simp only [Option.some.injEq, Prod.mk.injEq] at hn
      obtain ⟨⟨rfl, rfl⟩, rfl, rfl, rfl⟩ := hn
      simp only [encTry]
      gi_wp2
      refine ⟨Keep.refl _ _, ?_⟩
      intro X2 ht hpX2
      have hb : Blk X2 (w6.heap.size + 1 + 1 + 1) 3 #[.int .i64 (t : Int)] := hpX2.atq
      have c0 := hb.cell 0
      have f0 := hb.frozen 0
      simp at c0
      have hst := cellRes_set (n := X.heap.size) (f := fun n : Nat => #[.int .i64 (n : Int)]) (t := t) (t' := t + 1) hb 0 (.int .i64 ((t : Int) + 1)) (by simp)
      have hfin : LockI (pre ++ [(t, (1 : Int) == 0)], (t + 1, (doSt s 3 0 0 1).1, (1 : Int) == 0)) (t + 1) := ⟨rfl, rfl, (by have := (ho.do_ 3 0 1).1; simpa [newOf, Nat.add_assoc] using this), by show t + 1 ≤ 3; omega⟩
      have HF := Lib.hid (And.intro hst hfin)
      clear hst hfin hpX hpX2 ht hb ho
      gi_wp2
      exact ⟨_, HF.out.1, HF.out.2⟩
    · rw [if_neg hi3] at hn; cases hn
  case done =>
    rintro D pre ⟨i, s, g⟩ t X hD hpX ⟨hti, hg, ho, hi⟩ hn hdef hput
    simp only at ho hi hn hti hg
    subst hti; subst hg
    rw [nextTr_one ho] at hn
    have ht3 : t = 3 := by
      by_cases hi3 : (t : Int) < 3
      · rw [if_pos hi3] at hn; cases hn
      · omega
    subst ht3
    have a8 : Wr w.heap.size b 1 7 w X := a7.pair hpX (fun k hk => by subst hk; omega) ho
    have kd : Kp b D (.deferred (some [])) X := Kp.def_ hpX.atr hdef
    have kn : Kp b (w6.heap.size + 1 + 1 + 1) (.cells #[.int .i64 3] 3 (0, 0)) X := ⟨hpX.atq, hpX.qr _ rfl⟩
    clear hp hpX hput hn ho hi hc a7 hcf k7 o7 hnb hdef
    go_wp2_with fail
    refine (free_wr a8 (by decide)).mono ?_
    rintro e w8 ⟨rfl, a9, m1⟩
    go_wp2_with fail
    refine (free_wr a9 (by decide)).mono ?_
    rintro e w9 ⟨rfl, a10, m2⟩
    go_wp2_with fail
    refine (held_wr a10 (by decide)).mono ?_
    rintro e w10 ⟨rfl, a11, m3⟩
    have kd3 := ((kd.moved m1).moved m2).moved m3
    have kn3 := ((kn.moved m1).moved m2).moved m3
    clear a8 a9 a10 kd kn m1 m2 m3
    go_wp2_with fail
    refine (Tries_any _ _ _ _).mono ?_
    rintro e w' ⟨rfl, rfl⟩
    have hnf := eql_nilSeq
    go_wp2_with fail
    clear hnf
    have a11' : Wr w.heap.size b 0 10 w w10 := a11
    have hr10 : ∃ s, (arena b).R s w10 := by obtain ⟨s, hk, _⟩ := a11'.ex; exact ⟨s, hk.lk.are⟩
    obtain ⟨s10, r10⟩ := hr10
    have hB3 : Below w10.heap.size w10 (((w10.alloc (.cells #[.pointer (some ⟨b, 0, none⟩)] 24)).alloc (.cells #[.int .i64 0] 3)).alloc (.cells #[.int .i64 3] 3)) := (((Below.refl _ _).alloc (Nat.le_refl _) _).alloc (by simp) _).alloc (by simp; omega) _
    have kd4 := kd3.below r10 hB3
    have hDlt := (Array.getElem?_eq_some_iff.1 kd3.at_).1
    have kn4 := kn3.below r10 hB3
    obtain ⟨hc, a12, hcf, hsz⟩ := tries_ready a11' 3 (Below.refl _ _)
    have hlt10 := a11'.rb.lt
    revert hc a12 hcf hsz kd4 kn4
    clear a11 a11' hB3 r10 kd3 kn3
    generalize (((w10.alloc (.cells #[.pointer (some ⟨b, 0, none⟩)] 24)).alloc (.cells #[.int .i64 0] 3)).alloc (.cells #[.int .i64 3] 3)) = w11
    intro kd4 kn4 hc a12 hcf hsz
    have a12e := a12.ex
    obtain ⟨s2, k12, o12⟩ := a12e
    have hp := pair_tries (q := nores) (t0 := ()) k12 hc trivial (fun k hk => hk.elim) (fun k hk => hk.elim) (fun k hk _ => hcf k hk)
    refine wp_rangeQ _ _ _ 4 rfl (enters_of Tryd.func35 (by kernel_rfl) rfl) (tries1_seqs b 3 0 _ _ _ s2 (by decide) (by rw [o12.hist]; decide)) (fun _ => rfl) FreeI (fun _ _ _ => False) () hp (.inl ⟨rfl, rfl, o12⟩) ?round2 ?done2 (fun _ _ _ _ _ _ _ _ h => h.elim)
    case round2 =>
      rintro l pre ⟨i, s, g⟩ ⟨k, g'⟩ ⟨i', s', g''⟩ t X hI hn hpX
      rcases hI with ⟨hi, hg, ho⟩ | ⟨hg, ho⟩
      · simp only at hi hg ho
        subst hi; subst hg
        rw [nextTr_one ho, if_pos (by decide)] at hn
        simp only [Option.some.injEq, Prod.mk.injEq] at hn
        obtain ⟨⟨rfl, rfl⟩, rfl, rfl, rfl⟩ := hn
        simp only [encTry]
        gi_wp2
        refine ⟨Keep.refl _ _, ?_⟩
        intro X2 ht hpX2
        have hfin : FreeI (pre ++ [(0, (0 : Int) == 0)], (0 + 1, (doSt s 3 0 0 1).1, (0 : Int) == 0)) () := .inr ⟨rfl, (ho.do_ 3 0 1).1⟩
        have hst := Res.StepsN.mono (n := X.heap.size) (Res.Steps.refl (r := nores) (s := ()) (W := X2) trivial) (by rw [ht.size]; exact Nat.le_refl _)
        have HF := Lib.hid (And.intro hst hfin)
        clear hst hfin hpX hpX2 ht ho
        gi_wp2
        exact ⟨_, HF.out.1, HF.out.2⟩
      · simp only at hg
        subst hg
        rw [nextTr_won] at hn; cases hn
    case done2 =>
      rintro D2 pre ⟨i, s, g⟩ t X hD2 hpX hI hn hdef hput
      have ho : One 1 11 s := by
        rcases hI with ⟨hi, hg, ho⟩ | ⟨hg, ho⟩
        · simp only at hi hg ho
          subst hi; subst hg
          rw [nextTr_one ho, if_pos (by decide)] at hn; cases hn
        · exact ho
      have a13 : Wr w.heap.size b 1 11 w X := a12.pair hpX (fun k hk => hk.elim) ho
      have kd5 : Kp b D2 (.deferred (some [])) X := Kp.def_ hpX.atr hdef
      have kd6 := kd4.pair hpX (fun e => e)
      have kn6 := kn4.pair hpX (fun e => e)
      clear hp hpX hput hn ho hI hc a12 hcf k12 o12 hdef kd4 kn4
      go_wp2_with fail
      refine (try_out_wr a13 (by decide)).mono ?_
      rintro e w14 ⟨rfl, a14, m4⟩
      have kd7 := kd5.moved m4
      have kd8 := kd6.moved m4
      have kn8 : Blk w14 (w6.heap.size + 1 + 1 + 1) 3 #[.int .i64 3] := (kn6.moved m4).at_
      have n0 := kn8.cell 0
      have r0 := a14.rb.cell 0
      have r1 := a14.rb.frozen 0
      simp at n0 r0
      clear kd5 kd6 kn6 m4 a13
      go_wp2_with (go_at_call 12; refine (num_any _ _).mono ?_; rintro e w' ⟨rfl, rfl⟩)
      have e2 := kd7.at_
      have e1 := kd8.at_
      have b14 := a14.toBelow
      have hR1 : D2 ≠ w.heap.size := by omega
      have hR2 : D ≠ w.heap.size := by omega
      have r12 : Blk (w14.setCell ⟨w.heap.size, 0, none⟩ (.bool true)) w.heap.size 4 #[.bool true] := a14.rb.set 0 (.bool true)
      have e1' := (Below.heap_setCell w14 ⟨w.heap.size, 0, none⟩ (.bool true) D hR2).trans e1
      have e2' := (Below.heap_setCell w14 ⟨w.heap.size, 0, none⟩ (.bool true) D2 hR1).trans e2
      have b12 := b14.setCell (p := ⟨w.heap.size, 0, none⟩) (Nat.le_refl _) (.bool true)
      have hDD : D ≠ D2 := fun e => by omega
      revert r12 e1' e2' b12
      generalize w14.setCell ⟨w.heap.size, 0, none⟩ (.bool true) = w15
      intro r12 e1' e2' b12
      have e3 : (w15.putObj D2 (.deferred none)).heap[D]? = some (.deferred (some [])) := (World.putObj_heap_other hDD).trans e1'
      have r14 := blk_put (o' := .deferred none) (blk_put (o' := .deferred none) r12 e2' rfl) e3 rfl
      have b15 := below_put (o' := .deferred none) (below_put (o' := .deferred none) b12 (l := D2) (by omega)) (l := D) (by omega)
      have c14 := r14.cell 0
      simp at c14
      refine ⟨by simp, .inl ⟨_, _, rfl, run_takeDeferred e2', ?_⟩⟩
      refine ⟨by simp, .inl ⟨_, _, rfl, run_takeDeferred e3, ?_⟩⟩
      exact ⟨_, (by simp [results, Tryd.results7, go_sem, c14]), rfl, b15⟩
end Go.Proofs.YthiaaapcbiameaaDoor
