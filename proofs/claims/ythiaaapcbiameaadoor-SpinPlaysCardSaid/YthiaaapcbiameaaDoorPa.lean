/- SpinPlays, walked. -/
import Derived.Test.YthiaaapcbiameaaDoorKz
import Derived.Test.YthiaaapcbiameaaDoorSf
namespace Go.Proofs.YthiaaapcbiameaaDoor
open Go.RowKit Go.Shelf
attribute [local go_sem] Oper.semAt_some

/-- The slice v lists the acts l. -/
def ActsArg (w : World) (v : Value) (l : List ActD) : Prop :=
  ∃ A c, v = .slice A l.length c ∧ (l ≠ [] → ∃ b off, A = some ⟨b, off, none⟩ ∧ b < w.heap.size ∧ ∀ i x, l[i]? = some x →
    w.cell? ⟨b, off + i * 3, none⟩ = some (.int .i64 x.what) ∧ w.cell? ⟨b, off + i * 3 + 1, none⟩ = some (.int .i64 x.at_) ∧ w.cell? ⟨b, off + i * 3 + 2, none⟩ = some (.int .i64 x.n) ∧ -9223372036854775808 ≤ x.at_ ∧ x.at_ ≤ 9223372036854775807)

/-- Between two rounds: the two arenas stand side by side, the document's in the call's own box too. -/
structure Pinv (w : World) (g : Nat) (wr : World) (b : Nat) (s : St) (x y z : Value) : Prop where
  sd : Sd b s s (.agg #[x, y, z]) wr
  box : Blk wr g 31 #[x, y, z]
  ng : ¬ footA b wr g
  low : Below w.heap.size w wr
  fl : ∀ k, footA b wr k → w.heap.size ≤ k
  gl : w.heap.size ≤ g
theorem Pinv.step {w wr w' : World} {g b : Nat} {s s' : St} {x y z x' y' z' : Value} (h : Pinv w g wr b s x y z) (hs : (arena b).Steps s' wr w') (hsd : Sd b s' s' (.agg #[x', y', z']) w') :
    Blk w' g 31 #[x, y, z] ∧ ¬ footA b w' g ∧ Below w.heap.size w w' ∧ (∀ k, footA b w' k → w.heap.size ≤ k) := by
  have o := hs.out h.box.lt h.ng
  have hz := h.low.size
  exact ⟨h.box.keep o.1, o.2, h.low.trans (hs.keep.below h.fl hz), Res.StepsN.low hs hz h.fl⟩
theorem Pinv.below {w wr w' : World} {g b : Nat} {s : St} {x y z : Value} (h : Pinv w g wr b s x y z) (hB : Below wr.heap.size wr w') : Pinv w g w' b s x y z := by
  have hsd := h.sd.below hB
  obtain ⟨h1, h2, h3, h4⟩ := h.step (Res.Steps.below h.sd.lk.are hB) hsd
  exact ⟨hsd, h1, h2, h3, h4, h.gl⟩

/-- Behind the call: what it told lies in the block nb. -/
structure Pmd (w : World) (g nb : Nat) (W : World) (b : Nat) (s : St) (x y z a c d : Value) : Prop where
  sd : Sd b s s (.agg #[a, c, d]) W
  nw : Blk W nb 31 #[a, c, d]
  box : Blk W g 31 #[x, y, z]
  ng : ¬ footA b W g
  low : Below w.heap.size w W
  fl : ∀ k, footA b W k → w.heap.size ≤ k
  gl : w.heap.size ≤ g
theorem Pmd.ofAlloc {w wr w3 : World} {g b : Nat} {s s' : St} {x y z a c d : Value} (hp : Pinv w g wr b s x y z) (hs : (arena b).Steps s' wr w3) (hsd : Sd b s' s' (.agg #[a, c, d]) w3) :
    Pmd w g w3.heap.size (w3.alloc (.cells #[a, c, d] 31)) b s' x y z a c d := by
  obtain ⟨h1, h2, h3, h4⟩ := hp.step hs hsd
  have hB : Below w3.heap.size w3 (w3.alloc (.cells #[a, c, d] 31)) := (Below.refl _ _).alloc (Nat.le_refl _) _
  have hst := Res.Steps.below (r := arena b) hsd.lk.are hB
  exact ⟨hsd.below hB, Blk.new w3 31 _, h1.alloc _, (hst.out h1.lt h2).2, h3.alloc h3.size _, Res.StepsN.low hst h3.size h4, hp.gl⟩
theorem Pmd.ofSet {w wr W0 w3 : World} {g p b : Nat} {s s' : St} {x y z a c d a0 a1 a2 : Value} (hp : Pinv w g W0 b s x y z) (hs : (arena b).Steps s' W0 w3) (hsd : Sd b s' s' (.agg #[a, c, d]) w3) (hn : Blk w3 p 31 #[a0, a1, a2]) (hnf : ¬ footA b w3 p) (hpl : w.heap.size ≤ p) (hgp : g ≠ p) (h0 : 0 < w.heap.size) :
    Pmd w g p (((w3.setCell ⟨p, 0, none⟩ a).setCell ⟨p, 1, none⟩ c).setCell ⟨p, 2, none⟩ d) b s' x y z a c d := by
  obtain ⟨h1, h2, h3, h4⟩ := hp.step hs hsd
  have K := Keep.three w3 p a c d
  have hsd2 := hsd.stepP K (by rintro k rfl; exact ⟨hnf, ownR_ne hsd.ref hn, by omega⟩)
  have hf := (Res.beside (r := arena b) hsd.lk.are K (by rintro k rfl; exact hnf)).2
  exact ⟨hsd2, blk_three hn, h1.keep (K.block _ h1.lt hgp), fun e => h2 ((hf g).1 e), ((h3.setCell (p := ⟨p, 0, none⟩) hpl _).setCell (p := ⟨p, 1, none⟩) hpl _).setCell (p := ⟨p, 2, none⟩) hpl _, fun k hk => h4 k ((hf k).1 hk), hp.gl⟩
theorem Pmd.done {w W : World} {g nb b : Nat} {s : St} {x y z a c d : Value} (h : Pmd w g nb W b s x y z a c d) (h0 : 0 < w.heap.size) : Pinv w g (((W.setCell ⟨g, 0, none⟩ a).setCell ⟨g, 1, none⟩ c).setCell ⟨g, 2, none⟩ d) b s a c d := by
  have hgl := h.gl
  have K := Keep.three W g a c d
  have hsd2 := h.sd.stepP K (by rintro k rfl; exact ⟨h.ng, ownR_ne h.sd.ref h.box, by omega⟩)
  have hf := (Res.beside (r := arena b) h.sd.lk.are K (by rintro k rfl; exact h.ng)).2
  exact ⟨hsd2, blk_three h.box, fun e => h.ng ((hf g).1 e), ((h.low.setCell (p := ⟨g, 0, none⟩) hgl _).setCell (p := ⟨g, 1, none⟩) hgl _).setCell (p := ⟨g, 2, none⟩) hgl _, fun k hk => h.fl k ((hf k).1 hk), hgl⟩

set_option maxRecDepth 100000 in
set_option maxHeartbeats 1600000 in
theorem plays_bad (m : Int) (A : Option Addr) (c n : Nat) (w : World) (hn : Num w) (hl : n ≤ maxLen) (hb : m < 1 ∨ 10 < m ∨ 60 < n) : Calls Tryd.prog 3 #[.int .i64 m, .slice A n c] w fun e w' => e = .returned (.bool true) ∧ Below w.heap.size w w' := by
  unfold maxLen at hl
  rcases hb with h | h | h
  · have d0 : decide (m < 1) = true := by simp; omega
    go_enter Tryd.func3, Tryd.ntmps3
    go_wp2_with (go_at_call 7; refine (works_any _ hn).mono ?_; rintro e w9 ⟨rfl, hB9⟩)
    go_ret
    exact ⟨rfl, hB9⟩
  · have d0 : ¬ m < 1 := by omega
    have d1 : 10 < m := h
    go_enter Tryd.func3, Tryd.ntmps3
    go_wp2_with (go_at_call 7; refine (works_any _ hn).mono ?_; rintro e w9 ⟨rfl, hB9⟩)
    go_ret
    exact ⟨rfl, hB9⟩
  · by_cases d0 : m < 1
    · go_enter Tryd.func3, Tryd.ntmps3
      go_wp2_with (go_at_call 7; refine (works_any _ hn).mono ?_; rintro e w9 ⟨rfl, hB9⟩)
      go_ret
      exact ⟨rfl, hB9⟩
    · by_cases d1 : 10 < m
      · go_enter Tryd.func3, Tryd.ntmps3
        go_wp2_with (go_at_call 7; refine (works_any _ hn).mono ?_; rintro e w9 ⟨rfl, hB9⟩)
        go_ret
        exact ⟨rfl, hB9⟩
      · have d2 : (60 : Int) < (n : Int) := by omega
        go_enter Tryd.func3, Tryd.ntmps3
        go_wp2_with (go_at_call 7; refine (works_any _ hn).mono ?_; rintro e w9 ⟨rfl, hB9⟩)
        go_ret
        exact ⟨rfl, hB9⟩

set_option maxRecDepth 100000 in
set_option maxHeartbeats 16000000 in
theorem plays_good (m : Nat) (A : Option Addr) (c : Nat) (l : List ActD) (w : World) (hn : Num w) (ha : ActsArg w (.slice A l.length c) l) (h1 : 1 ≤ m) (h2 : m ≤ 10) (hl : l.length ≤ 60) :
    Calls Tryd.prog 3 #[.int .i64 m, .slice A l.length c] w fun e w' => e = .returned (.bool true) ∧ Below w.heap.size w w' := by
  have d0 : ¬ (m : Int) < 1 := by omega
  have d1 : ¬ (10 : Int) < (m : Int) := by omega
  have d2 : ¬ (60 : Int) < (l.length : Int) := by omega
  go_enter Tryd.func3, Tryd.ntmps3
  go_wp2_with (first
    | (go_at_call 8; refine (New_lk m w hn h1 (by omega)).mono ?_; rintro e w1 ⟨b, rfl, k1⟩)
    | (go_at_call 9; refine (refNew_ok m _ h1 (by omega)).mono ?_; rintro e w2 ⟨v', rfl, hr, hB2, hno⟩; obtain ⟨A1, c1, A2, c2, rfl⟩ := hr.form)
    | (go_at_call 12; refine (num_any _ _).mono ?_; rintro e w' ⟨rfl, rfl⟩))
  have hw0 := hn.lt
  have hs1 := k1.below.size
  have hs2 := hB2.size
  have k2 := k1.lk.below hB2
  have hst2 := Res.Steps.below (r := arena b) k1.lk.are hB2
  have fl2 := Res.StepsN.low hst2 hs1 k1.low
  have sd2 : Sd b ⟨m, [], []⟩ ⟨m, [], []⟩ _ w2 := ⟨k2, hr, fun k hk => absurd hk (hno k)⟩
  have b2 := k1.below.trans (hB2.mono hs1)
  have BA : Below w2.heap.size w2 (w2.alloc (.cells #[.slice A1 (St.mk m [] []).cs.length c1, .int .i64 (St.mk m [] []).most, .slice A2 (St.mk m [] []).hist.length c2] 31)) := (Below.refl _ _).alloc (Nat.le_refl _) _
  have hstA := Res.Steps.below (r := arena b) k2.are BA
  have hP : Pinv w w2.heap.size (w2.alloc (.cells #[.slice A1 (St.mk m [] []).cs.length c1, .int .i64 (St.mk m [] []).most, .slice A2 (St.mk m [] []).hist.length c2] 31)) b ⟨m, [], []⟩ _ _ _ := ⟨sd2.below BA, Blk.new w2 31 _, fresh_below k2.are BA (Nat.le_refl _), b2.alloc (by omega) _, Res.StepsN.low hstA (by omega) fl2, by omega⟩
  revert hP
  generalize (w2.alloc (.cells #[.slice A1 (St.mk m [] []).cs.length c1, .int .i64 (St.mk m [] []).most, .slice A2 (St.mk m [] []).hist.length c2] 31)) = wA
  obtain ⟨g, hg⟩ : ∃ g, w2.heap.size = g := ⟨_, rfl⟩
  rw [hg]
  intro hP
  clear hg sd2 k2 b2 BA hstA fl2 hst2 hr hB2 hno k1
  obtain ⟨AX, CX, hv, hA⟩ := ha
  simp only [Value.slice.injEq, true_and] at hv
  obtain ⟨rfl, rfl⟩ := hv
  have hl60 : (l.length : Int) ≤ 60 := by omega
  go_loopw [9] (fun i wr => ∃ (k : Nat) (s : St) (A3 : Option Addr) (c3 : Nat) (A3' : Option Addr) (c3' : Nat), k ≤ l.length ∧ i = .int .i64 (k : Int) ∧ s.hist.length ≤ 20 * k ∧ Pinv w g wr b s (.slice A3 s.cs.length c3) (.int .i64 s.most) (.slice A3' s.hist.length c3')) (fun i _ => l.length - (intOf i).toNat)
  case atStart => exact ⟨0, _, _, _, _, _, Nat.zero_le _, rfl, Nat.zero_le _, hP⟩
  case round =>
    obtain ⟨k, s, A3, c3, A3', c3', hk, rfl, hhk, hp⟩ := hrel
    clear hP
    by_cases hlt : k < l.length
    · have hltI : (k : Int) < (l.length : Int) := by omega
      have hk0 : (0 : Int) ≤ (k : Int) := by omega
      obtain ⟨x, hx⟩ : ∃ x, l[k]? = some x := ⟨_, List.getElem?_eq_getElem hlt⟩
      obtain ⟨bl, off, rfl, hbl, hcl⟩ := hA (by intro e; rw [e] at hlt; simp at hlt)
      obtain ⟨e0, e1, e2, hlo, hhi⟩ := hcl k x hx
      have kp : ∀ W, Below w.heap.size w W → W.cell? ⟨bl, off + k * 3, none⟩ = some (.int .i64 x.what) ∧ W.cell? ⟨bl, off + k * 3 + 1, none⟩ = some (.int .i64 x.at_) ∧ W.cell? ⟨bl, off + k * 3 + 2, none⟩ = some (.int .i64 x.n) := fun W hB => by
        have h : ∀ o, W.cell? ⟨bl, o, none⟩ = w.cell? ⟨bl, o, none⟩ := fun o => hB.cell (p := ⟨bl, o, none⟩) hbl
        rw [h, h, h]
        exact ⟨e0, e1, e2⟩
      obtain ⟨l0, l1, l2⟩ := kp _ hp.low
      clear hcl e0 e1 e2 hx
      by_cases hbad : x.what = 7 ∧ 20 < x.n
      · have t0 : (x.what == 7) = true := by simp; exact hbad.1
        have t1 : 20 < x.n := hbad.2
        have hW := works_any _ (hp.sd.lk.num)
        have hlow := hp.low
        clear hp hA kp
        go_wp2_with (go_at_call 7; refine hW.mono ?_; rintro e w9 ⟨rfl, hB9⟩)
        go_ret
        exact ⟨rfl, hlow.trans (hB9.mono hlow.size)⟩
      · have hact := fun W (hW : Below wr.heap.size wr W) => act3_ok x (hp.below hW).sd (by omega) (fun e => by omega) hlo hhi
        unfold ActD.val at hact
        have BD : Below wr.heap.size wr wr.drew := (Below.refl _ _).drew
        have BN : Below wr.heap.size wr (wr.alloc (.cells #[.slice none 0 0, .int .i64 0, .slice none 0 0] 31)).drew := ((Below.refl _ _).alloc (Nat.le_refl _) _).drew
        have hBD := hp.below BD
        have hBN := hp.below BN
        have bx := hp.box
        have y0 := bx.cell 0
        have y1 := bx.cell 1
        have y2 := bx.cell 2
        obtain ⟨n0, n1, n2⟩ := kp _ hBN.low
        have w0 := hBN.box.cell 0
        have w1' := hBN.box.cell 1
        have w2' := hBN.box.cell 2
        simp only [List.getElem?_toArray, List.getElem?_cons_zero, List.getElem?_cons_succ] at y0 y1 y2 w0 w1' w2'
        have nn1 : wr.heap.size ≠ g := by have := bx.lt; omega
        have nn2 : wr.heap.size ≠ bl := by have := hp.low.size; omega
        by_cases h7 : x.what = 7
        all_goals
          first
            | (have t0 : (x.what == 7) = true := by simp; exact h7)
            | (have t0 : (x.what == 7) = false := by simp; exact h7)
          try (have t2 : ¬ 20 < x.n := by omega)
          try (have t3 : decide (20 < x.n) = false := by simp; omega)
          have H20 := actSt_hist s x (fun e => by omega)
          have HT1 := Lib.hid (hact _ BD)
          have HT2 := Lib.hid (hact _ BN)
          have HBD := Lib.hid hBD
          have HBN := Lib.hid hBN
          have HP := Lib.hid hp
          have HPN := Lib.hid (fresh_below (k := wr.heap.size) hp.sd.lk.are BN (Nat.le_refl _))
          have HK := Lib.hid kp
          have hplow := hp.low.size
          clear hact hA hBD hBN hp kp bx BD BN hbad h7
          go_wp2_with fail
          clear t0
          try clear t2 t3
          go_region_held3 (fun w' => w'.cell? ⟨g, 0, none⟩ = some (.slice A3 s.cs.length c3) ∧ w'.cell? ⟨g, 1, none⟩ = some (.int .i64 s.most) ∧ w'.cell? ⟨g, 2, none⟩ = some (.slice A3' s.hist.length c3') ∧ w'.cell? ⟨bl, off + k * 3, none⟩ = some (.int .i64 x.what) ∧ w'.cell? ⟨bl, off + k * 3 + 1, none⟩ = some (.int .i64 x.at_) ∧ w'.cell? ⟨bl, off + k * 3 + 2, none⟩ = some (.int .i64 x.n))
            (first
              | with_reducible exact ⟨y0, y1, y2, l0, l1, l2⟩
              | with_reducible exact ⟨w0, w1', w2', n0, n1, n2⟩
              | with_reducible exact ⟨u0, u1, u2, m0, m1, m2⟩
              | ((refine ⟨?_, ?_, ?_, ?_, ?_, ?_⟩ <;> (repeat (rw [World.cell?_setCell_far _ _ _ _ (by with_reducible first | exact nn1 | exact nn2)]))) <;> with_reducible (first | exact u0 | exact u1 | exact u2 | exact m0 | exact m1 | exact m2))
              | go_keep)
            ((first
            | (go_at_call 10
               refine HT1.out.mono ?_
               rintro e w3 ⟨v3, rfl, hsd3, hst3⟩
               obtain ⟨A4, c4, A4', c4', rfl⟩ := hsd3.ref.form
               obtain ⟨bx3, ng3, low3, fl3⟩ := HBD.out.step hst3 hsd3
               obtain ⟨m0, m1, m2⟩ := HK.out _ low3
               have u0 := bx3.cell 0
               have u1 := bx3.cell 1
               have u2 := bx3.cell 2
               simp at u0 u1 u2)
            | (go_at_call 10
               refine HT2.out.mono ?_
               rintro e w3 ⟨v3, rfl, hsd3, hst3⟩
               obtain ⟨A4, c4, A4', c4', rfl⟩ := hsd3.ref.form
               obtain ⟨bx3, ng3, low3, fl3⟩ := HBN.out.step hst3 hsd3
               obtain ⟨m0, m1, m2⟩ := HK.out _ low3
               have u0 := bx3.cell 0
               have u1 := bx3.cell 1
               have u2 := bx3.cell 2
               have pnf := HPN.out
               have pb3 := ((Blk.new wr 31 #[.slice none 0 0, .int .i64 0, .slice none 0 0]).drew).keep (hst3.out (by show wr.heap.size < (wr.alloc _).heap.size; simp) pnf).1
               have pn3 := (hst3.out (k := wr.heap.size) (by show wr.heap.size < (wr.alloc _).heap.size; simp) pnf).2
               have f0 := pb3.cell 0
               have f1 := pb3.cell 1
               have f2 := pb3.cell 2
               have f3 := pb3.frozen 0
               have f4 := pb3.frozen 1
               have f5 := pb3.frozen 2
               simp at u0 u1 u2 f0 f1 f2)))
          all_goals
            rename_i hHeld
            clear hHeld
            first
              | (obtain ⟨nb, wF, hpe, hwf, hq⟩ : ∃ nb wF, nb = wr.heap.size ∧ wF = (((w3.setCell ⟨wr.heap.size, 0, none⟩ (.slice A4 (actSt s x).cs.length c4)).setCell ⟨wr.heap.size, 1, none⟩ (.int .i64 (actSt s x).most)).setCell ⟨wr.heap.size, 2, none⟩ (.slice A4' (actSt s x).hist.length c4')) ∧ Pmd w g nb wF b (actSt s x) (.slice A3 s.cs.length c3) (.int .i64 s.most) (.slice A3' s.hist.length c3') (.slice A4 (actSt s x).cs.length c4) (.int .i64 (actSt s x).most) (.slice A4' (actSt s x).hist.length c4') :=
                   ⟨_, _, rfl, rfl, Pmd.ofSet (wr := wr) HBN.out hst3 hsd3 pb3 pn3 hplow (fun e => nn1 e.symm) hw0⟩
                 rw [← hwf, ← hpe])
              | (obtain ⟨nb, wF, hpe, hwf, hq⟩ : ∃ nb wF, nb = w3.heap.size ∧ wF = (w3.alloc (.cells #[(.slice A4 (actSt s x).cs.length c4), (.int .i64 (actSt s x).most), (.slice A4' (actSt s x).hist.length c4')] 31)) ∧ Pmd w g nb wF b (actSt s x) (.slice A3 s.cs.length c3) (.int .i64 s.most) (.slice A3' s.hist.length c3') (.slice A4 (actSt s x).cs.length c4) (.int .i64 (actSt s x).most) (.slice A4' (actSt s x).hist.length c4') :=
                   ⟨_, _, rfl, rfl, Pmd.ofAlloc HBD.out hst3 hsd3⟩
                 rw [← hwf, ← hpe])
            have hlen := H20
            clear hpe hwf hsd3 hst3 bx3 ng3 low3 fl3 u0 u1 u2 m0 m1 m2 n0 n1 n2 w0 w1' w2' y0 y1 y2 l0 l1 l2 HK nn1 nn2 HBD HBN HT1 HT2 HP HPN H20
            revert hq hlen
            generalize actSt s x = s'
            intro hq hlen
            have p0 := hq.nw.cell 0
            have p1 := hq.nw.cell 1
            have p2 := hq.nw.cell 2
            have g0 := hq.box.cell 0
            have g1 := hq.box.cell 1
            have g2 := hq.box.cell 2
            have gf0 := hq.box.frozen 0
            have gf1 := hq.box.frozen 1
            have gf2 := hq.box.frozen 2
            simp at p0 p1 p2 g0 g1 g2
            have hv := hq.done hw0
            have his := is3_ok _ hv.sd (by omega)
            clear hq
            go_wp2_with (go_at_call 11; refine his.mono ?_; rintro e wH ⟨rfl, hBH⟩)
            exact ⟨⟨k + 1, s', A4, c4, A4', c4', by omega, by simp, by omega, hv.below hBH⟩, by simp [intOf]; omega⟩
    · have hgeI : ¬ (k : Int) < (l.length : Int) := by omega
      have hW := works_any _ (hp.sd.lk.num)
      have hlow := hp.low
      clear hp hA
      go_wp2_with (first
        | (go_at_call 12; refine (num_any _ _).mono ?_; rintro e w' ⟨rfl, rfl⟩)
        | (go_at_call 7; refine hW.mono ?_; rintro e w9 ⟨rfl, hB9⟩))
      go_ret
      exact ⟨rfl, hlow.trans (hB9.mono hlow.size)⟩
end Go.Proofs.YthiaaapcbiameaaDoor
