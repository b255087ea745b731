/- bools; the document's Tries. -/
import Derived.Test.YthiaaapcbiameaaDoorRf
namespace Go.Proofs.YthiaaapcbiameaaDoor
open Go.RowKit Go.Shelf
attribute [local go_sem] Oper.semAt_some

/-- The slice u owns the bools l. -/
def Bools (w : World) (u : Value) (l : List Bool) : Prop := Row w 4 1 u l.length (l.map Value.bool)
theorem Bools.below {w w' : World} {u : Value} {l : List Bool} (h : Bools w u l) (hB : Below w.heap.size w w') : Bools w' u l := Row.keep h (fun k hk => hB.block k (Row.lt h k hk))
theorem Bools.nil (w : World) : Bools w (.slice none 0 0) [] := Row.nil w 4 1

set_option maxRecDepth 100000 in
set_option maxHeartbeats 1600000 in
theorem bools_same (u1 u2 : Value) (l : List Bool) (w : World) (h1 : Bools w u1 l) (h2 : Bools w u2 l) : Calls Tryd.prog 26 #[u1, u2] w fun e w' => e = .returned (.bool true) ∧ Below w.heap.size w w' := by
  obtain ⟨A1, c1, rfl, hc1, hm1⟩ := Row.form h1
  obtain ⟨A2, c2, rfl, hc2, hm2⟩ := Row.form h2
  unfold maxLen at hm1 hm2
  have hlI : (l.length : Int) ≤ 9223372036854775807 := by omega
  have e0 : ((l.length : Int) != (l.length : Int)) = false := by simp
  go_enter Tryd.func26, Tryd.ntmps26
  go_wp2_with fail
  go_loopw [5] (fun i wr => ∃ (k n : Nat), k ≤ l.length ∧ i = .int .i64 (k : Int) ∧ wr = w.drewN n) (fun i _ => l.length - (intOf i).toNat)
  case atStart => exact ⟨0, 0, Nat.zero_le _, rfl, rfl⟩
  case round =>
    obtain ⟨k, n, hk, rfl, rfl⟩ := hrel
    by_cases hlt : k < l.length
    · have hltI : (k : Int) < (l.length : Int) := by omega
      have hk0 : (0 : Int) ≤ (k : Int) := by omega
      obtain ⟨g, d1, cu1, hv, _⟩ := Row.addr h1 (by omega)
      simp only [Value.slice.injEq, true_and] at hv
      obtain ⟨rfl, rfl⟩ := hv
      obtain ⟨g', d2, cu2, hv, _⟩ := Row.addr h2 (by omega)
      simp only [Value.slice.injEq, true_and] at hv
      obtain ⟨rfl, rfl⟩ := hv
      have q1 := (Row.cells h1 rfl k (by omega)).1
      have q2 := (Row.cells h2 rfl k (by omega)).1
      obtain ⟨a, hav⟩ : ∃ a, l[k]? = some a := ⟨_, List.getElem?_eq_getElem hlt⟩
      rw [List.getElem?_map, hav] at q1 q2
      simp only [Option.map_some] at q1 q2
      have hne : (a != a) = false := by simp
      clear hav
      go_wp2_with fail
      go_quiet (fail)
      go_wp2_with fail
      exact ⟨⟨k + 1, n + nq, by omega, by simp, by simp⟩, by simp [intOf]; omega⟩
    · have hltI : ¬ (k : Int) < (l.length : Int) := by omega
      go_wp2_with fail
      exact bodyPost_ret (v := .bool true) (by simp [results, Tryd.results26, go_sem]) rfl ⟨rfl, below_drewN (Below.refl _ _) _⟩

/-- What so many tries come to: the state, and what each told. -/
def triesSt (j : Int) : Nat → St → St × List Bool
  | 0, s => (s, [])
  | n + 1, s => if inSt s j = true then
      (if (doSt s 3 j 0 1).2.1.did = true then ((doSt s 3 j 0 1).1, [true]) else ((triesSt j n (doSt s 3 j 0 1).1).1, false :: (triesSt j n (doSt s 3 j 0 1).1).2))
    else (s, [])
theorem triesSt_hist (j : Int) : ∀ (n : Nat) (s : St), (triesSt j n s).1.hist.length ≤ s.hist.length + n
  | 0, s => Nat.le_refl _
  | n + 1, s => by
    have h1 := doSt_hist s 3 j 0 1
    have h2 := triesSt_hist j n (doSt s 3 j 0 1).1
    unfold triesSt
    split
    · split
      · simp only; omega
      · simp only; omega
    · simp only; omega
theorem triesSt_len (j : Int) : ∀ (n : Nat) (s : St), (triesSt j n s).2.length ≤ n
  | 0, s => Nat.le_refl _
  | n + 1, s => by
    have h2 := triesSt_len j n (doSt s 3 j 0 1).1
    unfold triesSt
    split
    · split
      · simp
      · simp only [List.length_cons]; omega
    · simp
theorem in_same {s : St} {op j x y : Int} : inSt (doSt s op j x y).1 j = inSt s j := by
  unfold doSt
  split
  · simp [inSt, St.step]
  · rfl

/-- What the document's Tries leaves. -/
def TriesOut (w : World) (v : Value) (s' : St) (l : List Bool) (e : Ending) (w' : World) : Prop :=
  ∃ v' u, e = .returned (.tuple #[v', u]) ∧ RefS w' v' s' ∧ Bools w' u l ∧ Below w.heap.size w w' ∧ (∀ k, ownR v' k → ownR v k ∨ w.heap.size ≤ k)

theorem info4 : (Tryd.prog.info? 4).map (fun i => (i.zero, i.size, i.bytes)) = some (some (.bool false), 1, 1) := by kernel_rfl

theorem refS_grown {w w' : World} {v u : Value} {s : St} {n : Nat} {xs : List Value} (h : RefS w v s) (hu : Row w 4 1 u n xs) (hg : w.grownBy w' u.ownBlock) : RefS w' v s := by
  refine h.keep (fun k hk => hg.block k (h.lt k hk) (fun e => ?_))
  obtain ⟨⟨vC, vL, rfl, hc, hl⟩, _, _⟩ := h
  rcases hk.parts with e' | e'
  · exact hc.ne_row hu (by decide) k e' e.symm
  · exact hl.ne_row hu (by decide) k e' e.symm
theorem bools_snoc {w : World} {u : Value} {l : List Bool} {g : Bool} (h : Row w 4 1 u (l.length + 1) (l.map Value.bool ++ [.bool g])) : Bools w u (l ++ [g]) := by
  unfold Bools
  simpa using h

/-- Between two rounds: the box has the value that is come to, the list is what was told. -/
structure RTri (w : World) (v : Value) (s : St) (l : List Bool) (u : Value) (W : World) : Prop where
  bl : Below w.heap.size w W
  rb : Blk W (w.heap.size + 1) 31 #[.slice none 0 0, .int .i64 0, .slice none 0 0]
  ex : ∃ x y z, Blk W w.heap.size 31 #[x, y, z] ∧ RefS W (.agg #[x, y, z]) s ∧ (∀ k, ownR (.agg #[x, y, z]) k → ownR v k ∨ w.heap.size ≤ k)
  row : Bools W u l
  un : ∀ k, u.ownBlock = some k → w.heap.size + 2 ≤ k

theorem rtri_app {w W w4 : World} {v x y z v4 : Value} {s2 : St} {l : List Bool} {Au : Option Addr} {cu : Nat} {g : Bool} (hb : Below w.heap.size w W) (hbx : Blk W w.heap.size 31 #[x, y, z])
    (hrb : Blk W (w.heap.size + 1) 31 #[.slice none 0 0, .int .i64 0, .slice none 0 0]) (hr : RefS W (.agg #[x, y, z]) s2) (ho : ∀ k, ownR (.agg #[x, y, z]) k → ownR v k ∨ w.heap.size ≤ k)
    (hU : Row W 4 1 (.slice Au l.length cu) l.length (l.map Value.bool)) (hun : ∀ k, (Value.slice Au l.length cu).ownBlock = some k → w.heap.size + 2 ≤ k)
    (h4 : Row w4 4 1 v4 (l.length + 1) (l.map Value.bool ++ [.bool g])) (hgrow : W.grownBy w4 (Value.slice Au l.length cu).ownBlock) (hat : v4.ownBlock = (Value.slice Au l.length cu).ownBlock ∨ v4.ownBlock = some W.heap.size) (hs : w.heap.size + 2 ≤ W.heap.size) :
    RTri w v s2 (l ++ [g]) v4 w4 ∧ Blk w4 w.heap.size 31 #[x, y, z] ∧ RefS w4 (.agg #[x, y, z]) s2 := by
  have hne : ∀ k, k < w.heap.size + 2 → (Value.slice Au l.length cu).ownBlock ≠ some k := fun k hk e => by have := hun _ e; omega
  have bx4 := hbx.keep (hgrow.block _ hbx.lt (fun e => hne _ (by omega) e.symm))
  refine ⟨⟨hb.grown hgrow hb.size (fun k hk => ?_), hrb.keep (hgrow.block _ hrb.lt (fun e => hne _ (by omega) e.symm)), ⟨x, y, z, bx4, refS_grown hr hU hgrow, ho⟩, bools_snoc h4, fun k hk => ?_⟩, bx4, refS_grown hr hU hgrow⟩
  · have := hun k hk; omega
  · rcases hat with e | e
    · exact hun k (e ▸ hk)
    · rw [e] at hk; injection hk with hk; omega

theorem tri_out {w W : World} {v x y z u a0 a1 a2 : Value} {s2 : St} {l : List Bool} (bl : Below w.heap.size w W) (rb : Blk W (w.heap.size + 1) 31 #[a0, a1, a2]) (hr : RefS W (.agg #[x, y, z]) s2) (ho : ∀ k, ownR (.agg #[x, y, z]) k → ownR v k ∨ w.heap.size ≤ k)
    (hU : Bools W u l) (hun : ∀ k, u.ownBlock = some k → w.heap.size + 2 ≤ k) :
    TriesOut w v s2 l (.returned (.tuple #[.agg #[x, y, z], u])) (((W.setCell ⟨w.heap.size + 1, 0, none⟩ x).setCell ⟨w.heap.size + 1, 1, none⟩ y).setCell ⟨w.heap.size + 1, 2, none⟩ z) ∧
    Blk (((W.setCell ⟨w.heap.size + 1, 0, none⟩ x).setCell ⟨w.heap.size + 1, 1, none⟩ y).setCell ⟨w.heap.size + 1, 2, none⟩ z) (w.heap.size + 1) 31 #[x, y, z] :=
  ⟨⟨_, _, rfl, hr.three rb, Row.keep hU (fun k hk => (Keep.three W (w.heap.size + 1) x y z).block k (Row.lt hU k hk) (fun e => by have := hun k hk; omega)),
    ((bl.setCell (p := ⟨w.heap.size + 1, 0, none⟩) (by simp) _).setCell (p := ⟨w.heap.size + 1, 1, none⟩) (by simp) _).setCell (p := ⟨w.heap.size + 1, 2, none⟩) (by simp) _, ho⟩, blk_three rb⟩

theorem TriesOut.alloc {w W : World} {v : Value} {s : St} {l : List Bool} {e : Ending} (h : TriesOut w v s l e W) (o : Obj) : TriesOut w v s l e (W.alloc o) := by
  obtain ⟨v', u, h1, h2, h3, h4, h5⟩ := h
  exact ⟨v', u, h1, h2.alloc o, h3.below ((Below.refl _ _).alloc (Nat.le_refl _) o), h4.alloc h4.size o, h5⟩

set_option maxRecDepth 100000 in
set_option maxHeartbeats 16000000 in
theorem refTries3 {s : St} {v : Value} (j most : Int) (w : World) (h : RefS w v s) (hh : s.hist.length < 1000000) (hm : most ≤ 1000) : Calls Tryd.prog 25 #[v, .int .i64 j, .int .i64 most] w (TriesOut w v (triesSt j most.toNat s).1 (triesSt j most.toNat s).2) := by
  obtain ⟨i0, hi0, hz0, hz1, hz2⟩ := info_parts info4
  have hlt := h.lt
  obtain ⟨A0, c0, A0', c0', rfl⟩ := h.form
  have BA : Below w.heap.size w ((w.alloc (.cells #[.slice A0 s.cs.length c0, .int .i64 s.most, .slice A0' s.hist.length c0'] 31)).alloc (.cells #[.slice none 0 0, .int .i64 0, .slice none 0 0] 31)) := ((Below.refl _ _).alloc (Nat.le_refl _) _).alloc (by simp) _
  have rsA := Blk.new (w.alloc (.cells #[.slice A0 s.cs.length c0, .int .i64 s.most, .slice A0' s.hist.length c0'] 31)) 31 #[.slice none 0 0, .int .i64 0, .slice none 0 0]
  rw [World.size_alloc] at rsA
  have bxA : Blk ((w.alloc (.cells #[.slice A0 s.cs.length c0, .int .i64 s.most, .slice A0' s.hist.length c0'] 31)).alloc (.cells #[.slice none 0 0, .int .i64 0, .slice none 0 0] 31)) w.heap.size 31 #[.slice A0 s.cs.length c0, .int .i64 s.most, .slice A0' s.hist.length c0'] := (Blk.new w _ _).alloc _
  have hr0 : RTri w (.agg #[.slice A0 s.cs.length c0, .int .i64 s.most, .slice A0' s.hist.length c0']) s [] (.slice none 0 0) ((w.alloc (.cells #[.slice A0 s.cs.length c0, .int .i64 s.most, .slice A0' s.hist.length c0'] 31)).alloc (.cells #[.slice none 0 0, .int .i64 0, .slice none 0 0] 31)) :=
    ⟨BA, rsA, ⟨_, _, _, bxA, h.below BA, fun _ hk => .inl hk⟩, Bools.nil _, by simp [Value.ownBlock]⟩
  clear bxA rsA
  go_enter Tryd.func25, Tryd.ntmps25
  go_wp2_with fail
  revert hr0
  generalize ((w.alloc (.cells #[.slice A0 s.cs.length c0, .int .i64 s.most, .slice A0' s.hist.length c0'] 31)).alloc (.cells #[.slice none 0 0, .int .i64 0, .slice none 0 0] 31)) = wA
  intro hr0
  go_loopw [8, 9] (fun u p wr => ∃ (k : Nat) (s1 : St) (l : List Bool), p = .int .i64 (k : Int) ∧ (k : Int) ≤ max most 0 ∧ s1.hist.length ≤ s.hist.length + k ∧ l.length ≤ k ∧ RTri w (.agg #[.slice A0 s.cs.length c0, .int .i64 s.most, .slice A0' s.hist.length c0']) s1 l u wr ∧
      triesSt j most.toNat s = ((triesSt j (most.toNat - k) s1).1, l ++ (triesSt j (most.toNat - k) s1).2) ∧ (0 < k → inSt s1 j = true)) (fun _ p _ => (most - intOf p).toNat)
  case atStart => exact ⟨0, s, [], rfl, by omega, Nat.le_refl _, Nat.le_refl _, hr0, by simp, fun h => by omega⟩
  case round =>
    obtain ⟨k, s1, l, rfl, hk, hhs, hll, hR, htr, hin⟩ := hrel
    obtain ⟨x, y, z, hbx, hrs, hown⟩ := hR.ex
    obtain ⟨Au, cu, rfl, hu1, hu2⟩ := Row.form hR.row
    have hk0 : (0 : Int) ≤ (k : Int) := by omega
    have b0 := hbx.cell 0
    have b1 := hbx.cell 1
    have b2 := hbx.cell 2
    have g0 := hbx.frozen 0
    have g1 := hbx.frozen 1
    have g2 := hbx.frozen 2
    simp at b0 b1 b2
    by_cases hlt' : (k : Int) < most
    · have hT := refTry3 j wr hrs (by omega)
      by_cases hj : inSt s1 j = true
      · have hno : (doSt s1 3 j 0 1).2.2 = 0 := by unfold doSt; rw [if_pos hj]
        have hin2 : inSt (doSt s1 3 j 0 1).1 j = true := by rw [in_same]; exact hj
        have hh2 := doSt_hist s1 3 j 0 1
        have hstep : triesSt j (most.toNat - k) s1 = (if (doSt s1 3 j 0 1).2.1.did = true then ((doSt s1 3 j 0 1).1, [true]) else ((triesSt j (most.toNat - (k + 1)) (doSt s1 3 j 0 1).1).1, false :: (triesSt j (most.toNat - (k + 1)) (doSt s1 3 j 0 1).1).2)) := by
          rw [show most.toNat - k = (most.toNat - (k + 1)) + 1 by omega]
          conv => lhs; unfold triesSt
          rw [if_pos hj]
        rw [hstep] at htr
        rw [hno] at hT
        generalize doSt s1 3 j 0 1 = z at hT hin2 hh2 htr
        obtain ⟨s2, z2, e2⟩ := z
        simp only at hT hin2 hh2 htr
        generalize z2.did = g at hT htr
        have Htr := Lib.hid htr
        clear htr hstep hno hin
        have hU := hR.row
        have hrb := hR.rb
        have hun := hR.un
        have hbl := hR.bl
        go_wp2_with (first
          | (go_at_call 22
             refine hT.mono ?_
             rintro e w3 ⟨v3, rfl, hr3, hB3, ho3⟩
             obtain ⟨A3, c3, A3', c3', rfl⟩ := hr3.form
             have bx3 := hbx.keep (hB3.block _ hbx.lt)
             have rs3 := hrb.keep (hB3.block _ hrb.lt)
             have hU3 := Row.keep hU (fun k hk => hB3.block k (Row.lt hU k hk))
             have hne : (Value.slice Au l.length cu).ownBlock ≠ some w.heap.size := fun e => by have := hun _ e; omega
             have hne1 : (Value.slice Au l.length cu).ownBlock ≠ some (w.heap.size + 1) := fun e => by have := hun _ e; omega
             have bxS := blk_three (x := .slice A3 s2.cs.length c3) (y := .int .i64 s2.most) (z := .slice A3' s2.hist.length c3') bx3
             have hrS := hr3.three (x := .slice A3 s2.cs.length c3) (y := .int .i64 s2.most) (z := .slice A3' s2.hist.length c3') bx3
             have rsS := rs3.keep ((Keep.three w3 w.heap.size (.slice A3 s2.cs.length c3) (.int .i64 s2.most) (.slice A3' s2.hist.length c3')).block _ rs3.lt (by omega))
             have hUS := Row.keep hU3 (fun k hk => (Keep.three w3 w.heap.size (.slice A3 s2.cs.length c3) (.int .i64 s2.most) (.slice A3' s2.hist.length c3')).block k (Row.lt hU3 k hk) (fun e => hne (e ▸ hk)))
             have blS : Below w.heap.size w (((w3.setCell ⟨w.heap.size, 0, none⟩ (.slice A3 s2.cs.length c3)).setCell ⟨w.heap.size, 1, none⟩ (.int .i64 s2.most)).setCell ⟨w.heap.size, 2, none⟩ (.slice A3' s2.hist.length c3')) := (((hbl.trans (hB3.mono hbl.size)).setCell (p := ⟨w.heap.size, 0, none⟩) (by simp) _).setCell (p := ⟨w.heap.size, 1, none⟩) (by simp) _).setCell (p := ⟨w.heap.size, 2, none⟩) (by simp) _
             have szS : (((w3.setCell ⟨w.heap.size, 0, none⟩ (.slice A3 s2.cs.length c3)).setCell ⟨w.heap.size, 1, none⟩ (.int .i64 s2.most)).setCell ⟨w.heap.size, 2, none⟩ (.slice A3' s2.hist.length c3')).heap.size = w3.heap.size := by simp [World.setCell]
             have d0 := bx3.cell 0
             have d1 := bx3.cell 1
             have d2 := bx3.cell 2
             have f0 := bx3.frozen 0
             have f1 := bx3.frozen 1
             have f2 := bx3.frozen 2
             have nl := bx3.lt
             simp at d0 d1 d2)
          | (at_builtin
             refine wpList_append_row _ rfl _ _ _ rfl 4 4 i0 _ 1 1 Tryd.underlying56 hi0 hz0 hz1 hz2 rfl (.slice Au l.length cu) l.length _ rfl ((hUS.alloc (.cells #[.slice A3 s2.cs.length c3, .int .i64 s2.most, .slice A3' s2.hist.length c3'] 31)).alloc (.cells #[.bool g] 4)) (.slice (some ⟨w3.heap.size + 1, 0, none⟩) 1 1) 1 [.bool g] rfl
               (Row.made_at ((((w3.setCell ⟨w.heap.size, 0, none⟩ (.slice A3 s2.cs.length c3)).setCell ⟨w.heap.size, 1, none⟩ (.int .i64 s2.most)).setCell ⟨w.heap.size, 2, none⟩ (.slice A3' s2.hist.length c3')).alloc (.cells #[.slice A3 s2.cs.length c3, .int .i64 s2.most, .slice A3' s2.hist.length c3'] 31)) (w3.heap.size + 1) (by rw [World.size_alloc, szS]) 4 1 1 #[.bool g] [.bool g] rfl (by simp [maxLen]) rfl) (by simp [Value.oneCell']) (by simp only [maxLen]; omega) (by omega) ?_
             intro v4 w4 hown4 hgrow hat
             have hoA : ∀ k, ownR (.agg #[.slice A3 s2.cs.length c3, .int .i64 s2.most, .slice A3' s2.hist.length c3']) k → ownR (.agg #[.slice A0 s.cs.length c0, .int .i64 s.most, .slice A0' s.hist.length c0']) k ∨ w.heap.size ≤ k := fun k hk => (ho3 k hk).elim (hown k) (fun h => .inr (by have := hbl.size; omega))
             have szA : w.heap.size + 2 ≤ ((((((w3.setCell ⟨w.heap.size, 0, none⟩ (.slice A3 s2.cs.length c3)).setCell ⟨w.heap.size, 1, none⟩ (.int .i64 s2.most)).setCell ⟨w.heap.size, 2, none⟩ (.slice A3' s2.hist.length c3')).alloc (.cells #[.slice A3 s2.cs.length c3, .int .i64 s2.most, .slice A3' s2.hist.length c3'] 31)).alloc (.cells #[.bool g] 4))).heap.size := by
               rw [World.size_alloc, World.size_alloc, szS]; have := rs3.lt; omega
             obtain ⟨A4, c4, rfl, hc4, hm4⟩ := Row.form hown4
             obtain ⟨hR4, bx4, hr4⟩ := rtri_app ((blS.alloc blS.size _).alloc (by rw [World.size_alloc]; exact Nat.le_succ_of_le blS.size) _) ((bxS.alloc _).alloc _) ((rsS.alloc _).alloc _) ((hrS.below ((Below.refl _ _).alloc (Nat.le_refl _) _)).below ((Below.refl _ _).alloc (Nat.le_refl _) _)) hoA ((hUS.alloc _).alloc _) hun hown4 hgrow hat szA
             have q0 := bx4.cell 0
             have q1 := bx4.cell 1
             have q2 := bx4.cell 2
             have k0 := bx4.frozen 0
             have k1 := bx4.frozen 1
             have k2 := bx4.frozen 2
             have p0 := hR4.rb.cell 0
             have p1 := hR4.rb.cell 1
             have p2 := hR4.rb.cell 2
             have r0 := hR4.rb.frozen 0
             have r1 := hR4.rb.frozen 1
             have r2 := hR4.rb.frozen 2
             simp at q0 q1 q2 p0 p1 p2
             clear hat hgrow hown4 szA d0 d1 d2 f0 f1 f2 nl szS blS hUS rsS hrS bxS hU3 rs3 bx3 hr3 hB3 ho3 hne hne1
))
        · have hg : g = true := by assumption
          subst hg
          unfold RowKit.Hid at Htr
          have htr := Htr
          simp only [if_true] at htr
          obtain ⟨hfin, hb⟩ := tri_out hR4.bl hR4.rb hr4 hoA hR4.row hR4.un
          have q0 := hb.cell 0
          have q1 := hb.cell 1
          have q2 := hb.cell 2
          simp at q0 q1 q2
          rw [htr]
          exact bodyPost_ret (v := .tuple #[.agg #[.slice A3 s2.cs.length c3, .int .i64 s2.most, .slice A3' s2.hist.length c3'], .slice A4 (l.length + 1) c4]) (by simp [results, Tryd.results25, go_sem, q0, q1, q2]) rfl hfin
        · have hg : g = false := by assumption
          subst hg
          unfold RowKit.Hid at Htr
          have htr := Htr
          simp only [Bool.false_eq_true, if_false] at htr
          refine ⟨⟨k + 1, s2, l ++ [false], by simp, by omega, by omega, by simp; omega, ?_, ?_, fun _ => hin2⟩, by simp [intOf]; omega⟩
          · simpa using hR4
          · rw [htr]; simp
      · obtain rfl : k = 0 := by
          rcases Nat.eq_zero_or_pos k with e | e
          · exact e
          · exact absurd (hin e) hj
        obtain rfl : l = [] := List.eq_nil_of_length_eq_zero (by omega)
        obtain ⟨Ax, cx, Ax', cx', hxyz⟩ := hrs.form
        simp at hxyz
        obtain ⟨rfl, rfl, rfl⟩ := hxyz
        have hd : doSt s1 3 j 0 1 = (s1, zeroAcc, 4) := by unfold doSt; rw [if_neg hj]
        rw [hd] at hT
        have hzd : zeroAcc.did = false := rfl
        simp only [hzd] at hT
        have htr2 : triesSt j (most.toNat - 0) s1 = (s1, []) := by
          rw [show most.toNat - 0 = (most.toNat - 1) + 1 by omega]
          conv => lhs; unfold triesSt
          rw [if_neg hj]
        rw [htr2] at htr
        have Htr := Lib.hid htr
        clear htr hd hzd htr2 hin
        have hU := hR.row
        have hrb := hR.rb
        have hun := hR.un
        have hbl := hR.bl
        go_wp2_with (go_at_call 22
                     refine hT.mono ?_
                     rintro e w3 ⟨v3, rfl, hr3, hB3, ho3⟩
                     obtain ⟨A3, c3, A3', c3', rfl⟩ := hr3.form
                     have bx3 := hbx.keep (hB3.block _ hbx.lt)
                     have rs3 := hrb.keep (hB3.block _ hrb.lt)
                     have d0 := bx3.cell 0
                     have d1 := bx3.cell 1
                     have d2 := bx3.cell 2
                     have f0 := bx3.frozen 0
                     have f1 := bx3.frozen 1
                     have f2 := bx3.frozen 2
                     have nl := bx3.lt
                     have p0 := rs3.cell 0
                     have p1 := rs3.cell 1
                     have p2 := rs3.cell 2
                     have r0 := rs3.frozen 0
                     have r1 := rs3.frozen 1
                     have r2 := rs3.frozen 2
                     have nr := rs3.lt
                     simp at d0 d1 d2 p0 p1 p2)
        obtain ⟨hfin, hb⟩ := tri_out (u := .slice none 0 0) (l := []) (hbl.trans (hB3.mono hbl.size)) rs3 (hrs.below hB3) hown (Bools.nil _) (by simp [Value.ownBlock])
        replace hfin := hfin.alloc (.cells #[.slice A3 s1.cs.length c3, .int .i64 s1.most, .slice A3' s1.hist.length c3'] 31)
        replace hb := hb.alloc (.cells #[.slice A3 s1.cs.length c3, .int .i64 s1.most, .slice A3' s1.hist.length c3'] 31)
        have q0 := hb.cell 0
        have q1 := hb.cell 1
        have q2 := hb.cell 2
        simp at q0 q1 q2
        unfold RowKit.Hid at Htr
        rw [Htr]
        exact bodyPost_ret (v := .tuple #[.agg #[.slice Ax s1.cs.length cx, .int .i64 s1.most, .slice Ax' s1.hist.length cx'], .slice none 0 0]) (by simp [results, Tryd.results25, go_sem, q0, q1, q2]) rfl hfin
    · obtain ⟨Ax, cx, Ax', cx', hxyz⟩ := hrs.form
      simp at hxyz
      obtain ⟨rfl, rfl, rfl⟩ := hxyz
      have hz0 : most.toNat - k = 0 := by omega
      rw [hz0] at htr
      have ht0 : triesSt j 0 s1 = (s1, []) := rfl
      rw [ht0] at htr
      simp only [List.append_nil] at htr
      have hrb := hR.rb
      have p0 := hrb.cell 0
      have p1 := hrb.cell 1
      have p2 := hrb.cell 2
      have r0 := hrb.frozen 0
      have r1 := hrb.frozen 1
      have r2 := hrb.frozen 2
      have nr := hrb.lt
      simp at p0 p1 p2
      have Htr := Lib.hid htr
      clear htr hz0 ht0 hin
      obtain ⟨hfin, hb⟩ := tri_out hR.bl hrb hrs hown hR.row hR.un
      have q0 := hb.cell 0
      have q1 := hb.cell 1
      have q2 := hb.cell 2
      simp at q0 q1 q2
      go_wp2_with fail
      unfold RowKit.Hid at Htr
      rw [Htr]
      exact bodyPost_ret (v := .tuple #[.agg #[.slice Ax s1.cs.length cx, .int .i64 s1.most, .slice Ax' s1.hist.length cx'], .slice Au l.length cu]) (by simp [results, Tryd.results25, go_sem, q0, q1, q2]) rfl hfin
end Go.Proofs.YthiaaapcbiameaaDoor
