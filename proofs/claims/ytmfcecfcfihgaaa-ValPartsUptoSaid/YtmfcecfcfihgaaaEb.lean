/- The document's own shapes, Right and IsEvent. -/
import Derived.Test.YtmfcecfcfihgaaaEa
import Derived.Test.YtmfcecfcfihgaaaNb
namespace Go.Proofs.Ytmfcecfcfihgaaa
open Go.RowKit Go.Shelf
attribute [local go_sem] Oper.semAt_some

/-- All parts have their shapes. -/
def fineB (T : V) : Bool := (V.pre 0 T).all fun p => shapeB p.2
theorem pre_fine (T : V) : ∀ d, ((V.pre d T).all fun p => shapeB p.2) = fineB T := by
  suffices h : ∀ d e, ((V.pre d T).all fun p => shapeB p.2) = ((V.pre e T).all fun p => shapeB p.2) from fun d => h d 0
  induction T using V.ind with
  | h k n l ih =>
    intro d e
    simp only [V.pre, List.all_cons]
    congr 1
    induction l with
    | nil => simp [V.preL]
    | cons x xs ihx =>
      simp only [V.preL, List.all_append]
      rw [ih x (by simp) (d + 1) (e + 1), ihx (fun y hy => ih y (by simp [hy]))]
theorem preL_fine (l : List V) : ∀ d, ((V.preL d l).all fun p => shapeB p.2) = l.all fineB := by
  intro d
  induction l with
  | nil => simp [V.preL]
  | cons x xs ih => simp only [V.preL, List.all_append, List.all_cons, ih, pre_fine]
theorem fine_mk (k n : Int) (l : List V) : fineB (.mk k n l) = (shapeB (.mk k n l) && l.all fineB) := by
  unfold fineB
  simp only [V.pre, List.all_cons]
  rw [preL_fine]
  rfl
theorem right_fine (T : V) : rightB T = (decide (T.size ≤ 256) && fineB T) := rfl

/-- A box of the call's own. -/
structure BF (w : World) (x y z : Value) (W : World) : Prop where
  a0 : W.cell? ⟨w.heap.size, 0, none⟩ = some x
  a1 : W.cell? ⟨w.heap.size, 1, none⟩ = some y
  a2 : W.cell? ⟨w.heap.size, 2, none⟩ = some z
  lt : w.heap.size < W.heap.size
  h : Hid (Blk W w.heap.size 36 #[x, y, z] ∧ Below w.heap.size w W)
theorem BF.of {w W : World} {x y z : Value} (h : Blk W w.heap.size 36 #[x, y, z]) (hb : Below w.heap.size w W) : BF w x y z W := ⟨h.cells3.1, h.cells3.2.1, h.cells3.2.2, h.lt, Lib.hid ⟨h, hb⟩⟩
theorem BF.new (w : World) (x y z : Value) : BF w x y z (w.alloc (.cells #[x, y, z] 36)) := BF.of (Blk.new w _ _) ((Below.refl _ w).alloc (Nat.le_refl _) _)
theorem BF.below {w W W' : World} {x y z : Value} (h : BF w x y z W) (hb : Below W.heap.size W W') : BF w x y z W' := BF.of (h.h.out.1.keep (hb.block _ h.lt)) (h.h.out.2.trans (hb.mono h.h.out.2.size))
theorem BF.bl {w W : World} {x y z : Value} (h : BF w x y z W) : Below w.heap.size w W := h.h.out.2

def AllFine (l : List V) (k : Nat) : Prop := ∀ i x, i < k → l[i]? = some x → fineB x = true
theorem allFine_next {l : List V} {k : Nat} {x : V} (h : AllFine l k) (hx : l[k]? = some x) (he : fineB x = true) : AllFine l (k + 1) := by
  intro i y hi hy
  by_cases hik : i = k
  · subst hik
    rw [hx] at hy
    cases hy
    exact he
  · exact h i y (by omega) hy
theorem allFine_all {l : List V} (h : AllFine l l.length) : l.all fineB = true := by
  rw [List.all_eq_true]
  intro x hx
  obtain ⟨i, hi⟩ := List.getElem?_of_mem hx
  exact h i x (List.getElem?_eq_some_iff.1 hi).1 hi
theorem not_allFine {l : List V} {k : Nat} {x : V} (hx : l[k]? = some x) (he : fineB x = false) : l.all fineB = false := by
  rw [List.all_eq_false]
  exact ⟨x, List.mem_of_getElem? hx, by simp [he]⟩

set_option maxRecDepth 100000 in
set_option maxHeartbeats 3200000 in
theorem rShapes_ok (hi : Nat) (T : V) : ∀ (v : Value) (w : World), In w 0 hi v T → hi ≤ w.heap.size → Calls Try.prog 140 #[v] w fun e w' => e = .returned (.bool (fineB T)) ∧ Below w.heap.size w w' := by
  induction T using V.ind with
  | h k n l ih =>
    intro v w hin hh
    obtain ⟨A, c, rfl, hc1, hc2, hl⟩ := hin.val
    unfold maxLen at hc2
    have hl' : Ls w 0 hi (.slice A l.length c) l := hl
    have hbx := BF.new w (.int .i64 k) (.int .i64 n) (.slice A l.length c)
    have hsh := (rShape_ok _ (hin.after (hbx.bl.mono hh)) (Nat.le_trans hh hbx.bl.size)).mono
      (R' := fun e w' => e = .returned (.bool (shapeB (.mk k n l))) ∧ BF w (.int .i64 k) (.int .i64 n) (.slice A l.length c) w') (fun e w' q => ⟨q.1, hbx.below q.2⟩)
    rw [fine_mk]
    simp only [V.k, V.n, V.l] at hc1 hc2 hsh ⊢
    clear hin hl hbx
    cases hs : shapeB (.mk k n l)
    · rw [hs] at hsh
      simp only [Bool.false_and]
      clear ih hl' hs
      go_enter Try.func140, Try.ntmps140
      go_wp2_with (go_at_call 164; refine hsh.mono ?_; rintro e w1 ⟨rfl, ⟨a0, a1, a2, lt, hB⟩⟩)
      go_ret
      exact ⟨rfl, hB.out.2⟩
    · rw [hs] at hsh
      simp only [Bool.true_and]
      clear hs
      obtain ⟨z, hz⟩ : ∃ z, l.all fineB = z := ⟨_, rfl⟩
      rw [hz]
      have HZ := Lib.hid hz
      have HI := Lib.hid ih
      clear hz ih
      go_enter Try.func140, Try.ntmps140
      go_wp2_with (go_at_call 164; refine hsh.mono ?_; rintro e w1 ⟨rfl, hb1⟩)
      clear hsh
      go_loopw [3] (fun p wr => ∃ j : Nat, j ≤ l.length ∧ p = .int .i64 (j : Int) ∧ BF w (.int .i64 k) (.int .i64 n) (.slice A l.length c) wr ∧ AllFine l j) (fun p _ => l.length - (intOf p).toNat)
      case atStart => exact ⟨0, Nat.zero_le _, rfl, hb1, by intro i x hi; omega⟩
      case round =>
        obtain ⟨j, hj, rfl, ⟨a0, a1, a2, lt, hB⟩, hN⟩ := hrel
        clear hb1
        have hj0 : (0 : Int) ≤ (j : Int) := by omega
        by_cases hlt : j < l.length
        · have hltI : (j : Int) < (l.length : Int) := by omega
          obtain ⟨x, hx⟩ : ∃ x, l[j]? = some x := ⟨_, List.getElem?_eq_getElem hlt⟩
          obtain ⟨b, o, sx, rfl, hb, hbh, _, q0, q1, q2, hix⟩ := (hl'.after (hB.out.2.mono hh)).at_ hx
          obtain ⟨X, cx, rfl, _, _, _⟩ := hix.slice
          have hbx : BF w (.int .i64 k) (.int .i64 n) (.slice (some ⟨b, o, none⟩) l.length c) wr := ⟨a0, a1, a2, lt, hB⟩
          have hcall := (HI.out x (List.mem_of_getElem? hx) _ wr hix (Nat.le_trans hh hB.out.2.size)).mono
            (R' := fun e w' => e = .returned (.bool (fineB x)) ∧ BF w (.int .i64 k) (.int .i64 n) (.slice (some ⟨b, o, none⟩) l.length c) w') (fun e w' q => ⟨q.1, hbx.below q.2⟩)
          have HC := Lib.hid hcall
          have HL := Lib.hid hl'
          have HX := Lib.hid hx
          have HN := Lib.hid hN
          clear hcall hl' hx hN hix hbx
          cases he : fineB x
          · rw [he] at HC
            have HE := Lib.hid (not_allFine HX.out he)
            clear he
            go_wp2_with (go_at_call 140; refine HC.out.mono ?_; rintro e w2 ⟨rfl, ⟨d0, d1, d2, lt2, hB2⟩⟩)
            go_ret
            refine ⟨?_, hB2.out.2⟩
            rw [← HZ.out, HE.out]
            rfl
          · rw [he] at HC
            have HN' := Lib.hid (allFine_next HN.out HX.out he)
            clear he
            go_wp2_with (go_at_call 140; refine HC.out.mono ?_; rintro e w2 ⟨rfl, hb2⟩)
            exact ⟨⟨j + 1, by omega, by go_num, hb2, HN'.out⟩, by simp [intOf]; omega⟩
        · have hltI : ¬ (j : Int) < (l.length : Int) := by omega
          have hE : l.all fineB = true := by
            obtain rfl : j = l.length := by omega
            exact allFine_all hN
          have HE := Lib.hid hE
          clear hE hN hl' HI
          go_wp2_with fail
          go_ret
          refine ⟨?_, hB.out.2⟩
          rw [← HZ.out, HE.out]
          rfl

set_option maxRecDepth 100000 in
set_option maxHeartbeats 1600000 in
theorem rRight_ok {hi : Nat} {v : Value} {T : V} (w : World) (h : In w 0 hi v T) (hh : hi ≤ w.heap.size) (hT : T.size ≤ 1000000000000) :
    Calls Try.prog 79 #[v] w fun e w' => e = .returned (.bool (rightB T)) ∧ Below w.heap.size w w' := by
  obtain ⟨A, c, rfl, hc1, hc2, _⟩ := h.val
  have hbx := BF.new w (.int .i64 T.k) (.int .i64 T.n) (.slice A T.l.length c)
  have hsz := (rSize_ok _ (h.after (hbx.bl.mono hh)) (Nat.le_trans hh hbx.bl.size) hT).mono
    (R' := fun e w' => e = .returned (.int .i64 (T.sz : Int)) ∧ BF w (.int .i64 T.k) (.int .i64 T.n) (.slice A T.l.length c) w') (fun e w' q => ⟨q.1, hbx.below q.2⟩)
  have hsh : ∀ w1, BF w (.int .i64 T.k) (.int .i64 T.n) (.slice A T.l.length c) w1 → Calls Try.prog 140 #[.agg #[.int .i64 T.k, .int .i64 T.n, .slice A T.l.length c]] w1
      fun e w' => e = .returned (.bool (fineB T)) ∧ BF w (.int .i64 T.k) (.int .i64 T.n) (.slice A T.l.length c) w' := fun w1 hb => (rShapes_ok hi T _ w1 (h.after (hb.bl.mono hh)) (Nat.le_trans hh hb.bl.size)).mono (fun e w' q => ⟨q.1, hb.below q.2⟩)
  have HS := Lib.hid hsh
  rw [right_fine]
  clear h hbx hsh hT
  have hs : T.size ≤ 256 ∧ ((T.sz : Int) ≤ 256) ∨ ¬ T.size ≤ 256 ∧ ¬ ((T.sz : Int) ≤ 256) := by unfold V.sz; omega
  generalize fineB T = z at HS ⊢
  go_enter Try.func79, Try.ntmps79
  rcases hs with ⟨h1, h2⟩ | ⟨h1, h2⟩
  · simp only [h1, decide_true, Bool.true_and]
    clear h1
    go_wp2_with (first | (go_at_call 19; refine hsz.mono ?_; rintro e w1 ⟨rfl, hb1⟩; obtain ⟨d0, d1, d2, lt, hB⟩ := hb1) | (go_at_call 140; refine (HS.out _ ⟨d0, d1, d2, lt, hB⟩).mono ?_; rintro e w2 ⟨rfl, hb2⟩))
    go_ret
    exact ⟨rfl, hb2.bl⟩
  · simp only [h1, decide_false, Bool.false_and]
    clear h1
    go_wp2_with (go_at_call 19; refine hsz.mono ?_; rintro e w1 ⟨rfl, hb1⟩; obtain ⟨d0, d1, d2, lt, hB⟩ := hb1)
    go_ret
    exact ⟨rfl, hB.out.2⟩

end Go.Proofs.Ytmfcecfcfihgaaa
