/- PickHolds, walked on. -/
import Derived.Test.YtchmoalcjbolbaaHo
namespace Go.Proofs.Ytchmoalcjbolbaa
open Go.RowKit Go.Shelf Go.Sort
attribute [local go_sem] Oper.semAt_some

set_option maxRecDepth 100000 in
set_option maxHeartbeats 1600000 in
theorem holds_out (n : Int) (A : Option Addr) (len c : Nat) (last : Int) (vl : Value) (wd : Int) (w : World) (hlen : len ≤ 9223372036854775807) (h : n < 1 ∨ 12 < n ∨ 40 < len) :
    Calls Try.prog 7 #[.int .i64 n, .slice A len c, .int .i64 last, vl, .int .i64 wd] w (WPost w) := by
  by_cases h1 : n < 1
  · go_enter Try.func7, Try.ntmps7
    go_wp2_with (go_at_call 8; refine (works_at _).mono ?_; rintro e w5 ⟨rfl, hb5⟩)
    go_ret
    exact ⟨rfl, ((RowKit.Below.refl _ w).alloc (Nat.le_refl _) _).trans (hb5.mono (by simp))⟩
  · by_cases h2 : 12 < n
    · go_enter Try.func7, Try.ntmps7
      go_wp2_with (go_at_call 8; refine (works_at _).mono ?_; rintro e w5 ⟨rfl, hb5⟩)
      go_ret
      exact ⟨rfl, ((RowKit.Below.refl _ w).alloc (Nat.le_refl _) _).trans (hb5.mono (by simp))⟩
    · have h3 : (40 : Int) < (len : Int) := by omega
      clear h
      go_enter Try.func7, Try.ntmps7
      go_wp2_with (go_at_call 8; refine (works_at _).mono ?_; rintro e w5 ⟨rfl, hb5⟩)
      go_ret
      exact ⟨rfl, ((RowKit.Below.refl _ w).alloc (Nat.le_refl _) _).trans (hb5.mono (by simp))⟩

theorem metL_len : ∀ evs, (metL evs).length ≤ evs.length
  | [] => by simp [metL]
  | e :: r => by
    have ih := metL_len r
    rw [metL_cons]
    split
    · simp; omega
    · simp; omega
theorem told_len {p : Nat} {l : List Tn} {ps : List (Int × Nat)} (hs : Small l) (h : toldOf p l ps) : ps.length ≤ 1000000 := by
  rcases h with ⟨_, rfl⟩ | ⟨_, ts, h2, rfl⟩
  · simp
  · have h3 : ts.Perm (metL (evK l l.length)) := (List.perm_ext_iff_of_nodup (nodup_of_rising h2.rising) (metL_nodup _)).2 fun t => (h2.mem t).trans (metL_mem t _).symm
    have h4 := metL_len (evK l l.length)
    have h5 := evK_length hs l.length (Nat.le_refl _)
    have h6 := hs.1
    rw [List.length_map, h3.length_eq]
    have : l.length * 1000 ≤ 1000 * 1000 := Nat.mul_le_mul_right _ h6
    omega
theorem below_set {n : Nat} {W : World} {b : Nat} (hb : n ≤ b) (v : Value) : RowKit.Below n W (W.setCell ⟨b, 0, none⟩ v) :=
  ⟨rfl, rfl, rfl, by simp [World.setCell], fun k hk => Below.heap_setCell _ _ _ _ (by show k ≠ b; omega)⟩
theorem exit_drop {P : Program} {c : Code} {K : Act → World → Prop} {Q : Exit → Act → World → Prop} {a : Act} {w : World} (h : c.wp P (Exit.then K (fun _ _ _ => False)) a w) : c.wp P (Exit.then K Q) a w :=
  Code.wp_mono (fun e a w h => by cases e <;> first | exact h | exact False.elim h) h
theorem below_put {n D : Nat} {w W : World} {o : Obj} (h : RowKit.Below n w W) (hD : n ≤ D) : RowKit.Below n w (W.putObj D o) :=
  ⟨h.os, h.tape, h.output, by have := h.size; simpa using this, fun k hk => (World.putObj_heap_other (by omega)).trans (h.block k hk)⟩
structure HI (w4 : World) (wd : Int) (pre : List (Int × Nat)) (W : World) : Prop where
  bl : RowKit.Below w4.heap.size w4 W
  cell : ∃ b, Blk W w4.heap.size 4 #[.bool b] ∧ AllLess wd pre b

set_option maxRecDepth 100000 in
set_option maxHeartbeats 3200000 in
theorem holds_in (n : Nat) (vc : Value) (us : List Int) (last : Int) (vl : Value) (l : List Tn) (wd : Int) (w : World) (hn1 : 1 ≤ n) (hn : n ≤ 12) (hus : us.length ≤ 40) (hc : Wds w vc us) (hl : Turns w vl l) :
    Calls Try.prog 7 #[.int .i64 (n : Int), vc, .int .i64 last, vl, .int .i64 wd] w (WPost w) := by
  obtain ⟨i0, hi0, hz0, hz1, hz2⟩ := info_parts Try.info57
  obtain ⟨i3, hi3, hy0, hy1, hy2⟩ := info_parts Try.info3
  obtain ⟨A, c, rfl, hc1, hc2, hcw, _⟩ := id hc
  obtain ⟨A', c', rfl, hd1, hd2⟩ := hl.form
  have n1 : ¬ (n : Int) < 1 := by omega
  have n2 : ¬ (12 : Int) < (n : Int) := by omega
  have u1 : ¬ (40 : Int) < (us.length : Int) := by omega
  obtain ⟨g, hg⟩ : ∃ g, w.heap.size = g := ⟨_, rfl⟩
  have hbx : Blk (w.alloc (.cells #[.int .i64 wd] 3)) g 3 #[.int .i64 wd] := by rw [← hg]; exact Blk.new w 3 _
  have hB0 : RowKit.Below w.heap.size w (w.alloc (.cells #[.int .i64 wd] 3)) := (RowKit.Below.refl _ w).alloc (Nat.le_refl _) _
  have hf := few_ok _ l _ (hl.alloc (.cells #[.int .i64 wd] 3))
  have hl0 := hl.alloc (.cells #[.int .i64 wd] 3)
  have hc0 : Wds (w.alloc (.cells #[.int .i64 wd] 3)) (.slice A us.length c) us := hc.kept (kept_below hB0 (Nat.le_refl _))
  refine calls_of_wp_marks 5 Try.func7 rfl ?_
  simp only [Try.ntmps7, List.size_toArray, List.length_cons, List.length_nil, Nat.reduceAdd, Nat.reduceSub, Array.replicate_succ, Array.replicate_zero, List.push_toArray, List.append_toArray, List.nil_append, List.cons_append]
  have z0 := hbx.cell 0
  simp at z0
  by_cases hw1 : wd < 1
  · go_wp2_with (go_at_call 14; refine hf.mono ?_; rintro e w1 ⟨⟨b, rfl, hb⟩, rfl⟩; cases b)
    all_goals refine (works_at _).mono ?_
    all_goals rintro e w5 ⟨rfl, hb5⟩
    all_goals go_wp2_with fail
    all_goals exact ⟨.bool true, by simp [results, Try.results7, go_sem], rfl, hB0.trans (hb5.mono hB0.size)⟩
  · go_wp2_with (go_at_call 14; refine hf.mono ?_; rintro e w1 ⟨⟨b, rfl, hb⟩, rfl⟩; cases b)
    · refine (works_at _).mono ?_
      rintro e w5 ⟨rfl, hb5⟩
      go_wp2_with fail
      exact ⟨.bool true, by simp [results, Try.results7, go_sem], rfl, hB0.trans (hb5.mono hB0.size)⟩
    · obtain ⟨h25, h12⟩ := hb trivial
      have hsm : Small l := ⟨by omega, fun x hx => by have := h12 x hx; omega⟩
      have hw1' : 1 ≤ wd := by omega
      have HB0 := Lib.hid hB0
      clear hc hl hB0 hf h12 h25 hb z0 hw1
      generalize w.alloc (.cells #[.int .i64 wd] 3) = w1 at *
      have hH0 : RH w1 [] (.slice none 0 0) w1 := ⟨⟨[], Row.nil w1 57 2, fun i x hx => by simp at hx⟩, by intro j hj; simp [Value.ownBlock] at hj, RowKit.Below.refl _ w1⟩
      go_loopw [2, 11, 12] (fun la v p wr => ∃ (i : Nat) (lr : List Tn) (lst : Int), i ≤ us.length ∧ la = .int .i64 lst ∧ p = .int .i64 (i : Int) ∧ RH w1 lr v wr ∧ RunOK n lr lst ∧ lr.length ≤ i) (fun _ _ p _ => us.length - (intOf p).toNat)
      case atStart => exact ⟨0, [], last, Nat.zero_le _, rfl, rfl, hH0, RunOK.nil n last, Nat.zero_le _⟩
      case round =>
        obtain ⟨i, lr, lst, hi, rfl, rfl, hH, hR, hlr⟩ := hrel
        have hi0' : (0 : Int) ≤ (i : Int) := by omega
        obtain ⟨A6, c6, rfl⟩ := hH.form
        clear hH0
        by_cases hlt : i < us.length
        · have hltI : (i : Int) < (us.length : Int) := by omega
          obtain ⟨u, hu⟩ : ∃ u, us[i]? = some u := ⟨_, List.getElem?_eq_getElem hlt⟩
          have hub := hcw u (List.mem_of_getElem? hu)
          obtain ⟨b, o, rfl, hbl, q0⟩ := (hc0.kept (kept_below hH.bl (Nat.le_refl _))).at_ hu
          obtain ⟨wk, hwk⟩ : ∃ wk, wk = wr := ⟨_, rfl⟩
          rw [← hwk] at hH
          have hU0 : RB wk n 0 [] (.slice none 0 0) wr := ⟨by simpa using Row.nil wr 3 1, by intro j hj; simp [Value.ownBlock] at hj, by rw [hwk]; exact RowKit.Below.refl _ _, List.Pairwise.nil, by simp, by simp⟩
          have HH := Lib.hid hH
          have HR := Lib.hid hR
          have HQ : Hid (wk.cell? ⟨b, o + i, none⟩ = some (.int .u16 u)) := Lib.hid (by rw [hwk]; exact q0)
          clear hH hR hwk hu q0 hbl
          go_wp2_with fail
          go_loopw [13, 14] (fun v p wq => ∃ (t : Nat) (xs : List Int), t ≤ n ∧ p = .int .i64 (t : Int) ∧ RB wk n t xs v wq) (fun _ p _ => n - (intOf p).toNat)
          case atStart => exact ⟨0, [], Nat.zero_le _, rfl, hU0⟩
          case round =>
            obtain ⟨t, xs, htn, rfl, hU⟩ := hrel
            have ht0 : (0 : Int) ≤ (t : Int) := by omega
            obtain ⟨A8, c8, rfl, hc1, hc2⟩ := hU.row.form
            clear hU0
            by_cases htl : t < n
            · have htlI : (t : Int) < (n : Int) := by omega
              have q0 : wr.cell? ⟨b, o + i, none⟩ = some (.int .u16 u) := kept_below hU.bl (Nat.le_refl _) _ _ HQ.out
              have HU := Lib.hid hU
              clear hU
              have hfew := HU.out.few
              go_wp2_with (at_builtin; refine wpList_append_row _ rfl (.tmp 63) (.tmp 65) 24 rfl 3 3 i3 (.int .i64 0) 1 8 Try.underlying24 hi3 hy0 hy1 hy2 rfl _ xs.length _ rfl (HU.out.row.alloc _) (.slice (some ⟨wr.heap.size, 0, none⟩) 1 1) 1 [.int .i64 (t : Int)] rfl (Row.made_at wr _ rfl 3 1 1 _ _ rfl (by unfold maxLen; omega) rfl) (by intro x hx; simp at hx; subst hx; rfl) (by unfold maxLen; omega) (by omega) ?_; intro v3 w3 hr3 hg3 ho3; obtain ⟨A9, c9, rfl, _, _⟩ := hr3.form)
              · exact ⟨⟨t + 1, xs ++ [(t : Int)], by omega, by simp, HU.out.next hr3 hg3 ho3⟩, by simp [intOf]; omega⟩
              · exact ⟨⟨t + 1, xs, by omega, by simp, HU.out.skip⟩, by simp [intOf]; omega⟩
            · have htlI : ¬ (t : Int) < (n : Int) := by omega
              obtain rfl : t = n := by omega
              have hi1 := ints_of_row hU.row (fun x hx => by have := hU.within x hx; unfold W64; omega)
              have hH := HH.out.below hU.bl
              have hfew := hU.few
              by_cases hne : xs = []
              · subst hne
                have hN : nextOf lst [] = (0, false) := rfl
                have HN := Lib.hid (fun W => (Next_ok lst (.slice A8 0 c8) [] W))
                have HHH := Lib.hid hH
                clear hH
                go_wp2_with (go_at_call 11; refine (HN.out _ hi1).mono ?_; rintro e w3 ⟨rfl, hb3⟩)
                exact ⟨⟨i + 1, lr, lst, by omega, rfl, by simp, HHH.out.below hb3, HR.out, by omega⟩, by simp [intOf]; omega⟩
              · have hlen : (0 : Int) < (xs.length : Int) := by have := List.length_pos_iff.2 hne; omega
                obtain ⟨hN2, hNm, _⟩ := next_spec (a := lst) hU.rising hne
                have hNb := hU.within _ hNm
                have hRn := HR.out.step (runs := xs) hU.rising hU.within hU.few hne
                obtain ⟨s, hs⟩ : ∃ s, (nextOf lst xs).1 = s := ⟨_, rfl⟩
                have hNc := Next_ok lst _ xs wr hi1
                rw [hN2, hs] at hNc
                rw [hs] at hRn hNb
                have HHH := Lib.hid hH
                have HU := Lib.hid hU
                have HRn := Lib.hid hRn
                have hlenD : decide (0 < xs.length) = true := by simp; exact List.length_pos_iff.2 hne
                clear hH hU hN2 hNm hRn hne hs
                go_wp2_with (first
                  | (go_at_call 11; refine hNc.mono ?_; rintro e w3 ⟨rfl, hb3⟩; have hH3 := HHH.out.below hb3; obtain ⟨cs, hcs⟩ := hH3.row; have hrow3 := HU.out.row.keep fun k hk => hb3.block _ (HU.out.row.lt k hk))
                  | (at_builtin; refine wpList_append_row _ rfl (.tmp 79) (.tmp 83) 33 rfl 57 57 i0 (.agg #[.slice none 0 0, .int .i64 0]) 2 32 Try.underlying33 hi0 hz0 hz1 hz2 rfl _ lr.length _ rfl (hcs.1.alloc _) (.slice (some ⟨w3.heap.size, 0, none⟩) 1 1) 1 [.slice A8 xs.length c8, .int .i64 s] rfl (Row.made_at w3 _ rfl 57 2 1 _ _ rfl (by unfold maxLen; omega) rfl) (by intro x hx; simp at hx; rcases hx with rfl | rfl <;> rfl) (by unfold maxLen; omega) (by omega) ?_; intro v4 w4 hr4 hg4 ho4; obtain ⟨A9, c9, rfl, _, _⟩ := hr4.form))
                have hHn : RH w1 (lr ++ [⟨xs, s⟩]) (.slice A9 (lr.length + 1) c9) w4 := hH3.next (y := ⟨xs, s⟩) hrow3 cs hcs hr4 hg4 ho4
                exact ⟨⟨i + 1, lr ++ [⟨xs, s⟩], s, by omega, rfl, by simp, hHn, HRn.out, by simp; omega⟩, by simp [intOf]; omega⟩
        · have hltI : ¬ (i : Int) < (us.length : Int) := by omega
          have hT : Turns wr (.slice A6 lr.length c6) lr := hH.turns (fun x hx => by
            obtain ⟨_, h2, h3, _⟩ := hR.each x hx
            refine ⟨fun t ht => ?_, ?_⟩
            · have := h2 t ht; unfold W64; omega
            · have := h2 _ h3; unfold W64; omega)
          have hSm : Small lr := ⟨by omega, fun x hx => by have := (hR.each x hx).2.2.2; omega⟩
          have hFa := Fair_any (n : Int) _ lr wr hT hSm
          unfold FairPost at hFa
          rw [hR.fair hn1] at hFa
          have hB1 := HB0.out.trans (hH.bl.mono HB0.out.size)
          have hl1 := hl0.below hH.bl
          have hbx1 := hbx.keep (hH.bl.block _ hbx.lt)
          have HB1 := Lib.hid hB1
          have HBX := Lib.hid hbx1
          clear hT hSm hH hR hc0 hcw hbx hB1 hbx1 HB0
          cases hbad : badAt l with
          | some k =>
            have hcE : checkOf l = ((k : Int), 2) := by unfold checkOf; rw [hbad]
            have hfE : fairOf wd l = false := fairOf_bad wd (.inr (by rw [hbad]; simp))
            have hck : ∀ W, Turns W (.slice A' l.length c') l → Calls Try.prog 15 #[.slice A' l.length c'] W fun e w' => e = .returned (.tuple #[.int .i64 (k : Int), .int .i64 2]) ∧ RowKit.Below W.heap.size W w' := fun W h => by
              have := Check_ok _ l W h (by have := hsm.1; omega)
              unfold CheckPost at this
              rw [hcE] at this
              exact this
            have hfl : ∀ W, Turns W (.slice A' l.length c') l → Calls Try.prog 18 #[.int .i64 wd, .slice A' l.length c'] W fun e w' => e = .returned (.bool false) ∧ RowKit.Below W.heap.size W w' := fun W h => by
              have := Fair_any wd _ l W h hsm
              unfold FairPost at this
              rw [hfE] at this
              exact this
            have HCK := Lib.hid hck
            have HFL := Lib.hid hfl
            clear hck hfl hbad hcE hfE
            go_wp2_with (first
              | (go_at_call 15; refine (HCK.out _ hl2).mono ?_; rintro e w3 ⟨rfl, hb3⟩; have hl3 := hl2.below hb3; have z3 := (((HBX.out.keep (hb2.block _ HBX.out.lt)).keep (hb3.block _ (HBX.out.keep (hb2.block _ HBX.out.lt)).lt)).cell 0); simp at z3)
              | (go_at_call 17; refine (num_ok _ _).mono ?_; rintro e w9 ⟨rfl, rfl⟩)
              | (go_at_call_of 18 (Value.int .i64 wd); refine (HFL.out _ hl3).mono ?_; rintro e w4 ⟨rfl, hb4⟩)
              | (go_at_call 18; refine hFa.mono ?_; rintro e w2 ⟨rfl, hb2⟩; have hl2 := hl1.below hb2)
              | (go_at_call 8; refine (works_at _).mono ?_; rintro e w5 ⟨rfl, hb5⟩))
            have s1 := HB1.out.size
            have s2 := hb2.size
            have s3 := hb3.size
            have s4 := hb4.size
            exact ⟨.bool true, by simp [results, Try.results7, go_sem], rfl, HB1.out.trans ((hb2.mono (by omega)).trans ((hb3.mono (by omega)).trans ((hb4.mono (by omega)).trans (hb5.mono (by omega)))))⟩
          | none =>
            have hcE : checkOf l = (0, 0) := by unfold checkOf; rw [hbad]
            have hck : ∀ W, Turns W (.slice A' l.length c') l → Calls Try.prog 15 #[.slice A' l.length c'] W fun e w' => e = .returned (.tuple #[.int .i64 0, .int .i64 0]) ∧ RowKit.Below W.heap.size W w' := fun W h => by
              have := Check_ok _ l W h (by have := hsm.1; omega)
              unfold CheckPost at this
              rw [hcE] at this
              exact this
            have HCK := Lib.hid hck
            have HBAD := Lib.hid hbad
            clear hck hcE hbad
            have heq := eql_func
            go_wp2_with (first
              | (go_at_call 15; refine (HCK.out _ hl2).mono ?_; rintro e w3 ⟨rfl, hb3⟩; have hl3 := hl2.below hb3)
              | (go_at_call 17; refine (num_ok _ _).mono ?_; rintro e w9 ⟨rfl, rfl⟩)
              | (go_at_call 18; refine hFa.mono ?_; rintro e w2 ⟨rfl, hb2⟩; have hl2 := hl1.below hb2)
              | (go_at_call 21; refine (Waits_ok _ l _ hl3 hsm).mono ?_; rintro e w4 ⟨ps, htold, B1, v1, rfl, hBs, htl, hb4⟩; have hl4 := hl3.below hb4))
            have s1 := HB1.out.size
            have s2 := hb2.size
            have s3 := hb3.size
            have s4 := hb4.size
            have hB4 : RowKit.Below w.heap.size w w4 := HB1.out.trans ((hb2.mono (by omega)).trans ((hb3.mono (by omega)).trans (hb4.mono (by omega))))
            have hbx4 : Blk w4 g 3 #[.int .i64 wd] := ((HBX.out.keep (hb2.block _ HBX.out.lt)).keep (hb3.block _ (HBX.out.keep (hb2.block _ HBX.out.lt)).lt)).keep (hb4.block _ ((HBX.out.keep (hb2.block _ HBX.out.lt)).keep (hb3.block _ (HBX.out.keep (hb2.block _ HBX.out.lt)).lt)).lt)
            have hI0 : HI w4 wd [] (w4.alloc (.cells #[.bool true] 4)) := ⟨(RowKit.Below.refl _ _).alloc (Nat.le_refl _) _, true, Blk.new w4 4 _, by simp [AllLess]⟩
            have HB4 := Lib.hid hB4
            have HBX4 := Lib.hid hbx4
            have HTO := Lib.hid htold
            clear hb2 hb3 hb4 s1 s2 s3 s4 hl1 hl2 hl3 hl0 hB4 hbx4 htold HB1 HBX hFa HCK heq hBs
            have hps : ps.length ≤ 1000000 := by
              have := told_len hsm HTO.out
              omega
            refine wp_range 4 rfl (enters_of Try.func49 (by kernel_rfl) rfl) (tell2_seqs ps B1 v1 hps) (fun _ => rfl)
              (fun pre W => HI w4 wd pre W) (fun cd pre W => False)
              (fun s X Y row hs hg hr => ⟨ownFrom_below (β := Unit) (Nat.le_refl _) (by simp) () X Y row hs.bl hg hr, by
                obtain ⟨b, h1, h2⟩ := hs.cell
                exact ⟨b, ownFrom_blk (β := Unit) _ _ _ _ () X Y row h1 hg hr, h2⟩⟩) (fun cd s X Y row hs hg hr => hs)
              (fun pre W' hi => htl.below hi.bl) hI0
              ?round3 ?done3 ?panic3 ?stop3
            case panic3 => intro D ch W1 hbad; cases hbad
            case stop3 => rintro D cd pre W1 hD hpre h hdef; exact h.elim
            case round3 =>
              intro lp pre x rest W1 hsz hx hi
              simp only [encP]
              gi_wp2
              refine ⟨Since.refl _ _, hi, ?_⟩
              rintro W2 ht hi2
              obtain ⟨b, hk2, hL2⟩ := hi2.cell
              have z1 := hk2.cell 0
              have f1 := hk2.frozen 0
              have z2 := (HBX4.out.keep (hi2.bl.block _ HBX4.out.lt)).cell 0
              simp at z1 z2
              have HK2 := Lib.hid hk2
              have HI2 := Lib.hid hi2.bl
              have HL2 := Lib.hid (hL2.next (x := x))
              clear hi hi2 hk2 hL2 ht hx
              cases b
              · gi_wp2
                exact ⟨(Since.refl _ _).setCell (by simp) _, HI2.out.trans (below_set (Nat.le_refl _) _), _, HK2.out.set _ _, HL2.out⟩
              · gi_wp2
                exact ⟨(Since.refl _ _).setCell (by simp) _, HI2.out.trans (below_set (Nat.le_refl _) _), _, HK2.out.set _ _, HL2.out⟩
            case done3 =>
              rintro D1 W1 _ hD1 hi1 hdef1
              obtain ⟨b, hk1, hL1⟩ := hi1.cell
              have hfE := told_fair HBAD.out HTO.out hw1' hL1
              have hl1 := hl4.below hi1.bl
              have hbx1 := HBX4.out.keep (hi1.bl.block _ HBX4.out.lt)
              have hsz4 := HB4.out.size
              have hDw : W1.heap.size > D1 := (Array.getElem?_eq_some_iff.1 hdef1).1
              have hw4D : w4.heap.size ≤ D1 := by simp at hD1; omega
              have hB1 : RowKit.Below w.heap.size w W1 := HB4.out.trans (hi1.bl.mono hsz4)
              have HX : ∀ W2, RowKit.Below W1.heap.size W1 W2 → W2.cell? ⟨g, 0, none⟩ = some (.int .i64 wd) ∧ W2.cell? ⟨w4.heap.size, 0, none⟩ = some (.bool b) ∧ W2.heap[D1]? = some (.deferred (some [])) ∧ RowKit.Below w.heap.size w W2 := fun W2 hb2 => by
                refine ⟨?_, ?_, (hb2.block _ hDw).trans hdef1, hB1.trans (hb2.mono hB1.size)⟩
                · have := (hbx1.keep (hb2.block _ hbx1.lt)).cell 0
                  simpa using this
                · have := (hk1.keep (hb2.block _ hk1.lt)).cell 0
                  simpa using this
              have hB1c := hsz4
              obtain ⟨y0, y1, _, _⟩ := HX _ (RowKit.Below.refl _ _)
              have HXX := Lib.hid HX
              have hfa := fun W => Fair_any wd (.slice A' l.length c') l W
              unfold FairPost at hfa
              simp only [hfE] at hfa
              have HFA := Lib.hid hfa
              have HL1 := Lib.hid hl1
              clear hfa HX hfE hL1 hbx1 hk1 hdef1 hi1 hB1 HBX4 hl4 htl hI0 HTO hl1
              go_wp2_with fail
              have HB1c := Lib.hid hB1c
              clear hB1c
              cases b
              · refine exit_drop ?_
                go_region_with (first
                  | (go_at_call 18; refine (HFA.out W1.drew (HL1.out.kept (fun p v h => h)) hsm).mono ?_; rintro e w6 ⟨rfl, hb6⟩; have hb6' : RowKit.Below W1.heap.size W1 w6 := ⟨hb6.os, hb6.tape, hb6.output, hb6.size, hb6.block⟩; obtain ⟨y2, y3, hd6, hB6⟩ := HXX.out _ hb6')
                  | (go_at_call 8; refine (works_at _).mono ?_; rintro e w7 ⟨rfl, hb7⟩; have hB7 := hb6'.trans (hb7.mono hb6'.size); obtain ⟨_, _, hd7, hB8⟩ := HXX.out _ hB7))
                all_goals go_wp2_with fail
                all_goals exact ⟨by simp, .inl ⟨_, _, rfl, run_takeDeferred hd7, ⟨.bool true, by simp [results, Try.results7, go_sem], rfl, below_put hB8 (Nat.le_trans HB1c.out hw4D)⟩⟩⟩
              · refine exit_drop ?_
                go_region_with (first
                  | (go_at_call 18; refine (HFA.out W1.drew (HL1.out.kept (fun p v h => h)) hsm).mono ?_; rintro e w6 ⟨rfl, hb6⟩; have hb6' : RowKit.Below W1.heap.size W1 w6 := ⟨hb6.os, hb6.tape, hb6.output, hb6.size, hb6.block⟩; obtain ⟨y2, y3, hd6, hB6⟩ := HXX.out _ hb6')
                  | (go_at_call 8; refine (works_at _).mono ?_; rintro e w7 ⟨rfl, hb7⟩; have hB7 := hb6'.trans (hb7.mono hb6'.size); obtain ⟨_, _, hd7, hB8⟩ := HXX.out _ hB7))
                all_goals go_wp2_with fail
                all_goals exact ⟨by simp, .inl ⟨_, _, rfl, run_takeDeferred hd7, ⟨.bool true, by simp [results, Try.results7, go_sem], rfl, below_put hB8 (Nat.le_trans HB1c.out hw4D)⟩⟩⟩
end Go.Proofs.Ytchmoalcjbolbaa
