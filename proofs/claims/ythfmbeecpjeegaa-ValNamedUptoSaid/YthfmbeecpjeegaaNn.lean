/- ValMany's walk: the first loop. -/
import Derived.Test.YthfmbeecpjeegaaNf
import Derived.Test.YthfmbeecpjeegaaNq
import Derived.Deep.RegionHeld3
import Derived.Deep.Cut
import Derived.Deep.CutRange
import Derived.Deep.RegionWith
namespace Go.Proofs.Ythfmbeecpjeegaa
open Go.RowKit Go.Shelf
attribute [local go_sem] Oper.semAt_some

theorem use_SizeT {w W : World} {L : List Box} {T : V} {b : Nat} {S : Option Addr} {c : Nat} (h : Hid (St w W L)) (hm : BoxV W b T S c) : Calls Try.prog 14 #[.agg #[.int .i64 T.k, .int .i64 T.n, .slice S T.l.length c]] W (Gives w L (.int .i64 (T.sz : Int))) :=
  gives_of h (Size_ok W hm.2 (Nat.le_refl _))
theorem use_CheckT {w W : World} {L : List Box} {T : V} {b : Nat} {S : Option Addr} {c : Nat} (h : Hid (St w W L)) (hm : BoxV W b T S c) : Calls Try.prog 13 #[.agg #[.int .i64 T.k, .int .i64 T.n, .slice S T.l.length c]] W (Gives w L (.int .i64 (errVal (rightB T)))) :=
  gives_of h (Check_ok W hm.2 (Nat.le_refl _))

theorem lt_box {W : World} {b i : Nat} {v : Value} (h : W.cell? ⟨b, i, none⟩ = some v) : b < W.heap.size := lt_of_cell h
theorem cell_alloc {W : World} {o : Obj} {b i : Nat} {v : Value} (h : W.cell? ⟨b, i, none⟩ = some v) : (W.alloc o).cell? ⟨b, i, none⟩ = some v := (cell_same (p := ⟨b, i, none⟩) (Below.heap_alloc W o b (lt_box h))).trans h
theorem cell_set {W : World} {p j b i : Nat} {x v : Value} (hne : ¬ b = p) (h : W.cell? ⟨b, i, none⟩ = some v) : (W.setCell ⟨p, j, none⟩ x).cell? ⟨b, i, none⟩ = some v := (World.cell?_setCell_far W ⟨p, j, none⟩ ⟨b, i, none⟩ x (fun e => hne e.symm)).trans h
theorem cell_drew {W : World} {b i : Nat} {v : Value} (h : W.cell? ⟨b, i, none⟩ = some v) : W.drew.cell? ⟨b, i, none⟩ = some v := h
theorem copy_le (T : V) : (copyT T).size ≤ T.size := by
  unfold copyT
  split
  · exact Nat.le_refl _
  · exact T.size_pos
theorem chain_small {i : Nat} (h : 2 * i + 1 ≤ 256) : sameB (copyT (chainT i)) (chainT i) = true ∧ sameB (chainT i) (copyT (chainT i)) = true := by
  have e : copyT (chainT i) = chainT i := by simp [copyT, chain_size, h]
  rw [e, same_self, chain_size]
  simp [h]
theorem wide_small {j : Nat} (h : j < 256) : sameB (copyT (wideT j)) (wideT j) = true := by
  have e : copyT (wideT j) = wideT j := by simp [copyT, wide_size]; omega
  rw [e, same_self, wide_size]
  simp; omega
theorem wide_big {j : Nat} (h : ¬ j < 256) : sameB (copyT (wideT j)) (wideT j) = false := same_big (by rw [wide_size]; omega)
theorem zero_sz : (zeroV.sz : Int) = 1 := by
  have : zeroV.size = 1 := by simp [zeroV, V.size, V.pre, V.preL]
  unfold V.sz; omega
theorem chain_big {i : Nat} (h : ¬ 2 * i + 1 ≤ 256) : ((copyT (chainT i)).sz : Int) = 1 ∧ (copyT (chainT i)).k = 0 ∧ sameB (chainT i) (chainT i) = false := by
  have e : copyT (chainT i) = zeroV := by simp [copyT, chain_size, h]
  rw [e]
  exact ⟨zero_sz, rfl, same_big (by rw [chain_size]; exact h)⟩
theorem use_SameT {w W : World} {L : List Box} {T U : V} {b b' : Nat} {S S' : Option Addr} {c c' : Nat} (h : Hid (St w W L)) (hm : BoxV W b T S c) (hm' : BoxV W b' U S' c') :
    Calls Try.prog 20 #[.agg #[.int .i64 T.k, .int .i64 T.n, .slice S T.l.length c], .agg #[.int .i64 U.k, .int .i64 U.n, .slice S' U.l.length c']] W (Gives w L (.bool (sameB T U))) :=
  gives_of h (Same_ok W hm.2 hm'.2 (Nat.le_refl _))
theorem use_rSameT {w W : World} {L : List Box} {T U : V} {b b' : Nat} {S S' : Option Addr} {c c' : Nat} (h : Hid (St w W L)) (hm : BoxV W b T S c) (hm' : BoxV W b' U S' c') (hT : T.size ≤ 1000000000000) (hU : U.size ≤ 1000000000000) :
    Calls Try.prog 21 #[.agg #[.int .i64 T.k, .int .i64 T.n, .slice S T.l.length c], .agg #[.int .i64 U.k, .int .i64 U.n, .slice S' U.l.length c']] W (Gives w L (.bool (sameB T U))) :=
  gives_of h (rSame_ok W hm.2 hm'.2 (Nat.le_refl _) hT hU)
theorem use_SizeK {w W : World} {L : List Box} {T : V} {b : Nat} {S : Option Addr} {c : Nat} {k : Int} (hk : T.k = k) (h : Hid (St w W L)) (hm : BoxV W b T S c) : Calls Try.prog 14 #[.agg #[.int .i64 k, .int .i64 T.n, .slice S T.l.length c]] W (Gives w L (.int .i64 (T.sz : Int))) := by
  subst hk
  exact use_SizeT h hm
theorem use_works {w W : World} {L : List Box} (h : Hid (St w W L)) : Calls Try.prog 18 #[] W (Gives w L (.bool true)) := gives_of h (works_ok W)
theorem chain_cases (i : Nat) : (((chainT i).sz : Int) = 1 + 2 * (i : Int) ∧ errVal (rightB (chainT i)) = 0 ∧ decide (1 + 2 * (i : Int) ≤ 256) = true ∧ 1 + 2 * (i : Int) ≤ 256 ∧ ¬ 257 < 1 + 2 * (i : Int)) ∨
    (((chainT i).sz : Int) = 1 + 2 * (i : Int) ∧ errVal (rightB (chainT i)) = 40 ∧ decide (1 + 2 * (i : Int) ≤ 256) = false ∧ ¬ 1 + 2 * (i : Int) ≤ 256 ∧ ¬ 257 < 1 + 2 * (i : Int)) ∨
    (((chainT i).sz : Int) = 257 ∧ errVal (rightB (chainT i)) = 40 ∧ decide (1 + 2 * (i : Int) ≤ 256) = false ∧ ¬ 1 + 2 * (i : Int) ≤ 256 ∧ 257 < 1 + 2 * (i : Int)) := by
  rw [chain_right]
  unfold V.sz errVal
  rw [chain_size]
  by_cases h1 : 2 * i + 1 ≤ 256
  · refine .inl ⟨by omega, by simp [h1], by simp; omega, by omega, by omega⟩
  · by_cases h2 : 2 * i + 1 ≤ 257
    · refine .inr (.inl ⟨by omega, by simp [h1], by simp; omega, by omega, by omega⟩)
    · refine .inr (.inr ⟨by omega, by simp [h1], by simp; omega, by omega, by omega⟩)
theorem wide_cases (j : Nat) : (((wideT j).sz : Int) = 1 + (j : Int) ∧ errVal (rightB (wideT j)) = 0 ∧ decide ((j : Int) ≤ 16) = true ∧ (j : Int) ≤ 16 ∧ ¬ 257 < 1 + (j : Int)) ∨
    (((wideT j).sz : Int) = 1 + (j : Int) ∧ errVal (rightB (wideT j)) = 40 ∧ decide ((j : Int) ≤ 16) = false ∧ ¬ (j : Int) ≤ 16 ∧ ¬ 257 < 1 + (j : Int)) ∨
    (((wideT j).sz : Int) = 257 ∧ errVal (rightB (wideT j)) = 40 ∧ decide ((j : Int) ≤ 16) = false ∧ ¬ (j : Int) ≤ 16 ∧ 257 < 1 + (j : Int)) := by
  rw [wide_right]
  unfold V.sz errVal
  rw [wide_size]
  by_cases h1 : j ≤ 16
  · refine .inl ⟨by omega, by simp [h1], by simp; omega, by omega, by omega⟩
  · by_cases h2 : j + 1 ≤ 257
    · refine .inr (.inl ⟨by omega, by simp [h1], by simp; omega, by omega, by omega⟩)
    · refine .inr (.inr ⟨by omega, by simp [h1], by simp; omega, by omega, by omega⟩)

set_option maxRecDepth 100000 in
set_option maxHeartbeats 12800000 in
theorem many_walk (n m : Int) (w : World) : Calls Try.prog 4 #[.int .i64 n, .int .i64 m] w fun e w' => e = .returned (.bool true) ∧ Below w.heap.size w w' := by
  obtain ⟨i0, hi0, hz0, hz1, hz2⟩ := info_parts valInfo
  go_enter Try.func4, Try.ntmps4
  by_cases h1 : n < 0
  · go_wp2_with (go_at_call 18; refine (works_ok _).mono ?_; rintro e w' ⟨rfl, hwB⟩)
    go_ret
    exact ⟨rfl, hwB⟩
  · by_cases h2 : n > 400
    · go_wp2_with (go_at_call 18; refine (works_ok _).mono ?_; rintro e w' ⟨rfl, hwB⟩)
      go_ret
      exact ⟨rfl, hwB⟩
    · by_cases h3 : m < 0
      · go_wp2_with (go_at_call 18; refine (works_ok _).mono ?_; rintro e w' ⟨rfl, hwB⟩)
        go_ret
        exact ⟨rfl, hwB⟩
      · by_cases h4 : m > 400
        · go_wp2_with (go_at_call 18; refine (works_ok _).mono ?_; rintro e w' ⟨rfl, hwB⟩)
          go_ret
          exact ⟨rfl, hwB⟩
        · obtain ⟨a, rfl⟩ : ∃ a : Nat, n = (a : Int) := ⟨n.toNat, by omega⟩
          obtain ⟨b, rfl⟩ : ∃ b : Nat, m = (b : Int) := ⟨m.toNat, by omega⟩
          go_wp2_with fail
          have hmk : ∀ W : World, (Instr.makeSlice 23 (.int .i64 (b : Int)) (.int .i64 (b : Int))).run Try.prog W = .ok (.slice (some ⟨W.heap.size, 0, none⟩) b b) (W.alloc (.cells (madeCells #[.int .i64 0, .int .i64 0, .slice none 0 0] (b * 3)) 25)) := fun W => by
            have hr := run_make (P := Try.prog) W 23 25 i0 _ Try.underlying23 hi0 hz0 .i64 .i64 b b (by omega) (Int.le_refl _) (by rw [hz2]; omega) (by omega)
            simpa [hz1, Value.cells] using hr
          clear hi0 hz0 hz1 hz2 i0
          go_loopw [6] (fun p wr => ∃ i : Nat, i ≤ a ∧ p = .int .i64 (i : Int) ∧ ∃ S c, CH w w.heap.size i S c wr) (fun p _ => a - (intOf p).toNat)
          case atStart => exact ⟨0, Nat.zero_le _, rfl, none, 0, Blk.new w _ _, chain0_in _ _ _, (Below.refl _ w).alloc (Nat.le_refl _) _, Nat.le_refl _⟩
          case round =>
            obtain ⟨i, hi, rfl, S, c, hC⟩ := hrel
            have hi0 : (0 : Int) ≤ (i : Int) := by omega
            have z0 := hC.b.cells3.1
            have z1 := hC.b.cells3.2.1
            have z2 := hC.b.cells3.2.2
            have f0 : wr.frozen? ⟨w.heap.size, 0, none⟩ = false := hC.b.frozen _
            have f1 : wr.frozen? ⟨w.heap.size, 1, none⟩ = false := hC.b.frozen _
            have f2 : wr.frozen? ⟨w.heap.size, 2, none⟩ = false := hC.b.frozen _
            have hlt0 := hC.b.lt
            have HC := Lib.hid hC
            clear hC
            by_cases hlt : i < a
            · have hltI : (i : Int) < (a : Int) := by omega
              go_wp2_with fail
              exact ⟨⟨i + 1, by omega, by go_num, _, _, HC.out.next⟩, by simp [intOf]; omega⟩
            · have hltI : ¬ (i : Int) < (a : Int) := by omega
              obtain rfl : i = a := by omega
              go_wp2_with fail
              have hW := Lib.hid (WH.start (b := b) HC.out)
              clear HC hmk z0 z1 z2 f0 f1 f2 hlt hltI hi
              obtain ⟨h7, hW0⟩ : ∃ h7, wr.heap.size = h7 := ⟨_, rfl⟩
              rw [hW0] at hW ⊢
              clear hW0
              go_loopw [8] (fun p wq => ∃ j : Nat, j ≤ b ∧ p = .int .i64 (j : Int) ∧ WH w w.heap.size i S c h7 b j wq) (fun p _ => b - (intOf p).toNat)
              case atStart => exact ⟨0, Nat.zero_le _, rfl, hW.out⟩
              case round =>
                obtain ⟨j, hj, rfl, hH⟩ := hrel
                clear hW
                have hj0 : (0 : Int) ≤ (j : Int) := by omega
                by_cases hjb : j < b
                · have hjI : (j : Int) < (b : Int) := by omega
                  obtain ⟨cs, hb, hs, _⟩ := hH.row
                  obtain ⟨v0, hv0⟩ : ∃ v, cs[j * 3]? = some v := ⟨_, Array.getElem?_eq_getElem (by omega)⟩
                  obtain ⟨v1, hv1⟩ : ∃ v, cs[j * 3 + 1]? = some v := ⟨_, Array.getElem?_eq_getElem (by omega)⟩
                  obtain ⟨v2, hv2⟩ : ∃ v, cs[j * 3 + 2]? = some v := ⟨_, Array.getElem?_eq_getElem (by omega)⟩
                  have t0 := (hb.cell (j * 3)).trans hv0
                  have t1 := (hb.cell (j * 3 + 1)).trans hv1
                  have t2 := (hb.cell (j * 3 + 2)).trans hv2
                  have f0 := hb.frozen (j * 3)
                  have f1 := hb.frozen (j * 3 + 1)
                  have f2 := hb.frozen (j * 3 + 2)
                  have z2 := hH.bx.cells3.2.2
                  have hlt1 := hb.lt
                  have HH := Lib.hid hH
                  clear hH hb hs hv0 hv1 hv2
                  go_wp2_with fail
                  exact ⟨⟨j + 1, by omega, by go_num, HH.out.next hjb⟩, by simp [intOf]; omega⟩
                · have hjI : ¬ (j : Int) < (b : Int) := by omega
                  obtain rfl : j = b := by omega
                  have hst := Lib.hid (hH.done (by unfold maxLen; omega))
                  clear hH hjb hjI hj
                  obtain ⟨⟨y0, y1, y2⟩, ⟨x0, x1, x2⟩, _⟩ := hst.out.cells
                  have hlx := lt_box x0
                  have hly := lt_box y0
                  go_upto_region 14 with fail
                  go_cut [83] from 53 to 83 (fun r wx => r = .bool false ∧ St w wx [(h7 + 1, wideT j, some ⟨h7, 0, none⟩, j), (w.heap.size, chainT i, S, c)])
                  case first =>
                    rcases chain_cases i with ⟨e1, e2, e3, e4, e5⟩ | ⟨e1, e2, e3, e4, e5⟩ | ⟨e1, e2, e3, e4, e5⟩
                    all_goals rcases wide_cases j with ⟨g1, g2, g3, g4, g5⟩ | ⟨g1, g2, g3, g4, g5⟩ | ⟨g1, g2, g3, g4, g5⟩
                    all_goals go_wp2_with (first | (go_at_call 14; (with_reducible refine (use_SizeT hst hst.out.head).mono ?_); rintro e wi ⟨rfl, hst⟩; obtain ⟨⟨y0, y1, y2⟩, ⟨x0, x1, x2⟩, _⟩ := hst.out.cells) | (go_at_call 14; (with_reducible refine (use_SizeT hst hst.out.tail.head).mono ?_); rintro e wi ⟨rfl, hst⟩; obtain ⟨⟨y0, y1, y2⟩, ⟨x0, x1, x2⟩, _⟩ := hst.out.cells) | (go_at_call 13; (with_reducible refine (use_CheckT hst hst.out.head).mono ?_); rintro e wi ⟨rfl, hst⟩; obtain ⟨⟨y0, y1, y2⟩, ⟨x0, x1, x2⟩, _⟩ := hst.out.cells) | (go_at_call 13; (with_reducible refine (use_CheckT hst hst.out.tail.head).mono ?_); rintro e wi ⟨rfl, hst⟩; obtain ⟨⟨y0, y1, y2⟩, ⟨x0, x1, x2⟩, _⟩ := hst.out.cells) | (go_at_call 12; refine (use_num _ hst).mono ?_; rintro e wi ⟨rfl, hst⟩; obtain ⟨⟨y0, y1, y2⟩, ⟨x0, x1, x2⟩, _⟩ := hst.out.cells))
                    all_goals go_meet
                    all_goals exact ⟨rfl, hst.out⟩
                  case rest =>
                    obtain ⟨rfl, hst'⟩ := hcut
                    have hst := Lib.hid hst'
                    clear hst' x0 x1 x2 y0 y1 y2
                    go_upto_region 16 with fail
                    have htw : Hid (Two w _ _ _ _ _) := Lib.hid (Two.of hst.out).drew
                    have htwA : Hid (Two w _ _ _ _ _) := Lib.hid (Two.of hst.out).alloc.drew
                    have htwAA : Hid (Two w _ _ _ _ _) := Lib.hid (Two.of hst.out).alloc.alloc.drew
                    rw [World.size_alloc] at htwAA
                    obtain ⟨⟨y0, y1, y2⟩, ⟨x0, x1, x2⟩, _⟩ := hst.out.cells
                    have hlx := lt_box x0
                    have hly := lt_box y0
                    have nc1 := Nat.ne_of_lt hlx
                    have nc2 := Nat.ne_of_lt hly
                    have nc3 := Nat.ne_of_lt (Nat.lt_succ_of_lt hlx)
                    have nc4 := Nat.ne_of_lt (Nat.lt_succ_of_lt hly)
                    go_cut [10, 11] from 84 to 87 (fun p q wx => Out16 w [(h7 + 1, wideT j, some ⟨h7, 0, none⟩, j), (w.heap.size, chainT i, S, c)] (copyT (chainT i)) (copyT (wideT j)) p q wx)
                    case first =>
                      go_region_held3 (fun w' => w'.cell? ⟨w.heap.size, 0, none⟩ = some (.int .i64 (chainT i).k) ∧ w'.cell? ⟨w.heap.size, 1, none⟩ = some (.int .i64 (chainT i).n) ∧ w'.cell? ⟨w.heap.size, 2, none⟩ = some (.slice S (chainT i).l.length c) ∧ w'.cell? ⟨h7 + 1, 0, none⟩ = some (.int .i64 (wideT j).k) ∧ w'.cell? ⟨h7 + 1, 1, none⟩ = some (.int .i64 (wideT j).n) ∧ w'.cell? ⟨h7 + 1, 2, none⟩ = some (.slice (some ⟨h7, 0, none⟩) (wideT j).l.length j)) (first | with_reducible exact ⟨x0, x1, x2, y0, y1, y2⟩ | ((refine ⟨?_, ?_, ?_, ?_, ?_, ?_⟩) <;> (repeat (first | with_reducible assumption | with_reducible refine cell_alloc ?_ | with_reducible refine cell_drew ?_ | with_reducible refine cell_set (by assumption) ?_))) | go_keep) ((first | (go_at_call 19; (with_reducible refine (use_CopyT htw htw.out.st.tail.head).mono ?_); rintro e w1 ⟨S1, c1, a1, z1, rfl, ht1⟩; obtain ⟨⟨y0, y1, y2⟩, ⟨x0, x1, x2⟩, _⟩ := ht1.out.st.cells; have hlx := lt_box x0; have hly := lt_box y0; have na1 : ¬ w.heap.size = w1.heap.size := (by omega); have na2 : ¬ h7 + 1 = w1.heap.size := (by omega); have na3 : ¬ w.heap.size = w1.heap.size + 1 := (by omega); have na4 : ¬ h7 + 1 = w1.heap.size + 1 := (by omega); (try have m3 := Nat.ne_of_lt (ht1.out.first).2.2.2.2.2.2); (try have m4 := Nat.ne_of_gt (ht1.out.first).2.2.2.2.2.2)) | (go_at_call 19; (with_reducible refine (use_CopyT htwA htwA.out.st.tail.head).mono ?_); rintro e w1 ⟨S1, c1, a1, z1, rfl, ht1⟩; obtain ⟨⟨y0, y1, y2⟩, ⟨x0, x1, x2⟩, _⟩ := ht1.out.st.cells; have hlx := lt_box x0; have hly := lt_box y0; have na1 : ¬ w.heap.size = w1.heap.size := (by omega); have na2 : ¬ h7 + 1 = w1.heap.size := (by omega); have na3 : ¬ w.heap.size = w1.heap.size + 1 := (by omega); have na4 : ¬ h7 + 1 = w1.heap.size + 1 := (by omega); (try have m3 := Nat.ne_of_lt (ht1.out.first).2.2.2.2.2.2); (try have m4 := Nat.ne_of_gt (ht1.out.first).2.2.2.2.2.2)) | (go_at_call 19; (with_reducible refine (use_CopyT htwAA htwAA.out.st.tail.head).mono ?_); rintro e w1 ⟨S1, c1, a1, z1, rfl, ht1⟩; obtain ⟨⟨y0, y1, y2⟩, ⟨x0, x1, x2⟩, _⟩ := ht1.out.st.cells; have hlx := lt_box x0; have hly := lt_box y0; have na1 : ¬ w.heap.size = w1.heap.size := (by omega); have na2 : ¬ h7 + 1 = w1.heap.size := (by omega); have na3 : ¬ w.heap.size = w1.heap.size + 1 := (by omega); have na4 : ¬ h7 + 1 = w1.heap.size + 1 := (by omega); (try have m3 := Nat.ne_of_lt (ht1.out.first).2.2.2.2.2.2); (try have m4 := Nat.ne_of_gt (ht1.out.first).2.2.2.2.2.2)) | (go_at_call 19; have hq := ht1; (with_reducible refine (use_CopyT hq hq.out.st.head).mono ?_); rintro e w2 ⟨S2, c2, a2, z2, rfl, ht2⟩; obtain ⟨⟨y0, y1, y2⟩, ⟨x0, x1, x2⟩, _⟩ := ht2.out.st.cells; have hlx := lt_box x0; have hly := lt_box y0; have nb1 : ¬ w.heap.size = w2.heap.size := (by omega); have nb2 : ¬ h7 + 1 = w2.heap.size := (by omega); have nb3 : ¬ w.heap.size = w2.heap.size + 1 := (by omega); have nb4 : ¬ h7 + 1 = w2.heap.size + 1 := (by omega); (try obtain ⟨k0, k1, k2, k3, k4, k5, k6⟩ := ht2.out.first); (try obtain ⟨l0, l1, l2, l3, l4, l5, l6⟩ := ht2.out.second)) | (go_at_call 19; have hq := Lib.hid ht1.out.alloc; (with_reducible refine (use_CopyT hq hq.out.st.head).mono ?_); rintro e w2 ⟨S2, c2, a2, z2, rfl, ht2⟩; obtain ⟨⟨y0, y1, y2⟩, ⟨x0, x1, x2⟩, _⟩ := ht2.out.st.cells; have hlx := lt_box x0; have hly := lt_box y0; have nb1 : ¬ w.heap.size = w2.heap.size := (by omega); have nb2 : ¬ h7 + 1 = w2.heap.size := (by omega); have nb3 : ¬ w.heap.size = w2.heap.size + 1 := (by omega); have nb4 : ¬ h7 + 1 = w2.heap.size + 1 := (by omega); (try obtain ⟨k0, k1, k2, k3, k4, k5, k6⟩ := ht2.out.first); (try obtain ⟨l0, l1, l2, l3, l4, l5, l6⟩ := ht2.out.second)) | (go_at_call 19; have hq := Lib.hid ht1.out.alloc.alloc; rw [World.size_alloc] at hq; (with_reducible refine (use_CopyT hq hq.out.st.head).mono ?_); rintro e w2 ⟨S2, c2, a2, z2, rfl, ht2⟩; obtain ⟨⟨y0, y1, y2⟩, ⟨x0, x1, x2⟩, _⟩ := ht2.out.st.cells; have hlx := lt_box x0; have hly := lt_box y0; have nb1 : ¬ w.heap.size = w2.heap.size := (by omega); have nb2 : ¬ h7 + 1 = w2.heap.size := (by omega); have nb3 : ¬ w.heap.size = w2.heap.size + 1 := (by omega); have nb4 : ¬ h7 + 1 = w2.heap.size + 1 := (by omega); (try obtain ⟨k0, k1, k2, k3, k4, k5, k6⟩ := ht2.out.first); (try obtain ⟨l0, l1, l2, l3, l4, l5, l6⟩ := ht2.out.second))))
                      all_goals go_wp2_with fail
                      all_goals go_meet
                      all_goals first | exact ht2.out.fin_aa.out16 | exact ht2.out.fin_aa'.out16 | ((refine (ht2.out.fin_pa ?_).out16) <;> (simp; done)) | ((refine (ht2.out.fin_ap ?_).out16) <;> (simp; done)) | ((refine (ht2.out.fin_pp ?_ ?_ ?_).out16) <;> (first | (simp; done) | assumption))
                    case rest =>
                      obtain ⟨b10, S10, c10, b11, S11, c11, rfl, rfl, hst'⟩ := hcut
                      have hst := Lib.hid hst'
                      clear hst' htw htwA htwAA x0 x1 x2 y0 y1 y2 nc1 nc2 nc3 nc4 hlx hly
                      obtain ⟨⟨p0, p1, p2⟩, ⟨q0, q1, q2⟩, ⟨y0, y1, y2⟩, ⟨x0, x1, x2⟩, _⟩ := hst.out.cells
                      have hb1 : (copyT (chainT i)).size ≤ 1000000000000 := Nat.le_trans (copy_le _) (by rw [chain_size]; omega)
                      have hb2 : (chainT i).size ≤ 1000000000000 := by rw [chain_size]; omega
                      have hb3 : (copyT (wideT j)).size ≤ 1000000000000 := Nat.le_trans (copy_le _) (by rw [wide_size]; omega)
                      have hb4 : (wideT j).size ≤ 1000000000000 := by rw [wide_size]; omega
                      by_cases hs : 2 * i + 1 ≤ 256
                      · have hsI : 1 + 2 * (i : Int) ≤ 256 := by omega
                        obtain ⟨e1, e2⟩ := chain_small hs
                        by_cases hj : j < 256
                        · have hjI : (j : Int) < 256 := by omega
                          have e3 := wide_small hj
                          go_wp2_with (first | (go_at_call 14; (with_reducible refine (use_SizeT hst hst.out.tail.head).mono ?_); rintro e wi ⟨rfl, hst⟩; obtain ⟨⟨p0, p1, p2⟩, ⟨q0, q1, q2⟩, ⟨y0, y1, y2⟩, ⟨x0, x1, x2⟩, _⟩ := hst.out.cells) | (go_at_call 20; (with_reducible refine (use_SameT hst hst.out.tail.tail.tail.head hst.out.tail.tail.tail.head).mono ?_); rintro e wi ⟨rfl, hst⟩; obtain ⟨⟨p0, p1, p2⟩, ⟨q0, q1, q2⟩, ⟨y0, y1, y2⟩, ⟨x0, x1, x2⟩, _⟩ := hst.out.cells) | (go_at_call 20; (with_reducible refine (use_SameT hst hst.out.tail.tail.tail.head hst.out.tail.head).mono ?_); rintro e wi ⟨rfl, hst⟩; obtain ⟨⟨p0, p1, p2⟩, ⟨q0, q1, q2⟩, ⟨y0, y1, y2⟩, ⟨x0, x1, x2⟩, _⟩ := hst.out.cells) | (go_at_call 21; (with_reducible refine (use_rSameT hst hst.out.tail.head hst.out.tail.tail.tail.head hb1 hb2).mono ?_); rintro e wi ⟨rfl, hst⟩; obtain ⟨⟨p0, p1, p2⟩, ⟨q0, q1, q2⟩, ⟨y0, y1, y2⟩, ⟨x0, x1, x2⟩, _⟩ := hst.out.cells) | (go_at_call 21; (with_reducible refine (use_rSameT hst hst.out.head hst.out.tail.tail.head hb3 hb4).mono ?_); rintro e wi ⟨rfl, hst⟩; obtain ⟨⟨p0, p1, p2⟩, ⟨q0, q1, q2⟩, ⟨y0, y1, y2⟩, ⟨x0, x1, x2⟩, _⟩ := hst.out.cells) | (go_at_call 18; (with_reducible refine (use_works hst).mono ?_); rintro e wi ⟨rfl, hst⟩; obtain ⟨⟨p0, p1, p2⟩, ⟨q0, q1, q2⟩, ⟨y0, y1, y2⟩, ⟨x0, x1, x2⟩, _⟩ := hst.out.cells))
                          go_ret
                          exact ⟨rfl, hst.out.1⟩
                        · have hjI : ¬ (j : Int) < 256 := by omega
                          have hjd : decide ((j : Int) < 256) = false := by simp; omega
                          have e3 := wide_big hj
                          go_wp2_with (first | (go_at_call 14; (with_reducible refine (use_SizeT hst hst.out.tail.head).mono ?_); rintro e wi ⟨rfl, hst⟩; obtain ⟨⟨p0, p1, p2⟩, ⟨q0, q1, q2⟩, ⟨y0, y1, y2⟩, ⟨x0, x1, x2⟩, _⟩ := hst.out.cells) | (go_at_call 20; (with_reducible refine (use_SameT hst hst.out.tail.tail.tail.head hst.out.tail.tail.tail.head).mono ?_); rintro e wi ⟨rfl, hst⟩; obtain ⟨⟨p0, p1, p2⟩, ⟨q0, q1, q2⟩, ⟨y0, y1, y2⟩, ⟨x0, x1, x2⟩, _⟩ := hst.out.cells) | (go_at_call 20; (with_reducible refine (use_SameT hst hst.out.tail.tail.tail.head hst.out.tail.head).mono ?_); rintro e wi ⟨rfl, hst⟩; obtain ⟨⟨p0, p1, p2⟩, ⟨q0, q1, q2⟩, ⟨y0, y1, y2⟩, ⟨x0, x1, x2⟩, _⟩ := hst.out.cells) | (go_at_call 21; (with_reducible refine (use_rSameT hst hst.out.tail.head hst.out.tail.tail.tail.head hb1 hb2).mono ?_); rintro e wi ⟨rfl, hst⟩; obtain ⟨⟨p0, p1, p2⟩, ⟨q0, q1, q2⟩, ⟨y0, y1, y2⟩, ⟨x0, x1, x2⟩, _⟩ := hst.out.cells) | (go_at_call 21; (with_reducible refine (use_rSameT hst hst.out.head hst.out.tail.tail.head hb3 hb4).mono ?_); rintro e wi ⟨rfl, hst⟩; obtain ⟨⟨p0, p1, p2⟩, ⟨q0, q1, q2⟩, ⟨y0, y1, y2⟩, ⟨x0, x1, x2⟩, _⟩ := hst.out.cells) | (go_at_call 18; (with_reducible refine (use_works hst).mono ?_); rintro e wi ⟨rfl, hst⟩; obtain ⟨⟨p0, p1, p2⟩, ⟨q0, q1, q2⟩, ⟨y0, y1, y2⟩, ⟨x0, x1, x2⟩, _⟩ := hst.out.cells))
                          go_ret
                          exact ⟨rfl, hst.out.1⟩
                      · have hsI : ¬ 1 + 2 * (i : Int) ≤ 256 := by omega
                        obtain ⟨e1, e2, e3⟩ := chain_big hs
                        have HE2 := Lib.hid e2
                        go_wp2_with (first | (go_at_call 14; (with_reducible refine (use_SizeK HE2.out hst hst.out.tail.head).mono ?_); rintro e wi ⟨rfl, hst⟩; obtain ⟨⟨p0, p1, p2⟩, ⟨q0, q1, q2⟩, ⟨y0, y1, y2⟩, ⟨x0, x1, x2⟩, _⟩ := hst.out.cells) | (go_at_call 20; (with_reducible refine (use_SameT hst hst.out.tail.tail.tail.head hst.out.tail.tail.tail.head).mono ?_); rintro e wi ⟨rfl, hst⟩; obtain ⟨⟨p0, p1, p2⟩, ⟨q0, q1, q2⟩, ⟨y0, y1, y2⟩, ⟨x0, x1, x2⟩, _⟩ := hst.out.cells) | (go_at_call 20; (with_reducible refine (use_SameT hst hst.out.tail.tail.tail.head hst.out.tail.head).mono ?_); rintro e wi ⟨rfl, hst⟩; obtain ⟨⟨p0, p1, p2⟩, ⟨q0, q1, q2⟩, ⟨y0, y1, y2⟩, ⟨x0, x1, x2⟩, _⟩ := hst.out.cells) | (go_at_call 21; (with_reducible refine (use_rSameT hst hst.out.tail.head hst.out.tail.tail.tail.head hb1 hb2).mono ?_); rintro e wi ⟨rfl, hst⟩; obtain ⟨⟨p0, p1, p2⟩, ⟨q0, q1, q2⟩, ⟨y0, y1, y2⟩, ⟨x0, x1, x2⟩, _⟩ := hst.out.cells) | (go_at_call 21; (with_reducible refine (use_rSameT hst hst.out.head hst.out.tail.tail.head hb3 hb4).mono ?_); rintro e wi ⟨rfl, hst⟩; obtain ⟨⟨p0, p1, p2⟩, ⟨q0, q1, q2⟩, ⟨y0, y1, y2⟩, ⟨x0, x1, x2⟩, _⟩ := hst.out.cells) | (go_at_call 18; (with_reducible refine (use_works hst).mono ?_); rintro e wi ⟨rfl, hst⟩; obtain ⟨⟨p0, p1, p2⟩, ⟨q0, q1, q2⟩, ⟨y0, y1, y2⟩, ⟨x0, x1, x2⟩, _⟩ := hst.out.cells))
                        go_ret
                        exact ⟨rfl, hst.out.1⟩
end Go.Proofs.Ythfmbeecpjeegaa
