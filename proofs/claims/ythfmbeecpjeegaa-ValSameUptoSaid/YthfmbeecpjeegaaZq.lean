/- ValSame's walk. -/
import Derived.Test.YthfmbeecpjeegaaPh
import Derived.Test.YthfmbeecpjeegaaUf
import Derived.Deep.RegionHeld3
import Derived.BigQuiet
import Derived.Deep.QuietTactic
namespace Go.Proofs.Ythfmbeecpjeegaa
open Go.RowKit Go.Shelf
attribute [local go_sem] Oper.semAt_some

/-- The copy's numbers, j of them raised. -/
structure NI (w : World) (T : V) (A : Option Addr) (c bC g o : Nat) (S : Option Addr) (cc j : Nat) (W : World) : Prop where
  t : Cells3 W w.heap.size (.int .i64 T.k) (.int .i64 T.n) (.slice A T.l.length c)
  cb : Cells3 W bC (.int .i64 T.k) (.int .i64 T.n) (.slice S T.l.length cc)
  blk : ∃ cs, Blk W g 25 cs
  lo : ∀ i x, i < j → T.l[i]? = some x → W.cell? ⟨g, o + i * 3 + 1, none⟩ = some (.int .i64 (wrap64 (x.n + 1)))
  hi : ∀ i x, j ≤ i → T.l[i]? = some x → W.cell? ⟨g, o + i * 3 + 1, none⟩ = some (.int .i64 x.n)
  bl : Below w.heap.size w W
theorem NI.drewN {w : World} {T : V} {A : Option Addr} {c bC g o : Nat} {S : Option Addr} {cc j : Nat} {W : World} (h : NI w T A c bC g o S cc j W) (m : Nat) : NI w T A c bC g o S cc j (W.drewN m) := by
  obtain ⟨cs, hb⟩ := h.blk
  exact ⟨h.t, h.cb, ⟨cs, hb⟩, h.lo, h.hi, below_drewN h.bl m⟩
theorem NI.next {w : World} {T : V} {A : Option Addr} {c bC g o : Nat} {S : Option Addr} {cc j : Nat} {W : World} (h : NI w T A c bC g o S cc j W) {x : V} (hx : T.l[j]? = some x) (h1 : w.heap.size < g) (h2 : bC ≠ g) :
    NI w T A c bC g o S cc (j + 1) (W.setCell ⟨g, o + j * 3 + 1, none⟩ (.int .i64 (wrap64 (x.n + 1)))) := by
  obtain ⟨cs, hb⟩ := h.blk
  refine ⟨⟨?_, ?_, ?_⟩, ⟨?_, ?_, ?_⟩, ⟨_, hb.set _ _⟩, fun i y hi hy => ?_, fun i y hi hy => ?_, h.bl.setCell (by simp; omega) _⟩
  · exact cell_set (by omega) h.t.1
  · exact cell_set (by omega) h.t.2.1
  · exact cell_set (by omega) h.t.2.2
  · exact cell_set h2 h.cb.1
  · exact cell_set h2 h.cb.2.1
  · exact cell_set h2 h.cb.2.2
  · rcases Nat.lt_or_eq_of_le (Nat.le_of_lt_succ hi) with hlt | rfl
    · rw [World.cell?_setCell_other _ _ _ _ (by simp <;> omega)]
      exact h.lo i y hlt hy
    · rw [hx] at hy
      cases hy
      exact World.cell?_setCell_same _ _ _ (h.hi i x (Nat.le_refl _) hx)
  · rw [World.cell?_setCell_other _ _ _ _ (by simp <;> omega)]
    exact h.hi i y (by omega) hy

set_option maxRecDepth 100000 in
set_option maxHeartbeats 6400000 in
theorem same_walk (T U : V) (u v : Value) (w : World) (h : In w 0 w.heap.size u T) (h' : In w 0 w.heap.size v U) (hT : T.size ≤ 1000000000000) (hU : U.size ≤ 1000000000000) :
    Calls Try.prog 5 #[u, v] w fun e w' => e = .returned (.bool true) ∧ Below w.heap.size w w' := by
  obtain ⟨A, c, rfl, hc1, hc2, hls⟩ := h.val
  obtain ⟨B, d, rfl, _, _, _⟩ := h'.val
  unfold maxLen at hc2
  have hst := Lib.hid (St.start2 h h')
  have HT := Lib.hid hT
  have HU := Lib.hid hU
  have HL := Lib.hid hls
  have HB0 := Lib.hid (below2 w (.cells #[.int .i64 T.k, .int .i64 T.n, .slice A T.l.length c] 25) (.cells #[.int .i64 U.k, .int .i64 U.n, .slice B U.l.length d] 25))
  clear h h' hT hU hls
  rcases sz_cases T with ⟨hT1, hT2⟩ | ⟨_, hT2⟩
  · rcases sz_cases U with ⟨_, hU2⟩ | ⟨_, hU2⟩
    · have HT1 := Lib.hid hT1
      clear hT1
      go_enter Try.func5, Try.ntmps5
      go_upto_region 4 with (first
        | (go_at_call 15; (with_reducible refine (use_rSizeT hst hst.out.tail.head HT.out).mono ?_); rintro e wi ⟨rfl, hst⟩; obtain ⟨⟨y0, y1, y2⟩, ⟨x0, x1, x2⟩, _⟩ := hst.out.cells)
        | (go_at_call 15; (with_reducible refine (use_rSizeT hst hst.out.head HU.out).mono ?_); rintro e wi ⟨rfl, hst⟩; obtain ⟨⟨y0, y1, y2⟩, ⟨x0, x1, x2⟩, _⟩ := hst.out.cells)
        | (go_at_call 19; (with_reducible refine (use_CopyG hst hst.out.tail.head HT1.out).mono ?_); have HW := Lib.hid hst.out.1.size; have hltx := lt_box x0; have HX := Lib.hid hltx; rintro e w1 ⟨S, cc, g, o, rfl, hC⟩))
      have hst2 := Lib.hid hC.out.1
      have hcg := Lib.hid hC.out.2.1
      have hgl := Lib.hid hC.out.2.2
      obtain ⟨bC, hbC⟩ : ∃ bC, w1.heap.size = bC := ⟨_, rfl⟩
      obtain ⟨w0, hw0⟩ : ∃ w0, w1.alloc (.cells #[.int .i64 T.k, .int .i64 T.n, .slice S T.l.length cc] 25) = w0 := ⟨_, rfl⟩
      rw [hw0] at hst2 hcg ⊢
      rw [hbC] at hst2 hgl ⊢
      have hB1 := Lib.hid hst2.out.1
      have hst3 := Lib.hid hst2.out.rebase.drew
      clear hC hst2 hst x0 x1 x2 y0 y1 y2 hltx hw0 hbC
      have hst := hst3
      clear hst3
      obtain ⟨⟨z0, z1, z2⟩, ⟨y0, y1, y2⟩, ⟨x0, x1, x2⟩, _⟩ := hst.out.cells
      have HSY := Lib.hid (sameB_symm T U)
      have HSS : Hid (sameB T T = true) := Lib.hid (by rw [same_self]; simp [HT1.out])
      go_region_held3 (fun w' => w'.cell? ⟨bC, 0, none⟩ = some (.int .i64 T.k) ∧ w'.cell? ⟨bC, 1, none⟩ = some (.int .i64 T.n) ∧ w'.cell? ⟨bC, 2, none⟩ = some (.slice S T.l.length cc) ∧ w'.cell? ⟨w.heap.size + 1, 0, none⟩ = some (.int .i64 U.k) ∧ w'.cell? ⟨w.heap.size + 1, 1, none⟩ = some (.int .i64 U.n) ∧ w'.cell? ⟨w.heap.size + 1, 2, none⟩ = some (.slice B U.l.length d) ∧ w'.cell? ⟨w.heap.size, 0, none⟩ = some (.int .i64 T.k) ∧ w'.cell? ⟨w.heap.size, 1, none⟩ = some (.int .i64 T.n) ∧ w'.cell? ⟨w.heap.size, 2, none⟩ = some (.slice A T.l.length c)) (first | with_reducible exact ⟨z0, z1, z2, y0, y1, y2, x0, x1, x2⟩ | go_keep) ((first
        | (go_at_call 21; (with_reducible refine (use_rSelf hst hst.out.head hst.out.tail.tail.head HT1.out).mono ?_); rintro e wi ⟨rfl, hst⟩; obtain ⟨⟨z0, z1, z2⟩, ⟨y0, y1, y2⟩, ⟨x0, x1, x2⟩, _⟩ := hst.out.cells)
        | (go_at_call 21; (with_reducible refine (use_rSameT hst hst.out.tail.tail.head hst.out.tail.head HT.out HU.out).mono ?_); rintro e wi ⟨rfl, hst⟩; obtain ⟨⟨z0, z1, z2⟩, ⟨y0, y1, y2⟩, ⟨x0, x1, x2⟩, _⟩ := hst.out.cells)
        | (go_at_call 20; (with_reducible refine (use_SameT hst hst.out.tail.tail.head hst.out.tail.head).mono ?_); rintro e wi ⟨rfl, hst⟩; obtain ⟨⟨z0, z1, z2⟩, ⟨y0, y1, y2⟩, ⟨x0, x1, x2⟩, _⟩ := hst.out.cells)
        | (go_at_call 20; (with_reducible refine (use_SameT hst hst.out.tail.head hst.out.tail.tail.head).mono ?_); rw [HSY.out]; rintro e wi ⟨rfl, hst⟩; obtain ⟨⟨z0, z1, z2⟩, ⟨y0, y1, y2⟩, ⟨x0, x1, x2⟩, _⟩ := hst.out.cells)
        | (go_at_call 20; (with_reducible refine (use_SameT hst hst.out.tail.tail.head hst.out.tail.tail.head).mono ?_); rw [HSS.out]; rintro e wi ⟨rfl, hst⟩; obtain ⟨⟨z0, z1, z2⟩, ⟨y0, y1, y2⟩, ⟨x0, x1, x2⟩, _⟩ := hst.out.cells)))
      go_wp2_with fail
      have hlt1 : w.heap.size < g := Nat.lt_of_lt_of_le HX.out hcg.out.ge
      have hne1 : bC ≠ g := by have := hgl.out; omega
      have hcg1 := hcg.out.below hst.out.1
      have hNI : NI w T A c bC g o S cc 0 wi := ⟨⟨x0, x1, x2⟩, ⟨z0, z1, z2⟩, hcg1.blk, by intro i x hi; omega, fun i x _ hx => hcg1.at_ i x hx, hB1.out.trans (hst.out.1.mono hB1.out.size)⟩
      have HNI := Lib.hid hNI
      have HSC := Lib.hid hcg1.sc
      have HLT := Lib.hid hlt1
      have HNE := Lib.hid hne1
      clear hNI hcg1 hcg hst hgl hB1 HB0 HW HX x0 x1 x2 y0 y1 y2 z0 z1 z2 hlt1 hne1
      go_loopw [7] (fun p wr => ∃ j : Nat, j ≤ T.l.length ∧ p = .int .i64 (j : Int) ∧ NI w T A c bC g o S cc j wr) (fun p _ => T.l.length - (intOf p).toNat)
      case atStart => exact ⟨0, Nat.zero_le _, rfl, HNI.out⟩
      case round =>
        obtain ⟨j, hj, rfl, hN⟩ := hrel
        clear HNI
        have hj0 : (0 : Int) ≤ (j : Int) := by omega
        by_cases hlt : j < T.l.length
        · have hltI : (j : Int) < (T.l.length : Int) := by omega
          obtain ⟨x, hx⟩ : ∃ x, T.l[j]? = some x := ⟨_, List.getElem?_eq_getElem hlt⟩
          obtain rfl : S = some ⟨g, o, none⟩ := HSC.out (by intro e; rw [e] at hlt; simp at hlt)
          obtain ⟨z0, z1, z2⟩ := hN.cb
          have n1 := hN.hi j x (Nat.le_refl _) hx
          obtain ⟨cs, hb⟩ := hN.blk
          have f1 := hb.frozen (o + j * 3 + 1)
          have hlb := hb.lt
          have HN := Lib.hid (hN.next hx HLT.out HNE.out)
          clear hN hb hx
          go_wp2_with fail
          exact ⟨⟨j + 1, by omega, by go_num, HN.out⟩, by simp [intOf]; omega⟩
        · obtain rfl : j = T.l.length := by omega
          obtain ⟨z0, z1, z2⟩ := hN.cb
          have HN := Lib.hid hN
          clear hN hlt
          go_wp2_with fail
          obtain ⟨wq, hwq⟩ : ∃ wq, wq = wr := ⟨_, rfl⟩
          rw [← hwq] at HN z0 z1 z2 ⊢
          clear hwq wr
          clear z0 z1 z2
          go_loopw [8] (fun p wr => ∃ i : Nat, i ≤ T.l.length ∧ p = .int .i64 (i : Int) ∧ NI w T A c bC g o S cc T.l.length wr) (fun p _ => T.l.length - (intOf p).toNat)
          case atStart => exact ⟨0, Nat.zero_le _, rfl, HN.out⟩
          case round =>
            obtain ⟨i, hi, rfl, hN⟩ := hrel
            clear HN
            have hi0 : (0 : Int) ≤ (i : Int) := by omega
            by_cases hlt : i < T.l.length
            · have hltI : (i : Int) < (T.l.length : Int) := by omega
              obtain ⟨x, hx⟩ : ∃ x, T.l[i]? = some x := ⟨_, List.getElem?_eq_getElem hlt⟩
              obtain rfl : S = some ⟨g, o, none⟩ := HSC.out (by intro e; rw [e] at hlt; simp at hlt)
              obtain ⟨z0, z1, z2⟩ := hN.cb
              obtain ⟨b, oA, sx, rfl, hb, _, _, q0, q1, q2, _⟩ := (HL.out.after hN.bl).at_ hx
              obtain ⟨x0, x1, x2⟩ := hN.t
              have n1 := hN.lo i x hlt hx
              obtain ⟨cs, hbk⟩ := hN.blk
              have hlb := hbk.lt
              have HN := Lib.hid hN
              clear hN hbk hx
              go_wp2_with fail
              go_quiet (fail)
              go_wp2_with fail
              exact ⟨⟨i + 1, by omega, by go_num, HN.out.drewN _⟩, by simp [intOf]; omega⟩
            · obtain rfl : i = T.l.length := by omega
              obtain ⟨z0, z1, z2⟩ := hN.cb
              have hst : Hid (St w wr []) := Lib.hid ⟨hN.bl, trivial⟩
              clear hN hlt
              go_wp2_with (go_at_call 18; (with_reducible refine (use_works hst).mono ?_); rintro e wi ⟨rfl, hst⟩)
              go_ret
              exact ⟨rfl, hst.out.1⟩
    · go_enter Try.func5, Try.ntmps5
      go_wp2_with (first
        | (go_at_call 15; (with_reducible refine (use_rSizeT hst hst.out.tail.head HT.out).mono ?_); rintro e wi ⟨rfl, hst⟩; obtain ⟨⟨y0, y1, y2⟩, ⟨x0, x1, x2⟩, _⟩ := hst.out.cells)
        | (go_at_call 15; (with_reducible refine (use_rSizeT hst hst.out.head HU.out).mono ?_); rintro e wi ⟨rfl, hst⟩; obtain ⟨⟨y0, y1, y2⟩, ⟨x0, x1, x2⟩, _⟩ := hst.out.cells)
        | (go_at_call 18; (with_reducible refine (use_works hst).mono ?_); rintro e wi ⟨rfl, hst⟩))
      go_ret
      exact ⟨rfl, hst.out.1⟩
  · go_enter Try.func5, Try.ntmps5
    go_wp2_with (first
      | (go_at_call 15; (with_reducible refine (use_rSizeT hst hst.out.tail.head HT.out).mono ?_); rintro e wi ⟨rfl, hst⟩; obtain ⟨⟨y0, y1, y2⟩, ⟨x0, x1, x2⟩, _⟩ := hst.out.cells)
      | (go_at_call 18; (with_reducible refine (use_works hst).mono ?_); rintro e wi ⟨rfl, hst⟩))
    go_ret
    exact ⟨rfl, hst.out.1⟩
end Go.Proofs.Ythfmbeecpjeegaa
