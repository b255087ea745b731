/- ValReckons' walk. -/
import Derived.Test.YthfmbeecpjeegaaUf
namespace Go.Proofs.Ythfmbeecpjeegaa
open Go.RowKit Go.Shelf
attribute [local go_sem] Oper.semAt_some


set_option maxRecDepth 100000 in
set_option maxHeartbeats 12800000 in
theorem reckons_walk (T U : V) (u v : Value) (w : World) (h : In w 0 w.heap.size u T) (h' : In w 0 w.heap.size v U) (hT : T.size ≤ 1000000000000) (hU : U.size ≤ 1000000000000) :
    Calls Try.prog 9 #[u, v] w fun e w' => e = .returned (.bool true) ∧ Below w.heap.size w w' := by
  obtain ⟨S, c, rfl, _, _, _⟩ := h.val
  obtain ⟨S', c', rfl, _, _, _⟩ := h'.val
  have hst := Lib.hid (St.start2 h h')
  have HT := Lib.hid hT
  have HU := Lib.hid hU
  clear h h' hT hU
  obtain ⟨X1, e1, he1⟩ : ∃ X e, numV T U (.mk 2 (wrap64 (T.n + U.n)) []) = (X, e) := ⟨_, _, rfl⟩
  obtain ⟨X2, e2, he2⟩ : ∃ X e, numV T U (.mk 2 (wrap64 (T.n - U.n)) []) = (X, e) := ⟨_, _, rfl⟩
  obtain ⟨X3, e3, he3⟩ : ∃ X e, eqV T U = (X, e) := ⟨_, _, rfl⟩
  obtain ⟨X4, e4, he4⟩ : ∃ X e, numV T U (.mk 2 (yesV (decide (T.n < U.n))) []) = (X, e) := ⟨_, _, rfl⟩
  obtain ⟨X5, e5, he5⟩ : ∃ X e, halfV 0 T = (X, e) := ⟨_, _, rfl⟩
  obtain ⟨X6, e6, he6⟩ : ∃ X e, halfV 1 T = (X, e) := ⟨_, _, rfl⟩
  obtain ⟨tb, te, hbv⟩ : ∃ tb te, Value.tuple #[.bool (truthB T), .int .i64 (truthErr T)] = .tuple #[.bool tb, .int .i64 te] := ⟨_, _, rfl⟩
  have hs1 := Lib.hid (numV_size he1)
  have hs2 := Lib.hid (numV_size he2)
  have hs3 := Lib.hid (eqV_size he3)
  have hs4 := Lib.hid (numV_size he4)
  rcases sz_cases T with ⟨hT1, hT2⟩ | ⟨_, hT2⟩
  · rcases sz_cases U with ⟨_, hU2⟩ | ⟨_, hU2⟩
    · have hs5 := Lib.hid (halfV_size hT1 he5)
      have hs6 := Lib.hid (halfV_size hT1 he6)
      have he1 := Lib.hid he1
      have he2 := Lib.hid he2
      have he3 := Lib.hid he3
      have he4 := Lib.hid he4
      have he5 := Lib.hid he5
      have he6 := Lib.hid he6
      have HB := Lib.hid hbv
      clear hbv
      go_enter Try.func9, Try.ntmps9
      go_wp2_with (first | (go_at_call 15; (with_reducible refine (use_rSizeT hst hst.out.tail.head HT.out).mono ?_); rintro e wi ⟨rfl, hst⟩; obtain ⟨⟨y0, y1, y2⟩, ⟨x0, x1, x2⟩, _⟩ := hst.out.cells) | (go_at_call 15; (with_reducible refine (use_rSizeT hst hst.out.head HU.out).mono ?_); rintro e wi ⟨rfl, hst⟩; obtain ⟨⟨y0, y1, y2⟩, ⟨x0, x1, x2⟩, _⟩ := hst.out.cells) | (go_at_call 41; (with_reducible refine (use_AddT he1.out hst hst.out.tail.head hst.out.head).mono ?_); rintro e wA ⟨SA, cA, rfl, hst⟩; obtain ⟨_, ⟨y0, y1, y2⟩, ⟨x0, x1, x2⟩, _⟩ := hst.out.cells) | (go_at_call 42; (with_reducible refine (use_SubT he2.out hst hst.out.tail.tail.head hst.out.tail.head).mono ?_); rintro e wB ⟨SB, cB, rfl, hst⟩; obtain ⟨_, _, ⟨y0, y1, y2⟩, ⟨x0, x1, x2⟩, _⟩ := hst.out.cells) | (go_at_call 43; (with_reducible refine (use_EqT he3.out hst hst.out.tail.tail.tail.head hst.out.tail.tail.head).mono ?_); rintro e wC ⟨SC, cC, rfl, hst⟩; obtain ⟨_, _, _, ⟨y0, y1, y2⟩, ⟨x0, x1, x2⟩, _⟩ := hst.out.cells) | (go_at_call 44; (with_reducible refine (use_LessT he4.out hst hst.out.tail.tail.tail.tail.head hst.out.tail.tail.tail.head).mono ?_); rintro e wD ⟨SD, cD, rfl, hst⟩; obtain ⟨_, _, _, _, ⟨y0, y1, y2⟩, ⟨x0, x1, x2⟩, _⟩ := hst.out.cells) | (go_at_call 45; (with_reducible refine (use_FirstT he5.out hst hst.out.tail.tail.tail.tail.tail.head).mono ?_); rintro e wE ⟨SE, cE, rfl, hst⟩; obtain ⟨_, _, _, _, _, ⟨y0, y1, y2⟩, ⟨x0, x1, x2⟩, _⟩ := hst.out.cells) | (go_at_call 46; (with_reducible refine (use_SecondT he6.out hst hst.out.tail.tail.tail.tail.tail.tail.head).mono ?_); rintro e wF ⟨SF, cF, rfl, hst⟩; obtain ⟨_, _, _, _, _, _, ⟨y0, y1, y2⟩, ⟨x0, x1, x2⟩, _⟩ := hst.out.cells) | (go_at_call 47; (with_reducible refine (use_TruthT hst hst.out.tail.tail.tail.tail.tail.tail.tail.head).mono ?_); rw [HB.out]; rintro e wi ⟨rfl, hst⟩; obtain ⟨_, _, _, _, _, _, ⟨y0, y1, y2⟩, ⟨x0, x1, x2⟩, _⟩ := hst.out.cells) | (go_at_call 48; (with_reducible refine (use_rAdd he1.out hst hst.out.tail.tail.tail.tail.tail.tail.tail.head hst.out.tail.tail.tail.tail.tail.tail.head HT.out HU.out).mono ?_); rintro e wG ⟨SG, cG, rfl, hst⟩; obtain ⟨_, _, _, _, _, _, _, ⟨y0, y1, y2⟩, ⟨x0, x1, x2⟩, _⟩ := hst.out.cells) | (go_at_call 49; (with_reducible refine (use_rSub he2.out hst hst.out.tail.tail.tail.tail.tail.tail.tail.tail.head hst.out.tail.tail.tail.tail.tail.tail.tail.head HT.out HU.out).mono ?_); rintro e wH ⟨SH, cH, rfl, hst⟩; obtain ⟨_, _, _, _, _, _, _, _, ⟨y0, y1, y2⟩, ⟨x0, x1, x2⟩, _⟩ := hst.out.cells) | (go_at_call 50; (with_reducible refine (use_rEq he3.out hst hst.out.tail.tail.tail.tail.tail.tail.tail.tail.tail.head hst.out.tail.tail.tail.tail.tail.tail.tail.tail.head HT.out HU.out).mono ?_); rintro e wI ⟨SI, cI, rfl, hst⟩; obtain ⟨_, _, _, _, _, _, _, _, _, ⟨y0, y1, y2⟩, ⟨x0, x1, x2⟩, _⟩ := hst.out.cells) | (go_at_call 51; (with_reducible refine (use_rLess he4.out hst hst.out.tail.tail.tail.tail.tail.tail.tail.tail.tail.tail.head hst.out.tail.tail.tail.tail.tail.tail.tail.tail.tail.head HT.out HU.out).mono ?_); rintro e wJ ⟨SJ, cJ, rfl, hst⟩; obtain ⟨_, _, _, _, _, _, _, _, _, _, ⟨y0, y1, y2⟩, ⟨x0, x1, x2⟩, _⟩ := hst.out.cells) | (go_at_call 52; (with_reducible refine (use_rFirst he5.out hst hst.out.tail.tail.tail.tail.tail.tail.tail.tail.tail.tail.tail.head HT.out).mono ?_); rintro e wK ⟨SK, cK, rfl, hst⟩; obtain ⟨_, _, _, _, _, _, _, _, _, _, _, ⟨y0, y1, y2⟩, ⟨x0, x1, x2⟩, _⟩ := hst.out.cells) | (go_at_call 53; (with_reducible refine (use_rSecond he6.out hst hst.out.tail.tail.tail.tail.tail.tail.tail.tail.tail.tail.tail.tail.head HT.out).mono ?_); rintro e wL ⟨SL, cL, rfl, hst⟩; obtain ⟨_, _, _, _, _, _, _, _, _, _, _, _, ⟨y0, y1, y2⟩, ⟨x0, x1, x2⟩, _⟩ := hst.out.cells) | (go_at_call 54; (with_reducible refine (use_rTruth hst hst.out.tail.tail.tail.tail.tail.tail.tail.tail.tail.tail.tail.tail.tail.head HT.out).mono ?_); rw [HB.out]; rintro e wi ⟨rfl, hst⟩; obtain ⟨⟨l0, l1, l2⟩, ⟨k0, k1, k2⟩, ⟨j0, j1, j2⟩, ⟨i0, i1, i2⟩, ⟨h0, h1, h2⟩, ⟨g0, g1, g2⟩, ⟨f0, f1, f2⟩, ⟨e0, e1, e2⟩, ⟨d0, d1, d2⟩, ⟨c0, c1, c2⟩, ⟨b0, b1, b2⟩, ⟨a0, a1, a2⟩, _⟩ := hst.out.cells) | (go_at_call 21; (with_reducible refine (use_rSelf hst hst.out.tail.tail.tail.tail.tail.tail.tail.tail.tail.tail.tail.head hst.out.tail.tail.tail.tail.tail.head hs1.out).mono ?_); rintro e wi ⟨rfl, hst⟩; obtain ⟨⟨l0, l1, l2⟩, ⟨k0, k1, k2⟩, ⟨j0, j1, j2⟩, ⟨i0, i1, i2⟩, ⟨h0, h1, h2⟩, ⟨g0, g1, g2⟩, ⟨f0, f1, f2⟩, ⟨e0, e1, e2⟩, ⟨d0, d1, d2⟩, ⟨c0, c1, c2⟩, ⟨b0, b1, b2⟩, ⟨a0, a1, a2⟩, _⟩ := hst.out.cells) | (go_at_call 21; (with_reducible refine (use_rSelf hst hst.out.tail.tail.tail.tail.tail.tail.tail.tail.tail.tail.head hst.out.tail.tail.tail.tail.head hs2.out).mono ?_); rintro e wi ⟨rfl, hst⟩; obtain ⟨⟨l0, l1, l2⟩, ⟨k0, k1, k2⟩, ⟨j0, j1, j2⟩, ⟨i0, i1, i2⟩, ⟨h0, h1, h2⟩, ⟨g0, g1, g2⟩, ⟨f0, f1, f2⟩, ⟨e0, e1, e2⟩, ⟨d0, d1, d2⟩, ⟨c0, c1, c2⟩, ⟨b0, b1, b2⟩, ⟨a0, a1, a2⟩, _⟩ := hst.out.cells) | (go_at_call 21; (with_reducible refine (use_rSelf hst hst.out.tail.tail.tail.tail.tail.tail.tail.tail.tail.head hst.out.tail.tail.tail.head hs3.out).mono ?_); rintro e wi ⟨rfl, hst⟩; obtain ⟨⟨l0, l1, l2⟩, ⟨k0, k1, k2⟩, ⟨j0, j1, j2⟩, ⟨i0, i1, i2⟩, ⟨h0, h1, h2⟩, ⟨g0, g1, g2⟩, ⟨f0, f1, f2⟩, ⟨e0, e1, e2⟩, ⟨d0, d1, d2⟩, ⟨c0, c1, c2⟩, ⟨b0, b1, b2⟩, ⟨a0, a1, a2⟩, _⟩ := hst.out.cells) | (go_at_call 21; (with_reducible refine (use_rSelf hst hst.out.tail.tail.tail.tail.tail.tail.tail.tail.head hst.out.tail.tail.head hs4.out).mono ?_); rintro e wi ⟨rfl, hst⟩; obtain ⟨⟨l0, l1, l2⟩, ⟨k0, k1, k2⟩, ⟨j0, j1, j2⟩, ⟨i0, i1, i2⟩, ⟨h0, h1, h2⟩, ⟨g0, g1, g2⟩, ⟨f0, f1, f2⟩, ⟨e0, e1, e2⟩, ⟨d0, d1, d2⟩, ⟨c0, c1, c2⟩, ⟨b0, b1, b2⟩, ⟨a0, a1, a2⟩, _⟩ := hst.out.cells) | (go_at_call 21; (with_reducible refine (use_rSelf hst hst.out.tail.tail.tail.tail.tail.tail.tail.head hst.out.tail.head hs5.out).mono ?_); rintro e wi ⟨rfl, hst⟩; obtain ⟨⟨l0, l1, l2⟩, ⟨k0, k1, k2⟩, ⟨j0, j1, j2⟩, ⟨i0, i1, i2⟩, ⟨h0, h1, h2⟩, ⟨g0, g1, g2⟩, ⟨f0, f1, f2⟩, ⟨e0, e1, e2⟩, ⟨d0, d1, d2⟩, ⟨c0, c1, c2⟩, ⟨b0, b1, b2⟩, ⟨a0, a1, a2⟩, _⟩ := hst.out.cells) | (go_at_call 21; (with_reducible refine (use_rSelf hst hst.out.tail.tail.tail.tail.tail.tail.head hst.out.head hs6.out).mono ?_); rintro e wi ⟨rfl, hst⟩; obtain ⟨⟨l0, l1, l2⟩, ⟨k0, k1, k2⟩, ⟨j0, j1, j2⟩, ⟨i0, i1, i2⟩, ⟨h0, h1, h2⟩, ⟨g0, g1, g2⟩, ⟨f0, f1, f2⟩, ⟨e0, e1, e2⟩, ⟨d0, d1, d2⟩, ⟨c0, c1, c2⟩, ⟨b0, b1, b2⟩, ⟨a0, a1, a2⟩, _⟩ := hst.out.cells) | (go_at_call 12; (with_reducible refine (use_num _ hst).mono ?_); rintro e wi ⟨rfl, hst⟩; obtain ⟨⟨l0, l1, l2⟩, ⟨k0, k1, k2⟩, ⟨j0, j1, j2⟩, ⟨i0, i1, i2⟩, ⟨h0, h1, h2⟩, ⟨g0, g1, g2⟩, ⟨f0, f1, f2⟩, ⟨e0, e1, e2⟩, ⟨d0, d1, d2⟩, ⟨c0, c1, c2⟩, ⟨b0, b1, b2⟩, ⟨a0, a1, a2⟩, _⟩ := hst.out.cells) | (go_at_call 18; (with_reducible refine (use_works hst).mono ?_); rintro e wi ⟨rfl, hst⟩))
      go_ret
      exact ⟨rfl, hst.out.1⟩
    · clear he1 he2 he3 he4 he5 he6 hbv
      go_enter Try.func9, Try.ntmps9
      go_wp2_with (first | (go_at_call 15; (with_reducible refine (use_rSizeT hst hst.out.tail.head HT.out).mono ?_); rintro e wi ⟨rfl, hst⟩; obtain ⟨⟨y0, y1, y2⟩, ⟨x0, x1, x2⟩, _⟩ := hst.out.cells) | (go_at_call 15; (with_reducible refine (use_rSizeT hst hst.out.head HU.out).mono ?_); rintro e wi ⟨rfl, hst⟩; obtain ⟨⟨y0, y1, y2⟩, ⟨x0, x1, x2⟩, _⟩ := hst.out.cells) | (go_at_call 18; (with_reducible refine (use_works hst).mono ?_); rintro e wi ⟨rfl, hst⟩))
      go_ret
      exact ⟨rfl, hst.out.1⟩
  · clear he1 he2 he3 he4 he5 he6 hbv
    go_enter Try.func9, Try.ntmps9
    go_wp2_with (first | (go_at_call 15; (with_reducible refine (use_rSizeT hst hst.out.tail.head HT.out).mono ?_); rintro e wi ⟨rfl, hst⟩; obtain ⟨⟨y0, y1, y2⟩, ⟨x0, x1, x2⟩, _⟩ := hst.out.cells) | (go_at_call 18; (with_reducible refine (use_works hst).mono ?_); rintro e wi ⟨rfl, hst⟩))
    go_ret
    exact ⟨rfl, hst.out.1⟩
end Go.Proofs.Ythfmbeecpjeegaa
