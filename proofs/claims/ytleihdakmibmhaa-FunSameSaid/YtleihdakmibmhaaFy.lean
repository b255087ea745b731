/- The document's Same. -/
import Derived.Test.YtleihdakmibmhaaFx
import Derived.Deep.CutRange
import Derived.Deep.Cut
namespace Go.Proofs.Ytleihdakmibmhaa
open Go.RowKit Go.Shelf
attribute [local go_sem] Oper.semAt_some

/-- What the document's Same keeps: its two boxes. -/
structure SM (w : World) (A B : Fd) (v1 v2 : Value) (W : World) : Prop where
  bl : Below w.heap.size w W
  a : Blk W w.heap.size 24 #[.int .i64 A.p, v1]
  b : Blk W (w.heap.size + 1) 24 #[.int .i64 B.p, v2]
theorem SM.below {w W W' : World} {A B : Fd} {v1 v2 : Value} (h : SM w A B v1 v2 W) (hb : Below W.heap.size W W') : SM w A B v1 v2 W' := ⟨h.bl.trans (hb.mono h.bl.size), h.a.keep (hb.block _ h.a.lt), h.b.keep (hb.block _ h.b.lt)⟩
theorem SM.cells {w W : World} {A B : Fd} {v1 v2 : Value} (h : SM w A B v1 v2 W) : W.cell? ⟨w.heap.size, 1, none⟩ = some v1 ∧ W.cell? ⟨w.heap.size + 1, 1, none⟩ = some v2 ∧ w.heap.size < W.heap.size ∧ w.heap.size + 1 < W.heap.size :=
  ⟨by simpa using h.a.cell 1, by simpa using h.b.cell 1, h.a.lt, h.b.lt⟩

set_option maxRecDepth 100000 in
set_option maxHeartbeats 6400000 in
theorem rSame6_ok {hi : Nat} {v1 v2 : Value} {A B : Fd} (w : World) (h1 : FunI w 0 hi v1 A) (h2 : FunI w 0 hi v2 B) (hh : hi ≤ w.heap.size) :
    Calls Try.prog 24 #[v1, v2] w fun e w' => e = .returned (.bool (sameF A B)) ∧ Below w.heap.size w w' := by
  obtain ⟨u1, rfl, _, n1⟩ := h1
  obtain ⟨u2, rfl, _, n2⟩ := h2
  obtain ⟨A1, c1, rfl, k1, k2⟩ := n1.form
  obtain ⟨A2, c2, rfl, k3, k4⟩ := n2.form
  unfold maxLen at k2 k4
  have hb := below2' w (.cells #[.int .i64 A.p, .slice A1 A.ns.length c1] 24) (.cells #[.int .i64 B.p, .slice A2 B.ns.length c2] 24)
  by_cases ho : A.p = B.p
  · have eo : (A.p != B.p) = false := by simp [ho]
    by_cases hl : A.ns.length = B.ns.length
    · have el : ((A.ns.length : Int) != (A.ns.length : Int)) = false := by simp
      have hS : SM w A B (.slice A1 A.ns.length c1) (.slice A2 B.ns.length c2) ((w.alloc (.cells #[.int .i64 A.p, .slice A1 A.ns.length c1] 24)).alloc (.cells #[.int .i64 B.p, .slice A2 B.ns.length c2] 24)) := ⟨hb, (Blk.new _ _ _).alloc _, blkN (by simp) _ _⟩
      rw [← hl] at k3 n2 hS ⊢
      have HS := Lib.hid hS
      have N1 := Lib.hid n1
      have N2 := Lib.hid n2
      have HL := Lib.hid hl
      have HP := Lib.hid ho
      clear n1 n2 hS hb hl ho
      go_enter Try.func24, Try.ntmps24
      go_wp2_with fail
      go_loopw [5] (fun p wr => ∃ k : Nat, k ≤ A.ns.length ∧ p = .int .i64 (k : Int) ∧ Hid (SM w A B (.slice A1 A.ns.length c1) (.slice A2 A.ns.length c2) wr ∧ ∀ i, i < k → A.ns[i]? = B.ns[i]?)) (fun p _ => A.ns.length - (intOf p).toNat)
      case atStart => exact ⟨0, Nat.zero_le _, rfl, Lib.hid ⟨HS.out, fun i hi => by omega⟩⟩
      case round =>
        obtain ⟨k, hk, rfl, hR⟩ := hrel
        clear HS
        obtain ⟨a1, b1, la, lb⟩ := hR.out.1.cells
        have hk0 : (0 : Int) ≤ (k : Int) := by omega
        by_cases hlt : k < A.ns.length
        · have hltI : (k : Int) < (A.ns.length : Int) := by omega
          obtain ⟨x, hx⟩ : ∃ x, A.ns[k]? = some x := ⟨_, List.getElem?_eq_getElem hlt⟩
          obtain ⟨y, hy⟩ : ∃ y, B.ns[k]? = some y := ⟨_, List.getElem?_eq_getElem (by rw [← HL.out]; exact hlt)⟩
          obtain ⟨p1, o1, s1, rfl, _, hb1, d0, d1, d2, g1, _, _⟩ := N1.out.at_ hx
          obtain ⟨p2, o2, s2, rfl, _, hb2, e0, e1, e2, g2, _, _⟩ := N2.out.at_ hy
          obtain ⟨S1, q1, rfl, hq1, hq2⟩ := g1.form
          obtain ⟨S2, q2, rfl, hq3, hq4⟩ := g2.form
          unfold maxLen at hq2 hq4
          have hbl := hR.out.1.bl
          replace d0 := belC hbl d0
          replace d1 := belC hbl d1
          replace d2 := belC hbl d2
          replace e0 := belC hbl e0
          replace e1 := belC hbl e1
          replace e2 := belC hbl e2
          have lb1 := lt_of_cell d0
          have lb2 := lt_of_cell e0
          have G1 := Lib.hid g1
          have G2 := Lib.hid g2
          have HX := Lib.hid (And.intro hx hy)
          clear hx hy g1 g2 hbl
          go_upto_region 6 with fail
          go_cut [6, 7] from 30 to 39 (fun p q wx => ∃ g6 g7, p = .pointer (some ⟨g6, 0, none⟩) ∧ q = .pointer (some ⟨g7, 0, none⟩) ∧ Hid (Blk wx g6 47 #[.int .i64 x.op, .int .i64 x.n, .slice S1 x.l.length q1] ∧ Blk wx g7 47 #[.int .i64 y.op, .int .i64 y.n, .slice S2 y.l.length q2] ∧ SM w A B (.slice (some ⟨p1, o1, none⟩) A.ns.length c1) (.slice (some ⟨p2, o2, none⟩) A.ns.length c2) wx))
          case first =>
            go_region
            all_goals go_wp2_with fail
            all_goals go_meet
            all_goals
              have hsm := hR.out.1
              first
                | exact ⟨_, _, rfl, rfl, Lib.hid ⟨((Blk.new _ _ _).alloc _).drew, (blkN (by simp) _ _).drew, (hsm.below (below2' _ _ _)).below ((Below.refl _ _).drew)⟩⟩
                | exact ⟨_, _, rfl, rfl, Lib.hid ⟨(blkN (by simp) _ _).drew, ((Blk.new _ _ _).alloc _).drew, (hsm.below (below2' _ _ _)).below ((Below.refl _ _).drew)⟩⟩
          case rest =>
            obtain ⟨g6, g7, rfl, rfl, hQ⟩ := hcut
            clear a1 b1 la lb d0 d1 d2 e0 e1 e2 lb1 lb2
            obtain ⟨b6, b7, hsm⟩ := hQ.out
            obtain ⟨m0, m1, m2⟩ : wc.cell? ⟨g6, 0, none⟩ = some (.int .i64 x.op) ∧ wc.cell? ⟨g6, 1, none⟩ = some (.int .i64 x.n) ∧ wc.cell? ⟨g6, 2, none⟩ = some (.slice S1 x.l.length q1) := ⟨by simpa using b6.cell 0, by simpa using b6.cell 1, by simpa using b6.cell 2⟩
            obtain ⟨r0, r1, r2⟩ : wc.cell? ⟨g7, 0, none⟩ = some (.int .i64 y.op) ∧ wc.cell? ⟨g7, 1, none⟩ = some (.int .i64 y.n) ∧ wc.cell? ⟨g7, 2, none⟩ = some (.slice S2 y.l.length q2) := ⟨by simpa using b7.cell 0, by simpa using b7.cell 1, by simpa using b7.cell 2⟩
            have l6 := b6.lt
            have l7 := b7.lt
            have HBL := Lib.hid hsm.bl
            clear b6 b7 hsm
            have hbad : sameNd x y = false → sameF A B = false := fun h => by
              cases hq : sameF A B
              · rfl
              · have e := sameF_iff.1 hq
                have h3 := HX.out.1
                rw [e, HX.out.2] at h3
                have h4 := Option.some.inj h3
                rw [sameNd_iff.2 h4.symm] at h
                cases h
            have HBAD := Lib.hid hbad
            clear hbad
            by_cases eop : x.op = y.op
            · have f1 : (x.op != y.op) = false := by simp [eop]
              by_cases enn : x.n = y.n
              · have f2 : (x.n != y.n) = false := by simp [enn]
                by_cases ell : x.l.length = y.l.length
                · have f3 : ((x.l.length : Int) != (x.l.length : Int)) = false := by simp
                  have HE := Lib.hid (And.intro eop (And.intro enn ell))
                  have G2' : Hid (IntsI w 0 hi (.slice S2 x.l.length q2) y.l) := Lib.hid (by rw [ell]; exact G2.out)
                  rw [← ell] at r2 hq3
                  clear eop enn ell G2
                  have hQ' : Hid (Blk wc g6 47 #[.int .i64 x.op, .int .i64 x.n, .slice S1 x.l.length q1] ∧ Blk wc g7 47 #[.int .i64 y.op, .int .i64 y.n, .slice S2 x.l.length q2] ∧ SM w A B (.slice (some ⟨p1, o1, none⟩) A.ns.length c1) (.slice (some ⟨p2, o2, none⟩) A.ns.length c2) wc) := Lib.hid (by have := hQ.out; rw [← HE.out.2.2] at this; exact this)
                  clear hQ
                  go_wp2_with fail
                  clear m0 m1 m2 r0 r1 r2 l6 l7
                  go_loopw [8] (fun q wy => ∃ j : Nat, j ≤ x.l.length ∧ q = .int .i64 (j : Int) ∧ Hid ((Blk wy g6 47 #[.int .i64 x.op, .int .i64 x.n, .slice S1 x.l.length q1] ∧ Blk wy g7 47 #[.int .i64 y.op, .int .i64 y.n, .slice S2 x.l.length q2] ∧ SM w A B (.slice (some ⟨p1, o1, none⟩) A.ns.length c1) (.slice (some ⟨p2, o2, none⟩) A.ns.length c2) wy) ∧ ∀ i, i < j → x.l[i]? = y.l[i]?)) (fun q _ => x.l.length - (intOf q).toNat)
                  case atStart => exact ⟨0, Nat.zero_le _, rfl, Lib.hid ⟨hQ'.out, fun i hi => by omega⟩⟩
                  case round =>
                    obtain ⟨j, hj, rfl, hJ⟩ := hrel
                    clear hQ'
                    obtain ⟨⟨b6, b7, hsm⟩, hall⟩ := hJ.out
                    have m2 : wr.cell? ⟨g6, 2, none⟩ = some (.slice S1 x.l.length q1) := by simpa using b6.cell 2
                    have r2 : wr.cell? ⟨g7, 2, none⟩ = some (.slice S2 x.l.length q2) := by simpa using b7.cell 2
                    have l6 := b6.lt
                    have l7 := b7.lt
                    have hj0 : (0 : Int) ≤ (j : Int) := by omega
                    by_cases hjl : j < x.l.length
                    · have hjI : (j : Int) < (x.l.length : Int) := by omega
                      obtain ⟨a, ha⟩ : ∃ a, x.l[j]? = some a := ⟨_, List.getElem?_eq_getElem hjl⟩
                      obtain ⟨b, hb⟩ : ∃ b, y.l[j]? = some b := ⟨_, List.getElem?_eq_getElem (by rw [← HE.out.2.2]; exact hjl)⟩
                      obtain ⟨t1, u1, rfl, _, _, d1, _⟩ := (G1.out.below hsm.bl hh).at_ ha
                      obtain ⟨t2, u2, rfl, _, _, d2, _⟩ := (G2'.out.below hsm.bl hh).at_ hb
                      have ld1 := lt_of_cell d1
                      have ld2 := lt_of_cell d2
                      have hw1 : IntKind.i64.wrap ((j : Int) + 1) = (j : Int) + 1 := IntWalk.i64_in _ (by omega)
                      have HAB := Lib.hid (And.intro ha hb)
                      have HJ2 : Hid (∀ n, (Blk (wr.drewN n) g6 47 #[.int .i64 x.op, .int .i64 x.n, .slice (some ⟨t1, u1, none⟩) x.l.length q1] ∧ Blk (wr.drewN n) g7 47 #[.int .i64 y.op, .int .i64 y.n, .slice (some ⟨t2, u2, none⟩) x.l.length q2] ∧ SM w A B (.slice (some ⟨p1, o1, none⟩) A.ns.length c1) (.slice (some ⟨p2, o2, none⟩) A.ns.length c2) (wr.drewN n))) := Lib.hid fun n => ⟨b6.drewN n, b7.drewN n, hsm.below (Below.drewN' _ n)⟩
                      have HALL := Lib.hid hall
                      have HB2 := Lib.hid hsm.bl
                      clear ha hb b6 b7 hsm hall hJ
                      by_cases hab : a = b
                      · subst hab
                        have f4 : (a != a) = false := by simp
                        go_upto_region 12 with fail
                        go_quiet (fail)
                        go_wp2_with fail
                        go_roundw
                        case rel => exact ⟨j + 1, by omega, by go_num, Lib.hid ⟨HJ2.out _, fun i hi => by
                          rcases Nat.lt_succ_iff_lt_or_eq.1 hi with h | rfl
                          · exact HALL.out i h
                          · rw [HAB.out.1, HAB.out.2]⟩⟩
                        case measure => simp [intOf]; omega
                      · have f4 : (a != b) = true := by simp [hab]
                        have hne : sameNd x y = false := by
                          cases hq : sameNd x y
                          · rfl
                          · have e := sameNd_iff.1 hq
                            have h3 := HAB.out.1
                            rw [e, HAB.out.2] at h3
                            exact absurd (Option.some.inj h3).symm hab
                        have HF := Lib.hid (HBAD.out hne)
                        clear hne
                        go_upto_region 12 with fail
                        go_quiet (fail)
                        go_wp2_with fail
                        go_ret
                        exact ⟨by rw [HF.out]; rfl, HB2.out.trans (Below.drewN' _ _)⟩
                    · have hjI : ¬ (j : Int) < (x.l.length : Int) := by omega
                      have hxy : x = y := by
                        have hll : x.l = y.l := List.ext_getElem? fun i => by
                          by_cases hi : i < x.l.length
                          · exact hall i (by omega)
                          · rw [List.getElem?_eq_none (by omega), List.getElem?_eq_none (by have := HE.out.2.2; omega)]
                        obtain ⟨e1, e2, _⟩ := HE.out
                        cases x; cases y
                        simp only at e1 e2 hll
                        rw [e1, e2, hll]
                      have HXY := Lib.hid hxy
                      have hw1 : IntKind.i64.wrap ((k : Int) + 1) = (k : Int) + 1 := IntWalk.i64_in _ (by omega)
                      have HSM := Lib.hid hsm
                      clear b6 b7 hsm hall hJ hxy
                      go_wp2_with fail
                      go_roundw
                      case rel => exact ⟨k + 1, by omega, by go_num, Lib.hid ⟨HSM.out, fun i hi => by
                        rcases Nat.lt_succ_iff_lt_or_eq.1 hi with h | rfl
                        · exact hR.out.2 i h
                        · rw [HX.out.1, HX.out.2, HXY.out]⟩⟩
                      case measure => simp [intOf]; omega
                · have f3 : ((x.l.length : Int) != (y.l.length : Int)) = true := by simp; omega
                  have HF := Lib.hid (HBAD.out (by cases hq : sameNd x y with | false => rfl | true => exact absurd (by rw [sameNd_iff.1 hq]) ell))
                  clear ell eop enn
                  go_wp2_with fail
                  go_ret
                  exact ⟨by rw [HF.out]; rfl, HBL.out⟩
              · have f2 : (x.n != y.n) = true := by simp [enn]
                have HF := Lib.hid (HBAD.out (by cases hq : sameNd x y with | false => rfl | true => exact absurd (by rw [sameNd_iff.1 hq]) enn))
                clear eop enn
                go_wp2_with fail
                go_ret
                exact ⟨by rw [HF.out]; rfl, HBL.out⟩
            · have f1 : (x.op != y.op) = true := by simp [eop]
              have HF := Lib.hid (HBAD.out (by cases hq : sameNd x y with | false => rfl | true => exact absurd (by rw [sameNd_iff.1 hq]) eop))
              clear eop
              go_wp2_with fail
              go_ret
              exact ⟨by rw [HF.out]; rfl, HBL.out⟩
        · have hltI : ¬ (k : Int) < (A.ns.length : Int) := by omega
          have hE : sameF A B = true := by
            unfold sameF
            rw [decide_eq_true HP.out, Bool.true_and, sameNs_iff]
            exact List.ext_getElem? fun i => by
              by_cases hi : i < A.ns.length
              · exact hR.out.2 i (by omega)
              · rw [List.getElem?_eq_none (by omega), List.getElem?_eq_none (by have := HL.out; omega)]
          have HE := Lib.hid hE
          clear hE
          go_wp2_with fail
          go_ret
          exact ⟨by rw [HE.out]; rfl, hR.out.1.bl⟩
    · have el : ((A.ns.length : Int) != (B.ns.length : Int)) = true := by simp; omega
      have hE : sameF A B = false := by
        cases hq : sameF A B
        · rfl
        · exact absurd (by rw [sameF_iff.1 hq]) hl
      have HE := Lib.hid (And.intro hE hb)
      clear hE hl ho n1 n2 hb
      go_enter Try.func24, Try.ntmps24
      go_wp2_with fail
      go_ret
      exact ⟨by rw [HE.out.1]; rfl, HE.out.2⟩
  · have eo : (A.p != B.p) = true := by simp [ho]
    have hE : sameF A B = false := by
      cases hq : sameF A B
      · rfl
      · exact absurd (by rw [sameF_iff.1 hq]) ho
    have HE := Lib.hid (And.intro hE hb)
    clear hE ho n1 n2 hb
    go_enter Try.func24, Try.ntmps24
    go_wp2_with fail
    go_ret
    exact ⟨by rw [HE.out.1]; rfl, HE.out.2⟩
end Go.Proofs.Ytleihdakmibmhaa
