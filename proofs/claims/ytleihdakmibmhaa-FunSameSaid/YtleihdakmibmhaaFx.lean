/- EqualFunc, Same. -/
import Derived.Test.YtleihdakmibmhaaFw
namespace Go.Proofs.Ytleihdakmibmhaa
open Go.RowKit Go.Shelf
attribute [local go_sem] Oper.semAt_some store_nilFunc6 store_func6

set_option maxRecDepth 100000 in
set_option maxHeartbeats 1600000 in
theorem equalFunc_ok {hi : Nat} {u1 u2 : Value} {l1 l2 : List Nd} (w : World) (h1 : NodesI w 0 hi u1 l1) (h2 : NodesI w 0 hi u2 l2) (hh : hi ≤ w.heap.size) :
    Calls Try.prog 49 #[u1, u2, .func (.func 50) #[] #[]] w fun e w' => e = .returned (.bool (sameNs l1 l2)) ∧ Below w.heap.size w w' := by
  obtain ⟨A1, c1, rfl, k1, k2⟩ := h1.form
  obtain ⟨A2, c2, rfl, k3, k4⟩ := h2.form
  unfold maxLen at k2 k4
  by_cases hl : l1.length = l2.length
  · rw [← hl] at h2 k3 ⊢
    have hlI : ((l1.length : Int) != (l1.length : Int)) = false := by simp
    have H1 := Lib.hid h1
    have H2 := Lib.hid h2
    have HL := Lib.hid hl
    clear h1 h2 hl
    go_enter Try.func49, Try.ntmps49
    go_wp2_with fail
    go_loopw [17] (fun p wr => ∃ k : Nat, k ≤ l1.length ∧ p = .int .i64 (k : Int) ∧ Hid (Below w.heap.size w wr ∧ ∀ i, i < k → l1[i]? = l2[i]?)) (fun p _ => l1.length - (intOf p).toNat)
    case atStart => exact ⟨0, Nat.zero_le _, rfl, Lib.hid ⟨Below.refl _ _, fun i hi => by omega⟩⟩
    case round =>
      obtain ⟨k, hk, rfl, hR⟩ := hrel
      have hk0 : (0 : Int) ≤ (k : Int) := by omega
      by_cases hlt : k < l1.length
      · have hltI : (k : Int) < (l1.length : Int) := by omega
        obtain ⟨x, hx⟩ : ∃ x, l1[k]? = some x := ⟨_, List.getElem?_eq_getElem hlt⟩
        obtain ⟨y, hy⟩ : ∃ y, l2[k]? = some y := ⟨_, List.getElem?_eq_getElem (by rw [← HL.out]; exact hlt)⟩
        obtain ⟨b1, o1, s1, rfl, _, hb1, d0, d1, d2, g1, _, _⟩ := (H1.out.below hR.out.1 hh).at_ hx
        obtain ⟨b2, o2, s2, rfl, _, hb2, e0, e1, e2, g2, _, _⟩ := (H2.out.below hR.out.1 hh).at_ hy
        obtain ⟨S1, q1, rfl, _, _⟩ := g1.form
        obtain ⟨S2, q2, rfl, _, _⟩ := g2.form
        have lb1 := lt_of_cell d0
        have lb2 := lt_of_cell e0
        have hw1 : IntKind.i64.wrap ((k : Int) + 1) = (k : Int) + 1 := IntWalk.i64_in _ (by omega)
        have hB2 := below2' wr (.cells #[.int .i64 x.op, .int .i64 x.n, .slice S1 x.l.length q1] 47) (.cells #[.int .i64 y.op, .int .i64 y.n, .slice S2 y.l.length q2] 47)
        have hhr := Nat.le_trans hh hR.out.1.size
        have hal := (alike_ok _ (g1.below hB2 hhr) (g2.below hB2 hhr) (Nat.le_trans hhr hB2.size)).mono (R' := fun e w' => e = .returned (.bool (sameNd x y)) ∧ Hid (Below w.heap.size w w')) fun e w' q => ⟨q.1, Lib.hid (hR.out.1.trans ((hB2.trans (q.2.mono hB2.size)).mono hR.out.1.size))⟩
        have HA := Lib.hid hal
        have HX := Lib.hid (And.intro hx hy)
        clear hx hy hal hB2 g1 g2 hhr
        cases hxy : sameNd x y
        · rw [hxy] at HA
          have hE : sameNs l1 l2 = false := by
            cases hq : sameNs l1 l2
            · rfl
            · have h0 := sameNs_iff.1 hq
              have h3 := HX.out.1
              rw [h0, HX.out.2] at h3
              have h4 := Option.some.inj h3
              rw [sameNd_iff.2 h4.symm] at hxy
              cases hxy
          have HE := Lib.hid hE
          clear hE hxy
          go_wp2_with (go_at_call 50; (with_reducible refine HA.out.mono ?_); rintro e w' ⟨rfl, hB⟩)
          go_ret
          exact ⟨by rw [HE.out]; rfl, hB.out⟩
        · rw [hxy] at HA
          have HXY := Lib.hid (sameNd_iff.1 hxy)
          clear hxy
          go_wp2_with (go_at_call 50; (with_reducible refine HA.out.mono ?_); rintro e w' ⟨rfl, hB⟩)
          go_roundw
          case rel => exact ⟨k + 1, by omega, by go_num, Lib.hid ⟨hB.out, fun i hi => by
            rcases Nat.lt_succ_iff_lt_or_eq.1 hi with h | rfl
            · exact hR.out.2 i h
            · rw [HX.out.1, HX.out.2, HXY.out]⟩⟩
          case measure => simp [intOf]; omega
      · have hltI : ¬ (k : Int) < (l1.length : Int) := by omega
        have hE : sameNs l1 l2 = true := sameNs_iff.2 (List.ext_getElem? fun i => by
          by_cases hi : i < l1.length
          · exact hR.out.2 i (by omega)
          · rw [List.getElem?_eq_none (by omega), List.getElem?_eq_none (by have := HL.out; omega)])
        have HE := Lib.hid hE
        clear hE
        go_wp2_with fail
        go_ret
        exact ⟨by rw [HE.out]; rfl, hR.out.1⟩
  · have hlI : ((l1.length : Int) != (l2.length : Int)) = true := by simp; omega
    have hE : sameNs l1 l2 = false := by
      cases hq : sameNs l1 l2
      · rfl
      · exact absurd (by rw [sameNs_iff.1 hq]) hl
    rw [hE]
    clear hE h1 h2 hl
    go_enter Try.func49, Try.ntmps49
    go_wp2_with fail
    go_ret
    exact ⟨rfl, Below.refl _ _⟩
set_option maxRecDepth 100000 in
set_option maxHeartbeats 1600000 in
theorem same6_ok {hi : Nat} {v1 v2 : Value} {A B : Fd} (w : World) (h1 : FunI w 0 hi v1 A) (h2 : FunI w 0 hi v2 B) (hh : hi ≤ w.heap.size) :
    Calls Try.prog 25 #[v1, v2] w fun e w' => e = .returned (.bool (sameF A B)) ∧ Below w.heap.size w w' := by
  obtain ⟨u1, rfl, _, n1⟩ := h1
  obtain ⟨u2, rfl, _, n2⟩ := h2
  obtain ⟨A1, c1, rfl, _, _⟩ := n1.form
  obtain ⟨A2, c2, rfl, _, _⟩ := n2.form
  have hb := below2' w (.cells #[.int .i64 A.p, .slice A1 A.ns.length c1] 24) (.cells #[.int .i64 B.p, .slice A2 B.ns.length c2] 24)
  have hq := (equalFunc_ok _ (n1.below hb hh) (n2.below hb hh) (Nat.le_trans hh hb.size)).mono (R' := fun e w' => e = .returned (.bool (sameNs A.ns B.ns)) ∧ Hid (Below w.heap.size w w')) fun e w' q => ⟨q.1, Lib.hid (hb.trans (q.2.mono hb.size))⟩
  have HQ := Lib.hid hq
  have HB := Lib.hid hb
  clear hq hb n1 n2
  unfold sameF
  by_cases ho : A.p = B.p
  · have eo : (A.p == B.p) = true := by simp [ho]
    have HE := Lib.hid (show (decide (A.p = B.p) && sameNs A.ns B.ns) = sameNs A.ns B.ns by simp [ho])
    clear ho
    go_enter Try.func25, Try.ntmps25
    go_wp2_with (go_at_call 49; (with_reducible refine HQ.out.mono ?_); rintro e w' ⟨rfl, hB⟩)
    go_ret
    exact ⟨by rw [HE.out]; rfl, hB.out⟩
  · have eo : (A.p == B.p) = false := by simp [ho]
    have HE := Lib.hid (show (decide (A.p = B.p) && sameNs A.ns B.ns) = false by simp [ho])
    clear ho
    go_enter Try.func25, Try.ntmps25
    go_wp2_with fail
    go_ret
    exact ⟨by rw [HE.out]; rfl, HB.out⟩
end Go.Proofs.Ytleihdakmibmhaa
