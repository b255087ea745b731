/- num; the document's own comparison of two values. -/
import Derived.Test.YtmfcecfcfihgaaaKc
import Derived.Deep.RegionWith
namespace Go.Proofs.Ytmfcecfcfihgaaa
open Go.RowKit Go.Shelf
attribute [local go_sem] Oper.semAt_some

set_option maxRecDepth 100000 in
theorem num_ok (n : Int) (w : World) : Calls Try.prog 63 #[.int .i64 n] w fun e w' => e = .returned (.int .i64 n) ∧ w' = w := by
  go_enter Try.func63, Try.ntmps63
  go_wp2_with fail
  go_ret
  exact ⟨rfl, rfl⟩

theorem TF.below {w W W' : World} {x0 y0 z0 x1 y1 z1 : Value} (h : TF w x0 y0 z0 x1 y1 z1 W) (hb : Below W.heap.size W W') : TF w x0 y0 z0 x1 y1 z1 W' := (h.h.out.below hb).facts

set_option maxRecDepth 100000 in
set_option maxHeartbeats 3200000 in
theorem rsame_ok (hi : Nat) (x : V) : Equals 85 hi x := by
  induction x using V.ind with
  | h k n l ih =>
    intro y u v w hu hv hh
    obtain ⟨yk, yn, yl⟩ := y
    obtain ⟨A, c, rfl, hc1, hc2, hl⟩ := hu.val
    obtain ⟨A', c', rfl, hd1, hd2, hm⟩ := hv.val
    unfold maxLen at hc2 hd2
    have hl' : Ls w 0 hi (.slice A l.length c) l := hl
    have hm' : Ls w 0 hi (.slice A' yl.length c') yl := hm
    have hT := (TB.new w (.int .i64 k) (.int .i64 n) (.slice A l.length c) (.int .i64 yk) (.int .i64 yn) (.slice A' yl.length c')).facts
    rw [V.same_parts]
    simp only [V.k, V.n, V.l] at hc1 hc2 hd1 hd2 ⊢
    clear hu hv hl hm
    by_cases hk : k = yk
    · by_cases hn : n = yn
      · by_cases hlen : l.length = yl.length
        · subst hk hn
          have hlI : (l.length : Int) = (yl.length : Int) := by omega
          rw [hlen] at hc1 hl' hT ⊢
          have e1 : ((k == k) && ((n == n) && V.sameL l yl)) = V.sameL l yl := by simp
          rw [e1]
          have HT := Lib.hid hT
          clear e1 hT
          have hkb : (k != k) = false := by simp
          have hnb : (n != n) = false := by simp
          have hlb : ((yl.length : Int) != (yl.length : Int)) = false := by simp
          go_enter Try.func85, Try.ntmps85
          go_wp2_with fail
          go_loopw [5] (fun p wr => ∃ j : Nat, j ≤ yl.length ∧ p = .int .i64 (j : Int) ∧ TF w (.int .i64 k) (.int .i64 n) (.slice A yl.length c) (.int .i64 k) (.int .i64 n) (.slice A' yl.length c') wr ∧ SameTo l yl j) (fun p _ => yl.length - (intOf p).toNat)
          case atStart => exact ⟨0, Nat.zero_le _, rfl, HT.out, by intro i x y hi; omega⟩
          case round =>
            obtain ⟨j, hj, rfl, ⟨a0, a1, a2, b0, b1, b2, lt, hB⟩, hN⟩ := hrel
            have hj0 : (0 : Int) ≤ (j : Int) := by omega
            by_cases hlt : j < yl.length
            · have hltI : (j : Int) < (yl.length : Int) := by omega
              obtain ⟨x, hx⟩ : ∃ x, l[j]? = some x := ⟨_, List.getElem?_eq_getElem (by omega)⟩
              obtain ⟨y, hy⟩ : ∃ y, yl[j]? = some y := ⟨_, List.getElem?_eq_getElem hlt⟩
              have hB' := hB.out.bl.mono hh
              rw [← hlen] at hl'
              obtain ⟨b, o, sx, rfl, hb, hbh, _, q0, q1, q2, hix⟩ := (hl'.after hB').at_ hx
              obtain ⟨b', o', sy, rfl, hb', hbh', _, r0, r1, r2, hiy⟩ := (hm'.after hB').at_ hy
              obtain ⟨X, cx, rfl, _, _, _⟩ := hix.slice
              obtain ⟨Y, cy, rfl, _, _, _⟩ := hiy.slice
              have hcall : Calls Try.prog 85 #[.agg #[.int .i64 x.k, .int .i64 x.n, .slice X x.l.length cx], .agg #[.int .i64 y.k, .int .i64 y.n, .slice Y y.l.length cy]] wr.drew
                  fun e w' => e = .returned (.bool (V.same x y)) ∧ TF w (.int .i64 k) (.int .i64 n) (.slice (some ⟨b, o, none⟩) yl.length c) (.int .i64 k) (.int .i64 n) (.slice (some ⟨b', o', none⟩) yl.length c') w' := by
                have h2 : Below wr.heap.size wr wr.drew := (Below.refl _ wr).drew
                have h3 := h2.mono (Nat.le_trans hh hB.out.bl.size)
                exact (ih x (List.mem_of_getElem? hx) y _ _ wr.drew (hix.after h3) (hiy.after h3) (Nat.le_trans hh (Nat.le_trans hB.out.bl.size h2.size))).mono fun e w' q => ⟨q.1, ((hB.out.below h2).below q.2).facts⟩
              have HN := Lib.hid hN
              have HX := Lib.hid hx
              have HY := Lib.hid hy
              have hlenN : l.length = yl.length := hlen
              have HL := Lib.hid hlenN
              have HI := Lib.hid hcall
              clear hN hx hy hl' hm' hix hiy hB' ih hlen hlI hlenN hcall
              cases he : V.same x y
              · rw [he] at HI
                have HE := Lib.hid he
                clear he
                go_wp2_with fail
                go_region_with (go_at_call 85; with_reducible refine HI.out.mono ?_; rintro e w' ⟨rfl, ⟨c0, c1, c2, d0, d1, d2, lt2, hB2⟩⟩)
                all_goals
                  go_wp2_with fail
                  go_ret
                  exact ⟨by rw [sameL_bad HX.out HY.out HE.out]; rfl, hB2.out.bl⟩
              · rw [he] at HI
                have HE := Lib.hid he
                clear he
                go_wp2_with fail
                go_region_with (go_at_call 85; with_reducible refine HI.out.mono ?_; rintro e w' ⟨rfl, ⟨c0, c1, c2, d0, d1, d2, lt2, hB2⟩⟩)
                all_goals
                  go_wp2_with fail
                  exact ⟨⟨j + 1, by omega, by go_num, hB2.out.facts, sameTo_next HN.out HX.out HY.out HE.out⟩, by simp [intOf]; omega⟩
            · have hltI : ¬ (j : Int) < (yl.length : Int) := by omega
              have hE : V.sameL l yl = true := sameL_all hlen (fun i x y hx hy => hN i x y (by have := (List.getElem?_eq_some_iff.1 hy).1; omega) hx hy)
              have HE := Lib.hid hE
              clear hE hN hl' hm' ih hlI hlen
              go_wp2_with fail
              go_ret
              exact ⟨by rw [HE.out]; rfl, hB.out.bl⟩
        · have hlI : ((l.length : Int) != (yl.length : Int)) = true := by simp; omega
          rw [sameL_len hlen]
          subst hk hn
          have hkb : (k != k) = false := by simp
          have hnb : (n != n) = false := by simp
          simp only [Bool.and_false]
          clear hl' hm' ih hlen hT
          go_enter Try.func85, Try.ntmps85
          go_wp2_with fail
          go_ret
          exact ⟨rfl, below2 w _ _⟩
      · subst hk
        have h2 : (n == yn) = false := by simp [hn]
        have h3 : (n != yn) = true := by simp [hn]
        have hkb : (k != k) = false := by simp
        rw [h2]
        simp only [Bool.and_false, Bool.false_and]
        clear hl' hm' ih hT hn
        go_enter Try.func85, Try.ntmps85
        go_wp2_with fail
        go_ret
        exact ⟨rfl, below2 w _ _⟩
    · have h1 : (k == yk) = false := by simp [hk]
      have h3 : (k != yk) = true := by simp [hk]
      rw [h1]
      simp only [Bool.false_and]
      clear hl' hm' ih hT hk
      go_enter Try.func85, Try.ntmps85
      go_wp2_with fail
      go_ret
      exact ⟨rfl, below2 w _ _⟩
end Go.Proofs.Ytmfcecfcfihgaaa
