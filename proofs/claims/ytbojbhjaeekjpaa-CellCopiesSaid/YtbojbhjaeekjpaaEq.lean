/- slices.Equal over rows of numbers. -/
import Derived.Test.YtbojbhjaeekjpaaW
namespace Go.Proofs.Ytbojbhjaeekjpaa
open Go.RowKit
attribute [local go_sem] Oper.semAt_some

set_option maxRecDepth 100000 in
set_option maxHeartbeats 1600000 in
theorem equal_ok {v u : Value} {xs ys : List Int} (w : World) (h : Row w 38 1 v xs.length (xs.map (Value.int .u64))) (k : Row w 38 1 u ys.length (ys.map (Value.int .u64))) :
    Calls Try.prog 39 #[v, u] w fun e w' => e = .returned (.bool (decide (xs = ys))) ∧ ∃ n, w' = w.drewN n := by
  obtain ⟨A, c, rfl, hc1, hc2⟩ := h.form
  obtain ⟨B, d, rfl, hd1, hd2⟩ := k.form
  unfold maxLen at hc2 hd2
  by_cases hn : xs.length = ys.length
  · have hnI : ((xs.length : Int) != (ys.length : Int)) = false := by simp [hn]
    have hnH := Lib.hid hn
    clear hn
    go_enter Try.func39, Try.ntmps39
    go_wp2_with fail
    go_loopw [13] (fun i wr => ∃ (q n : Nat), q ≤ xs.length ∧ i = .int .i64 (q : Int) ∧ wr = w.drewN n ∧ xs.take q = ys.take q) (fun i _ => xs.length - (intOf i).toNat)
    case atStart => exact ⟨0, 0, Nat.zero_le _, rfl, rfl, by simp⟩
    case round =>
      obtain ⟨q, n, hq, rfl, rfl, htk⟩ := hrel
      by_cases hlt : q < xs.length
      · have hltI : (q : Int) < (xs.length : Int) := by omega
        have hltJ : (q : Int) < (ys.length : Int) := by have := hnH.out; omega
        have hq0 : (0 : Int) ≤ (q : Int) := by omega
        obtain ⟨g, c1, cu1, hv, _⟩ := h.addr (by omega)
        simp only [Value.slice.injEq, true_and] at hv
        obtain ⟨rfl, rfl⟩ := hv
        obtain ⟨g', c2, cu2, hv, _⟩ := k.addr (by omega)
        simp only [Value.slice.injEq, true_and] at hv
        obtain ⟨rfl, rfl⟩ := hv
        have e1 := (h.cells rfl q (by omega)).1
        have e2 := (k.cells rfl q (by omega)).1
        obtain ⟨a, hav⟩ : ∃ a, xs[q]? = some a := ⟨_, List.getElem?_eq_getElem hlt⟩
        obtain ⟨b, hbv⟩ : ∃ b, ys[q]? = some b := ⟨_, List.getElem?_eq_getElem (by have := hnH.out; omega)⟩
        rw [List.getElem?_map, hav] at e1
        rw [List.getElem?_map, hbv] at e2
        simp only [Option.map_some] at e1 e2
        by_cases hab : a = b
        · have hN : xs.take (q + 1) = ys.take (q + 1) := by rw [List.take_add_one, List.take_add_one, htk, hav, hbv, hab]
          have hne : (a != b) = false := by simp [hab]
          clear hab hav hbv htk
          go_wp2_with fail
          go_quiet (fail)
          go_wp2_with fail
          exact ⟨⟨q + 1, n + nq, by omega, by simp, by simp, hN⟩, by simp [intOf]; omega⟩
        · have hF : decide (xs = ys) = false := by
            simp
            intro e
            rw [e, hbv] at hav
            exact hab (by injection hav with h; exact h.symm)
          have hne : (a != b) = true := by simp [hab]
          clear hab hav hbv htk
          go_wp2_with fail
          go_quiet (fail)
          go_wp2_with fail
          exact bodyPost_ret (v := .bool false) (by simp [results, Try.results39, go_sem]) rfl ⟨by first | rfl | rw [hF], n + nq, by simp⟩
      · have hltI : ¬ (q : Int) < (xs.length : Int) := by omega
        have hF : decide (xs = ys) = true := by
          simp
          have := hnH.out
          rwa [List.take_of_length_le (by omega), List.take_of_length_le (by omega)] at htk
        clear htk
        go_wp2_with fail
        exact bodyPost_ret (v := .bool true) (by simp [results, Try.results39, go_sem]) rfl ⟨by first | rfl | rw [hF], n, rfl⟩
  · have hnI : ((xs.length : Int) != (ys.length : Int)) = true := by simp; omega
    have hF : decide (xs = ys) = false := by simp; intro e; exact hn (by rw [e])
    clear hn
    go_enter Try.func39, Try.ntmps39
    go_wp2_with fail
    exact bodyPost_ret (v := .bool false) (by simp [results, Try.results39, go_sem]) rfl ⟨by first | rfl | rw [hF], 0, rfl⟩
end Go.Proofs.Ytbojbhjaeekjpaa
