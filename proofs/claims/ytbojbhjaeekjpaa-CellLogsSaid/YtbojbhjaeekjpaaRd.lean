/- The document's own arena: Last, of a history that the log holds whole. -/
import Derived.Test.YtbojbhjaeekjpaaRb
namespace Go.Proofs.Ytbojbhjaeekjpaa
open Go.RowKit
attribute [local go_sem] Oper.semAt_some

set_option maxRecDepth 100000 in
set_option maxHeartbeats 1600000 in
theorem refLast {s : St} {v : Value} (w : World) (h : RefS w v s) (hh : s.hist.length ≤ 1024) : Calls Try.prog 30 #[v] w fun e w' =>
    ∃ vL, e = .returned (.tuple #[.int .i64 0, vL]) ∧ Row w' 52 5 vL s.hist.length (s.hist.flatMap Acc.cells) ∧ Below w.heap.size w w' := by
  obtain ⟨⟨vC, vL, rfl, hc, hl⟩, hs1, hs2⟩ := h
  obtain ⟨AC, cC, rfl, hcC, _⟩ := hc.form
  obtain ⟨AL, cL, rfl, hcL, hcM⟩ := hl.form
  unfold maxLen at hcM
  have h1 : (s.hist.length : Int) ≤ 1024 := by omega
  have h3 : ¬ (1024 < (s.hist.length : Int)) := by omega
  go_enter Try.func30, Try.ntmps30
  go_wp2_with fail
  go_quiet (fail)
  go_wp2_with fail
  exact bodyPost_ret (v := .tuple #[.int .i64 0, .slice AL s.hist.length cL]) (by simp [results, Try.results30, go_sem]) rfl
    ⟨_, rfl, (hl.alloc _).drewN _, ((Below.refl _ _).alloc (Nat.le_refl _) _).trans ⟨rfl, rfl, rfl, Nat.le_refl _, fun _ _ => rfl⟩⟩

set_option maxRecDepth 100000 in
set_option maxHeartbeats 1600000 in
theorem refSame {s t : St} {v u : Value} (w : World) (h : RefS w v s) (k : RefS w u t) : Calls Try.prog 20 #[v, u] w fun e w' => e = .returned (.bool (decide (s.most = t.most ∧ s.cs = t.cs))) ∧ Below w.heap.size w w' := by
  obtain ⟨⟨vC, vL, rfl, hc, hl⟩, hs1, hs2⟩ := h
  obtain ⟨AC, cC, rfl, hcC, hcM⟩ := hc.form
  obtain ⟨AL, cL, rfl, hcL, _⟩ := hl.form
  obtain ⟨⟨uC, uL, rfl, kc, kl⟩, ks1, ks2⟩ := k
  obtain ⟨BC, dC, rfl, kcC, kcM⟩ := kc.form
  obtain ⟨BL, dL, rfl, kcL, _⟩ := kl.form
  have fin : ∀ (o1 o2 : Obj) (n : Nat), Below w.heap.size w (((w.alloc o1).alloc o2).drewN n) := fun o1 o2 n => (((Below.refl _ _).alloc (Nat.le_refl _) _).alloc (by simp) _).trans ⟨rfl, rfl, rfl, Nat.le_refl _, fun _ _ => rfl⟩
  by_cases hm : s.most = t.most
  · have hmI : ((s.most : Int) != (t.most : Int)) = false := by simp [hm]
    by_cases hn : s.cs.length = t.cs.length
    · have hnI : ((s.cs.length : Int) != (t.cs.length : Int)) = false := by simp [hn]
      have cA := (hc.alloc (.cells #[.slice AC s.cs.length cC, .int .i64 s.most, .slice AL s.hist.length cL] 32)).alloc (.cells #[.slice BC t.cs.length dC, .int .i64 t.most, .slice BL t.hist.length dL] 32)
      have kA := (kc.alloc (.cells #[.slice AC s.cs.length cC, .int .i64 s.most, .slice AL s.hist.length cL] 32)).alloc (.cells #[.slice BC t.cs.length dC, .int .i64 t.most, .slice BL t.hist.length dL] 32)
      have box0 := ((Blk.new w 32 #[.slice AC s.cs.length cC, .int .i64 s.most, .slice AL s.hist.length cL]).alloc (.cells #[.slice BC t.cs.length dC, .int .i64 t.most, .slice BL t.hist.length dL] 32)).cell 0
      have box1 := (Blk.new (w.alloc (.cells #[.slice AC s.cs.length cC, .int .i64 s.most, .slice AL s.hist.length cL] 32)) 32 #[.slice BC t.cs.length dC, .int .i64 t.most, .slice BL t.hist.length dL]).cell 0
      have bA := fin (.cells #[.slice AC s.cs.length cC, .int .i64 s.most, .slice AL s.hist.length cL] 32) (.cells #[.slice BC t.cs.length dC, .int .i64 t.most, .slice BL t.hist.length dL] 32)
      rw [World.size_alloc] at box1
      clear hc kc hl kl
      have hmH := Lib.hid hm
      have hnH := Lib.hid hn
      clear hm hn fin
      go_enter Try.func20, Try.ntmps20
      go_wp2_with fail
      revert cA kA box0 box1 bA
      generalize (w.alloc (.cells #[.slice AC s.cs.length cC, .int .i64 s.most, .slice AL s.hist.length cL] 32)).alloc (.cells #[.slice BC t.cs.length dC, .int .i64 t.most, .slice BL t.hist.length dL] 32) = wA
      intro cA kA box0 box1 bA
      simp at box0 box1
      go_loopw [5] (fun i wr => ∃ (k n : Nat), k ≤ s.cs.length ∧ i = .int .i64 (k : Int) ∧ wr = wA.drewN n ∧ s.cs.take k = t.cs.take k) (fun i _ => s.cs.length - (intOf i).toNat)
      case atStart => exact ⟨0, 0, Nat.zero_le _, rfl, rfl, by simp⟩
      case round =>
        obtain ⟨k, n, hk, rfl, rfl, htk⟩ := hrel
        by_cases hlt : k < s.cs.length
        · have hltI : (k : Int) < (s.cs.length : Int) := by omega
          have hltJ : (k : Int) < (t.cs.length : Int) := by have := hnH.out; omega
          have hk0 : (0 : Int) ≤ (k : Int) := by omega
          obtain ⟨g, c1, cu1, hv, _⟩ := cA.addr (by omega)
          simp only [Value.slice.injEq, true_and] at hv
          obtain ⟨rfl, rfl⟩ := hv
          obtain ⟨g', c2, cu2, hv, _⟩ := kA.addr (by omega)
          simp only [Value.slice.injEq, true_and] at hv
          obtain ⟨rfl, rfl⟩ := hv
          have e1 := (cA.cells rfl k (by omega)).1
          have e2 := (kA.cells rfl k (by omega)).1
          obtain ⟨a, hav⟩ : ∃ a, s.cs[k]? = some a := ⟨_, List.getElem?_eq_getElem hlt⟩
          obtain ⟨b, hbv⟩ : ∃ b, t.cs[k]? = some b := ⟨_, List.getElem?_eq_getElem (by have := hnH.out; omega)⟩
          rw [List.getElem?_map, hav] at e1
          rw [List.getElem?_map, hbv] at e2
          simp only [Option.map_some] at e1 e2
          by_cases hab : a = b
          · have hN : s.cs.take (k + 1) = t.cs.take (k + 1) := by rw [List.take_add_one, List.take_add_one, htk, hav, hbv, hab]
            have hne : (a != b) = false := by simp [hab]
            clear hab hav hbv htk
            go_wp2_with fail
            go_quiet (fail)
            go_wp2_with fail
            exact ⟨⟨k + 1, n + nq, by omega, by simp, by simp, hN⟩, by simp [intOf]; omega⟩
          · have hF : decide (s.most = t.most ∧ s.cs = t.cs) = false := by
              simp
              intro _ e
              rw [e, hbv] at hav
              exact hab (by injection hav with h; exact h.symm)
            have hne : (a != b) = true := by simp [hab]
            clear hab hav hbv htk
            go_wp2_with fail
            go_quiet (fail)
            go_wp2_with fail
            exact bodyPost_ret (v := .bool false) (by simp [results, Try.results20, go_sem]) rfl ⟨by first | rfl | rw [hF], by first | exact bA _ | simpa using bA _⟩
        · have hltI : ¬ (k : Int) < (s.cs.length : Int) := by omega
          have hF : decide (s.most = t.most ∧ s.cs = t.cs) = true := by
            simp
            refine ⟨hmH.out, ?_⟩
            have := hnH.out
            rwa [List.take_of_length_le (by omega), List.take_of_length_le (by omega)] at htk
          clear htk
          go_wp2_with fail
          exact bodyPost_ret (v := .bool true) (by simp [results, Try.results20, go_sem]) rfl ⟨by first | rfl | rw [hF], bA _⟩
    · have hnI : ((s.cs.length : Int) != (t.cs.length : Int)) = true := by simp; omega
      have hF : decide (s.most = t.most ∧ s.cs = t.cs) = false := by simp; intro _ e; exact hn (by rw [e])
      rw [hF]
      clear hF hn hm
      go_enter Try.func20, Try.ntmps20
      go_wp2_with fail
      exact bodyPost_ret (v := .bool false) (by simp [results, Try.results20, go_sem]) rfl ⟨rfl, fin _ _ 0⟩
  · have hmI : ((s.most : Int) != (t.most : Int)) = true := by simp; omega
    have hF : decide (s.most = t.most ∧ s.cs = t.cs) = false := by simp [hm]
    rw [hF]
    clear hF hm
    go_enter Try.func20, Try.ntmps20
    go_wp2_with fail
    exact bodyPost_ret (v := .bool false) (by simp [results, Try.results20, go_sem]) rfl ⟨rfl, fin _ _ 0⟩
end Go.Proofs.Ytbojbhjaeekjpaa
