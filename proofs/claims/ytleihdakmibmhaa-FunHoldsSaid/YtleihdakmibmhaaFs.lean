/- The law's small functions: few, num, node, of, wrong. -/
import Derived.Test.YtleihdakmibmhaaFo
namespace Go.Proofs.Ytleihdakmibmhaa
open Go.RowKit Go.Shelf
attribute [local go_sem] Oper.semAt_some

def fewB (F : Fd) : Bool := decide (F.ns.length ≤ 300) && F.ns.all fun x => decide (x.l.length ≤ 40)
theorem few_iff {F : Fd} : fewB F = true ↔ FewF F := by unfold fewB FewF; simp
set_option maxRecDepth 100000 in
set_option maxHeartbeats 1600000 in
theorem few_ok {F : Fd} {v : Value} {hi : Nat} (w : World) (h : FunI w 0 hi v F) (hh : hi ≤ w.heap.size) : Calls Try.prog 9 #[v] w fun e w' => e = .returned (.bool (fewB F)) ∧ Below w.heap.size w w' := by
  obtain ⟨s, rfl, hp, hn⟩ := h
  obtain ⟨A, c, rfl, hc1, hc2⟩ := hn.form
  unfold maxLen at hc2
  have hb : Below w.heap.size w (w.alloc (.cells #[.int .i64 F.p, .slice A F.ns.length c] 24)) := (Below.refl _ w).alloc (Nat.le_refl _) _
  have HN := Lib.hid (hn.below hb hh)
  have HB := Lib.hid hb
  clear hn hb
  go_enter Try.func9, Try.ntmps9
  go_wp2
  go_loopw [3] (fun p wr => ∃ k : Nat, k ≤ F.ns.length ∧ k ≤ 301 ∧ p = .int .i64 (k : Int) ∧ wr = w.alloc (.cells #[.int .i64 F.p, .slice A F.ns.length c] 24) ∧ Hid (∀ (i : Nat) (x : Nd), i < k → F.ns[i]? = some x → x.l.length ≤ 40)) (fun p _ => F.ns.length - (intOf p).toNat)
  case atStart => exact ⟨0, Nat.zero_le _, Nat.zero_le _, rfl, rfl, Lib.hid fun i x hi => by omega⟩
  case round =>
    obtain ⟨k, hk, hk3, rfl, rfl, hA⟩ := hrel
    have hk0 : (0 : Int) ≤ (k : Int) := by omega
    by_cases hlt : k < F.ns.length
    · have hltI : (k : Int) < (F.ns.length : Int) := by omega
      by_cases h3 : k ≤ 300
      · have h3I : (k : Int) ≤ 300 := by omega
        obtain ⟨x, hx⟩ : ∃ x, F.ns[k]? = some x := ⟨_, List.getElem?_eq_getElem hlt⟩
        obtain ⟨b, o, sx, rfl, _, hbh, c0, c1, c2, hsx, _, _⟩ := HN.out.at_ hx
        obtain ⟨X, cx, rfl, hx1, hx2⟩ := hsx.form
        have lb := lt_of_cell c2
        unfold maxLen at hx2
        have hbw : b < w.heap.size := by omega
        have c2' : w.cell? ⟨b, o + k * 3 + 2, none⟩ = some (.slice X x.l.length cx) := by
          rw [← c2]; exact (cell_same (p := ⟨b, o + k * 3 + 2, none⟩) (Below.heap_alloc w _ b hbw)).symm
        have hw1 : IntKind.i64.wrap ((k : Int) + 1) = (k : Int) + 1 := IntWalk.i64_in _ (by omega)
        have HX := Lib.hid hx
        by_cases h40 : x.l.length ≤ 40
        · have h40I : (x.l.length : Int) ≤ 40 := by omega
          clear hsx c0 c1 c2 lb hx
          go_wp2
          exact ⟨⟨k + 1, by omega, by omega, by go_num, trivial, Lib.hid fun i y hi hy => by
            rcases Nat.lt_succ_iff_lt_or_eq.1 hi with h | rfl
            · exact hA.out i y h hy
            · rw [HX.out] at hy; cases hy; exact h40⟩, by simp [intOf]; omega⟩
        · have h40I : ¬ (x.l.length : Int) ≤ 40 := by omega
          have hE : fewB F = false := by
            cases hq : fewB F
            · rfl
            · exact absurd ((few_iff.1 hq).2 x (List.mem_of_getElem? hx)) h40
          have HE := Lib.hid hE
          clear hsx c0 c1 c2 lb hx hE
          go_wp2
          go_ret
          exact ⟨by rw [HE.out]; rfl, HB.out⟩
      · have h3I : ¬ (k : Int) ≤ 300 := by omega
        have hE : fewB F = false := by
          cases hq : fewB F
          · rfl
          · have := (few_iff.1 hq).1; omega
        have h30 : ¬ (F.ns.length : Int) ≤ 300 := by omega
        have HE := Lib.hid hE
        clear hE
        go_wp2
        go_ret
        exact ⟨by rw [HE.out]; rfl, HB.out⟩
    · have hltI : ¬ (k : Int) < (F.ns.length : Int) := by omega
      obtain rfl : k = F.ns.length := by omega
      have hE : fewB F = decide ((F.ns.length : Int) ≤ 300) := by
        rw [Bool.eq_iff_iff, few_iff]
        simp only [decide_eq_true_eq]
        constructor
        · intro h; have := h.1; omega
        · intro h
          refine ⟨by omega, fun x hx => ?_⟩
          obtain ⟨i, hi, rfl⟩ := List.mem_iff_getElem.1 hx
          exact hA.out i _ hi (List.getElem?_eq_getElem hi)
      have HE := Lib.hid hE
      clear hE
      go_wp2
      go_ret
      exact ⟨by rw [HE.out]; rfl, HB.out⟩
theorem num_ok6 (n : Int) (w : World) : Calls Try.prog 13 #[.int .i64 n] w fun e w' => e = .returned (.int .i64 n) ∧ w = w' := by
  go_enter Try.func13, Try.ntmps13
  go_wp2
  go_ret
  exact ⟨rfl, rfl⟩
theorem node_ok (op n : Int) (s : Value) (hs : ∃ A m c, s = .slice A m c) (w : World) : Calls Try.prog 26 #[.int .i64 op, .int .i64 n, s] w fun e w' => e = .returned (.agg #[.int .i64 op, .int .i64 n, s]) ∧ w' = w.alloc (.cells #[.int .i64 op, .int .i64 n, s] 47) := by
  obtain ⟨A, m, c, rfl⟩ := hs
  go_enter Try.func26, Try.ntmps26
  go_wp2
  refine bodyPost_ret (v := .agg #[.int .i64 op, .int .i64 n, .slice A m c]) (by simp [results, Try.results26, go_sem]) rfl ⟨rfl, rfl⟩
theorem of_ok (p : Int) (s : Value) (hs : ∃ A m c, s = .slice A m c) (w : World) : Calls Try.prog 27 #[.int .i64 p, s] w fun e w' => e = .returned (.agg #[.int .i64 p, s]) ∧ w' = w.alloc (.cells #[.int .i64 p, s] 24) := by
  obtain ⟨A, m, c, rfl⟩ := hs
  go_enter Try.func27, Try.ntmps27
  go_wp2
  refine bodyPost_ret (v := .agg #[.int .i64 p, .slice A m c]) (by simp [results, Try.results27, go_sem]) rfl ⟨rfl, rfl⟩
set_option maxRecDepth 100000 in
set_option maxHeartbeats 1600000 in
theorem wrong_ok {F : Fd} {v : Value} {at_ : Nat} (w : World) (h : FunI w 0 w.heap.size v F) (hw : placesF F = .bad at_) : Calls Try.prog 28 #[v, .int .i64 (at_ : Int)] w fun e w' => e = .returned (.bool true) ∧ Below w.heap.size w w' := by
  obtain ⟨A, c, rfl⟩ := h.form
  have hb : Below w.heap.size w (w.alloc (.cells #[.int .i64 F.p, .slice A F.ns.length c] 24)) := (Below.refl _ w).alloc (Nat.le_refl _) _
  have hbx : Blk (w.alloc (.cells #[.int .i64 F.p, .slice A F.ns.length c] 24)) w.heap.size 24 #[.int .i64 F.p, .slice A F.ns.length c] := Blk.new _ _ _
  have hwh : whereF F = ((at_ : Int), 60) := by unfold whereF; rw [hw]
  have h1 := (Where_ok _ ((h.below hb (Nat.le_refl _)).mono (Nat.le_refl _) hb.size)).mono (R' := fun e w' => e = .returned (.tuple #[.int .i64 (at_ : Int), .int .i64 60]) ∧ w'.cell? ⟨w.heap.size, 0, none⟩ = some (.int .i64 F.p) ∧ w'.cell? ⟨w.heap.size, 1, none⟩ = some (.slice A F.ns.length c) ∧ w.heap.size < w'.heap.size ∧ Hid (Below w.heap.size w w')) fun e w' q => by
    have hk := hbx.keep (q.2.block _ hbx.lt)
    exact ⟨by rw [q.1, hwh], by simpa using hk.cell 0, by simpa using hk.cell 1, hk.lt, Lib.hid (hb.trans (q.2.mono hb.size))⟩
  have h2 := fun w1 (hh : Hid (Below w.heap.size w w1)) => (Check_ok6 w1 ((h.below hh.out (Nat.le_refl _)).mono (Nat.le_refl _) hh.out.size)).mono (R' := fun e w' => e = .returned (.int .i64 60) ∧ Hid (Below w.heap.size w w')) fun e w' q => ⟨by rw [q.1, hwh], Lib.hid (hh.out.trans (q.2.mono hh.out.size))⟩
  have H1 := Lib.hid h1
  have H2 := Lib.hid h2
  have HN := Lib.hid (fun W => num_ok6 60 W)
  clear h1 h2 h hb hbx hwh hw
  go_enter Try.func28, Try.ntmps28
  go_wp2_with (first | (go_at_call 11; (with_reducible refine H1.out.mono ?_); rintro e w1 ⟨rfl, c0, c1, lt, hB⟩) | (go_at_call 13; (with_reducible refine (HN.out _).mono ?_); rintro e w2 ⟨rfl, rfl⟩) | (go_at_call 14; (with_reducible refine (H2.out _ hB).mono ?_); rintro e w2 ⟨rfl, hB2⟩))
  go_ret
  exact ⟨rfl, hB2.out⟩
end Go.Proofs.Ytleihdakmibmhaa
