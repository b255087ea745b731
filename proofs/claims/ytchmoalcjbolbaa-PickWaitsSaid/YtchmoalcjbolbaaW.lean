/- PickRounds, walked. -/
import Derived.Test.YtchmoalcjbolbaaU
import Derived.Test.YtchmoalcjbolbaaV
namespace Go.Proofs.Ytchmoalcjbolbaa
open Go.RowKit Go.Shelf Go.Sort
attribute [local go_sem] Oper.semAt_some

def WPost (w : World) (e : Ending) (w' : World) : Prop := e = .returned (.bool true) ∧ RowKit.Below w.heap.size w w'
theorem works_at (W : World) : Calls Try.prog 8 #[] W (WPost W) := works_ok W
theorem same_refl (u v : Value) (l : List Tn) (W : World) (hu : Turns W u l) (hv : Turns W v l) : Calls Try.prog 27 #[u, v] W fun e w' => e = .returned (.bool true) ∧ ∃ n, w' = W.drewN n := by
  have h := Same_ok u v l l W hu hv
  have e : decide (l = l) = true := by simp
  rwa [e] at h
theorem below_drewN {n : Nat} {w W : World} (h : RowKit.Below n w W) (m : Nat) : RowKit.Below n w (W.drewN m) := ⟨h.os, h.tape, h.output, h.size, h.block⟩

set_option maxRecDepth 100000 in
set_option maxHeartbeats 3200000 in
theorem roundsWalk (n turns : Int) (w : World) : Calls Try.prog 6 #[.int .i64 n, .int .i64 turns] w (WPost w) := by
  by_cases hbad : n < 1 ∨ turns < 0 ∨ 4096 < n ∨ 4096 < turns
  · have h1 := Round_bad n turns hbad w
    have h2 := refRound_bad n turns hbad w
    have h3 := same_refl _ _ [] w (Turns.nil w) (Turns.nil w)
    by_cases a1 : n < 1
    · clear hbad
      go_enter Try.func6, Try.ntmps6
      go_wp2_with (first
        | (go_at_call 25; refine h1.mono ?_; rintro e w1 ⟨rfl, rfl⟩)
        | (go_at_call 26; refine h2.mono ?_; rintro e w2 ⟨rfl, rfl⟩)
        | (go_at_call 27; refine h3.mono ?_; rintro e w3 ⟨rfl, m, rfl⟩)
        | (go_at_call 17; refine (num_ok _ _).mono ?_; rintro e w4 ⟨rfl, rfl⟩)
        | (go_at_call 8; refine (works_at _).mono ?_; rintro e w5 ⟨rfl, hb5⟩))
      go_ret
      exact ⟨rfl, (below_drewN (RowKit.Below.refl _ _) m).trans (hb5.mono (Nat.le_refl _))⟩
    · by_cases a2 : 4096 < n
      · clear hbad
        go_enter Try.func6, Try.ntmps6
        go_wp2_with (first
          | (go_at_call 25; refine h1.mono ?_; rintro e w1 ⟨rfl, rfl⟩)
          | (go_at_call 26; refine h2.mono ?_; rintro e w2 ⟨rfl, rfl⟩)
          | (go_at_call 27; refine h3.mono ?_; rintro e w3 ⟨rfl, m, rfl⟩)
          | (go_at_call 17; refine (num_ok _ _).mono ?_; rintro e w4 ⟨rfl, rfl⟩)
          | (go_at_call 8; refine (works_at _).mono ?_; rintro e w5 ⟨rfl, hb5⟩))
        go_ret
        exact ⟨rfl, (below_drewN (RowKit.Below.refl _ _) m).trans (hb5.mono (Nat.le_refl _))⟩
      · by_cases a3 : turns < 0
        · clear hbad
          go_enter Try.func6, Try.ntmps6
          go_wp2_with (first
            | (go_at_call 25; refine h1.mono ?_; rintro e w1 ⟨rfl, rfl⟩)
            | (go_at_call 26; refine h2.mono ?_; rintro e w2 ⟨rfl, rfl⟩)
            | (go_at_call 27; refine h3.mono ?_; rintro e w3 ⟨rfl, m, rfl⟩)
            | (go_at_call 17; refine (num_ok _ _).mono ?_; rintro e w4 ⟨rfl, rfl⟩)
            | (go_at_call 8; refine (works_at _).mono ?_; rintro e w5 ⟨rfl, hb5⟩))
          go_ret
          exact ⟨rfl, (below_drewN (RowKit.Below.refl _ _) m).trans (hb5.mono (Nat.le_refl _))⟩
        · have a4 : 4096 < turns := by omega
          clear hbad
          go_enter Try.func6, Try.ntmps6
          go_wp2_with (first
            | (go_at_call 25; refine h1.mono ?_; rintro e w1 ⟨rfl, rfl⟩)
            | (go_at_call 26; refine h2.mono ?_; rintro e w2 ⟨rfl, rfl⟩)
            | (go_at_call 27; refine h3.mono ?_; rintro e w3 ⟨rfl, m, rfl⟩)
            | (go_at_call 17; refine (num_ok _ _).mono ?_; rintro e w4 ⟨rfl, rfl⟩)
            | (go_at_call 8; refine (works_at _).mono ?_; rintro e w5 ⟨rfl, hb5⟩))
          go_ret
          exact ⟨rfl, (below_drewN (RowKit.Below.refl _ _) m).trans (hb5.mono (Nat.le_refl _))⟩
  · obtain ⟨n, rfl⟩ : ∃ m : Nat, n = (m : Int) := ⟨n.toNat, by omega⟩
    obtain ⟨turns, rfl⟩ : ∃ m : Nat, turns = (m : Int) := ⟨turns.toNat, by omega⟩
    have c1 : (1 : Int) ≤ (n : Int) := by omega
    have c2 : (n : Int) ≤ 4096 := by omega
    have c3 : (0 : Int) ≤ (turns : Int) := by omega
    have c4 : (turns : Int) ≤ 4096 := by omega
    by_cases hbig : 30 < n ∨ 30 < turns
    · by_cases h1 : 30 < n
      · have h1I : (30 : Int) < (n : Int) := by omega
        clear hbad hbig
        go_enter Try.func6, Try.ntmps6
        go_wp2_with (go_at_call 8; refine (works_at _).mono ?_; rintro e w1 ⟨rfl, hb1⟩)
        go_ret
        exact ⟨rfl, hb1⟩
      · have h1I : ¬ (30 : Int) < (n : Int) := by omega
        have h2I : (30 : Int) < (turns : Int) := by omega
        clear hbad hbig
        go_enter Try.func6, Try.ntmps6
        go_wp2_with (go_at_call 8; refine (works_at _).mono ?_; rintro e w1 ⟨rfl, hb1⟩)
        go_ret
        exact ⟨rfl, hb1⟩
    · have h1I : ¬ (30 : Int) < (n : Int) := by omega
      have h2I : ¬ (30 : Int) < (turns : Int) := by omega
      have e1 : 1 ≤ n := by omega
      have e2 : n ≤ 4096 := by omega
      have e3 : turns ≤ 4096 := by omega
      clear hbad hbig
      go_enter Try.func6, Try.ntmps6
      go_wp2_with (first
        | (go_at_call 25; refine (Round_ok n turns e1 e2 e3 _).mono ?_; rintro e w1 ⟨rfl, ht1, hb1⟩)
        | (go_at_call 26; refine (refRound_ok n turns e1 e2 e3 _).mono ?_; rintro e w2 ⟨v, rfl, ht2, hb2⟩; obtain ⟨A, c, rfl, _, _⟩ := ht2.form; have ht12 := ht1.below hb2)
        | (go_at_call 27; refine (same_refl _ _ _ _ ht12 ht2).mono ?_; rintro e w3 ⟨rfl, m, rfl⟩)
        | (go_at_call 17; refine (num_ok _ _).mono ?_; rintro e w4 ⟨rfl, rfl⟩)
        | (go_at_call 8; refine (works_at _).mono ?_; rintro e w5 ⟨rfl, hb5⟩))
      go_ret
      exact ⟨rfl, (below_drewN (hb1.trans (hb2.mono hb1.size)) m).trans (hb5.mono (by have := hb1.size; have := hb2.size; simp; omega))⟩
end Go.Proofs.Ytchmoalcjbolbaa
