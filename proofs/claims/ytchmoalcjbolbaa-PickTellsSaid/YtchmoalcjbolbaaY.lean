/- PickTells, walked. -/
import Derived.Test.YtchmoalcjbolbaaW
import Derived.Test.YtchmoalcjbolbaaYp
namespace Go.Proofs.Ytchmoalcjbolbaa
open Go.RowKit Go.Shelf Go.Sort
attribute [local go_sem] Oper.semAt_some

/-- Rising as far as place k. -/
def RisesTo (rs : List Int) (k : Nat) : Prop := ∀ i a b, i + 1 < k → rs[i]? = some a → rs[i + 1]? = some b → a < b

set_option maxRecDepth 100000 in
set_option maxHeartbeats 3200000 in
theorem tellsWalk (x n : Int) (vb : Value) (bs : List Int) (last : Int) (vr : Value) (rs : List Int) (w : World) (hn : W64 n) (hb : Bys w vb bs) (hr : Ints w vr rs) :
    Calls Try.prog 3 #[.int .u64 x, .int .i64 n, vb, .int .i64 last, vr] w (WPost w) := by
  obtain ⟨Ab, cb, rfl, hb1, hb2, hwb, _⟩ := id hb
  obtain ⟨Ar, cr, rfl, hr1, hr2⟩ := hr.form
  have hmb : bs.length ≤ maxLen := Nat.le_trans hb1 hb2
  have hmr : rs.length ≤ maxLen := Nat.le_trans hr1 hr2
  unfold maxLen at hmb hmr
  by_cases g1 : 100 < bs.length
  · have g1I : (100 : Int) < (bs.length : Int) := by omega
    go_enter Try.func3, Try.ntmps3
    go_wp2_with (go_at_call 8; refine (works_at _).mono ?_; rintro e w1 ⟨rfl, hb1⟩)
    go_ret
    exact ⟨rfl, hb1⟩
  · have g1I : ¬ (100 : Int) < (bs.length : Int) := by omega
    by_cases g2 : 20 < rs.length
    · have g2I : (20 : Int) < (rs.length : Int) := by omega
      go_enter Try.func3, Try.ntmps3
      go_wp2_with (go_at_call 8; refine (works_at _).mono ?_; rintro e w1 ⟨rfl, hb1⟩)
      go_ret
      exact ⟨rfl, hb1⟩
    · have g2I : ¬ (20 : Int) < (rs.length : Int) := by omega
      go_enter Try.func3, Try.ntmps3
      go_wp2_with fail
      go_loopw [11] (fun p wr => ∃ (k m : Nat), 1 ≤ k ∧ (k ≤ rs.length ∨ k = 1) ∧ p = .int .i64 (k : Int) ∧ wr = w.drewN m) (fun p _ => rs.length + 1 - (intOf p).toNat)
      case atStart => exact ⟨1, 0, Nat.le_refl _, .inr rfl, rfl, rfl⟩
      case round =>
        obtain ⟨k, m, hk, hkl, rfl, rfl⟩ := hrel
        have hk0 : (0 : Int) ≤ (k : Int) := by omega
        by_cases hlt : k < rs.length
        · have hltI : (k : Int) < (rs.length : Int) := by omega
          have hk1 : (0 : Int) ≤ (k : Int) - 1 := by omega
          have hk3 : (1 : Int) ≤ (k : Int) := by omega
          have hk4 : ¬ (k : Int) < 1 := by omega
          have hk5 : ¬ (k : Int) - 1 < 0 := by omega
          have hk2 : (k : Int) - 1 < (rs.length : Int) := by omega
          have hwr : IntKind.i64.wrap ((k : Int) - 1) = (k : Int) - 1 := wrap_small _ (by omega) (by omega)
          obtain ⟨a, ha⟩ : ∃ a, rs[k]? = some a := ⟨_, List.getElem?_eq_getElem hlt⟩
          obtain ⟨b, hb'⟩ : ∃ a, rs[k - 1]? = some a := ⟨_, List.getElem?_eq_getElem (by omega)⟩
          obtain ⟨g, o, rfl, hg, q0⟩ := hr.at_ ha
          obtain ⟨g', o', e, hg', q1⟩ := hr.at_ hb'
          simp only [Option.some.injEq, Addr.mk.injEq, and_true] at e
          obtain ⟨rfl, rfl⟩ := e
          have q1' : w.cell? ⟨g, o + ((k : Int) - 1).toNat, none⟩ = some (.int .i64 b) := by
            have : ((k : Int) - 1).toNat = k - 1 := by omega
            rw [this]; exact q1
          clear ha hb'
          by_cases hab : a ≤ b
          · go_wp2_with fail
            go_quiet (fail)
            go_wp2_with (go_at_call 8; refine (works_at _).mono ?_; rintro e w1 ⟨rfl, hb1⟩)
            go_ret
            exact ⟨rfl, (below_drewN (RowKit.Below.refl _ _) _).trans hb1⟩
          · go_wp2_with fail
            go_quiet (fail)
            go_wp2_with fail
            exact ⟨⟨k + 1, m + nq, by omega, by omega, by go_num, by simp⟩, by simp [intOf]; omega⟩
        · have hltI : ¬ (k : Int) < (rs.length : Int) := by omega
          have hbD : Bys (w.drewN m) (.slice Ab bs.length cb) bs := hb.kept (fun p v h => h)
          have hrD : Ints (w.drewN m) (.slice Ar rs.length cr) rs := hr.kept (fun p v h => h)
          obtain ⟨i0, hi0, hz0, hz1, hz2⟩ := info_parts Try.info3
          have hbs : bs.length ≤ 4096 := by omega
          have hwd : RowKit.Below w.heap.size w (w.drewN m) := below_drewN (RowKit.Below.refl _ _) m
          generalize w.drewN m = wd at *
          obtain ⟨g0, hg0⟩ : ∃ g0, wd.heap.size = g0 := ⟨_, rfl⟩
          have hrow0 : Row (wd.alloc (.cells #[] 3)) 3 1 (.slice (some ⟨g0, 0, none⟩) 0 0) 0 [] := Row.made_at wd g0 hg0 3 1 0 #[] [] rfl (by unfold maxLen; omega) rfl
          have hsrc := (hrD.alloc (.cells #[] 3)).src
          have hb1 : RowKit.Below wd.heap.size wd (wd.alloc (.cells #[] 3)) := (RowKit.Below.refl _ _).alloc (Nat.le_refl _) _
          go_wp2_with (first
            | (go_at_call 9; refine (Index_ok x n _ hn).mono ?_; rintro e w1 ⟨rfl, rfl⟩)
            | (go_at_call 10; refine (refIndex_ok x n _ hn).mono ?_; rintro e w1 ⟨rfl, rfl⟩)
            | (at_builtin
               refine wpList_append_src _ rfl (.tmp 62) (.tmp 63) 24 rfl 3 i0 (.int .i64 0) 1 8 Try.underlying24 hi0 hz0 hz1 hz2 rfl (.slice (some ⟨g0, 0, none⟩) 0 0) 0 [] (by rw [← hg0]; rfl) hrow0 Ar rs.length cr (rs.map (Value.int .i64)) rfl (by simp) hsrc (by intro v hv; obtain ⟨y, _, rfl⟩ := List.mem_map.1 hv; rfl) (by unfold maxLen; omega) (by omega) ?_
               intro v1 w1 hr1 hgr1 ho1
               simp only [Nat.zero_add, List.nil_append] at hr1
               obtain ⟨A1, c1, rfl, hc1, hc2⟩ := hr1.form
               have hb2 : RowKit.Below wd.heap.size wd w1 := (((Keep.refl (fun _ => False) wd).alloc (.cells #[] 3)).grown hgr1 (fun k hk => .inr (by simp [Value.ownBlock] at hk; omega))).below (by intro k hk; exact hk.elim) (Nat.le_refl _)
               have hi1 := ints_of_row hr1 hrD.wf
               have hrE := hrD.below hb2
               have hbE := hbD.kept (kept_below hb2 (Nat.le_refl _))
               clear hr1 hgr1 ho1)
            | (go_at_call 11; refine (Next_ok last _ rs _ hi1).mono ?_; rintro e w2 ⟨rfl, hb3⟩
               have hrF := hrE.below hb3
               have hbF := hbE.kept (kept_below hb3 (Nat.le_refl _)))
            | (go_at_call 12; refine (refNext_ok last _ rs _ hrF).mono ?_; rintro e w3 ⟨rfl, rfl⟩)
            | (go_at_call 13; refine (Picks_ok _ bs _ hbF hbs).mono ?_; rintro e w4 ⟨rfl, hk4, hb4⟩
               have hbG := hbF.kept (kept_below hb4 (Nat.le_refl _))))
          have hW4 : RowKit.Below w.heap.size w w4 := hwd.trans ((hb2.mono hwd.size).trans ((hb3.mono (Nat.le_trans hwd.size hb2.size)).trans (hb4.mono (Nat.le_trans hwd.size (Nat.le_trans hb2.size hb3.size)))))
          clear hb2 hb3 hb4 hrow0 hsrc hb1 hbD hrD hi1 hrE hbE hrF hbF hr hb
          generalize w2.heap.size = g2 at *
          go_loopw [21] (fun p wr => ∃ (j m : Nat), j ≤ bs.length ∧ p = .int .i64 (j : Int) ∧ wr = w4.drewN m) (fun p _ => bs.length + 1 - (intOf p).toNat)
          case atStart => exact ⟨0, 0, Nat.zero_le _, rfl, rfl⟩
          case round =>
            obtain ⟨j, m2, hj, rfl, rfl⟩ := hrel
            have hj0 : (0 : Int) ≤ (j : Int) := by omega
            by_cases hlt2 : j < bs.length
            · have hlt2I : (j : Int) < (bs.length : Int) := by omega
              obtain ⟨b, hb'⟩ : ∃ a, bs[j]? = some a := ⟨_, List.getElem?_eq_getElem hlt2⟩
              have hbm := hwb b (List.mem_of_getElem? hb')
              obtain ⟨g, o, rfl, hg, q0⟩ := hbG.at_ hb'
              have q1 : w4.cell? ⟨g2, j, none⟩ = some (.int .u64 b) := by
                rw [hk4.cell j]
                simp [hlt2]
                exact (List.getElem?_eq_some_iff.1 hb').2
              have hwb2 : IntKind.u64.wrap b = b := by simp [IntKind.wrap, IntKind.bits, IntKind.signed]; omega
              clear hb'
              go_wp2_with fail
              go_quiet (fail)
              go_wp2_with fail
              exact ⟨⟨j + 1, m2 + nq, by omega, by go_num, by simp⟩, by simp [intOf]; omega⟩
            · have hlt2I : ¬ (j : Int) < (bs.length : Int) := by omega
              go_wp2_with (go_at_call 8; refine (works_at _).mono ?_; rintro e w5 ⟨rfl, hb5⟩)
              go_ret
              exact ⟨rfl, (below_drewN hW4 _).trans (hb5.mono (by have := hW4.size; simpa using this))⟩
end Go.Proofs.Ytchmoalcjbolbaa
