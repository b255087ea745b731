/- Round, Same, of. -/
import Derived.Test.YtchmoalcjbolbaaC
import Derived.Deep.RegionHeld3
namespace Go.Proofs.Ytchmoalcjbolbaa
open Go.RowKit Go.Shelf
attribute [local go_sem] Oper.semAt_some

def upL (n : Nat) : List Int := (List.range n).map fun (i : Nat) => (i : Int)
def roundL (n turns : Nat) : List Tn := (List.range turns).map fun (i : Nat) => ⟨upL n, ((i : Int) % (n : Int))⟩

theorem ints_of_blk {W : World} {b c : Nat} {t : TypeId} {cs : Array Value} {xs : List Int} (h : Blk W b t cs) (hw : ∀ x ∈ xs, W64 x) (hc : xs.length ≤ c) (hm : c ≤ maxLen) (hx : ∀ (i : Nat) (x : Int), xs[i]? = some x → cs[i]? = some (Value.int .i64 x)) :
    Ints W (.slice (some ⟨b, 0, none⟩) xs.length c) xs :=
  ⟨_, c, rfl, hc, hm, hw, fun _ => ⟨b, 0, rfl, h.lt, fun i x hi => by rw [Nat.zero_add, h.cell i]; exact hx i x hi⟩⟩
theorem turns_of_blk {W : World} {b c : Nat} {t : TypeId} {cs : Array Value} {l : List Tn} (h : Blk W b t cs) (hc : l.length ≤ c) (hm : c ≤ maxLen)
    (hx : ∀ (i : Nat) (x : Tn), l[i]? = some x → ∃ u, cs[i * 2]? = some u ∧ Ints W u x.runs ∧ cs[i * 2 + 1]? = some (.int .i64 x.took) ∧ W64 x.took) :
    Turns W (.slice (some ⟨b, 0, none⟩) l.length c) l :=
  ⟨_, c, rfl, hc, hm, fun _ => ⟨b, 0, rfl, h.lt, fun i x hi => by
    obtain ⟨u, q0, q1, q2, q3⟩ := hx i x hi
    exact ⟨u, by rw [Nat.zero_add, h.cell]; exact q0, q1, by rw [Nat.zero_add, h.cell]; exact q2, q3⟩⟩⟩
theorem upL_length (n : Nat) : (upL n).length = n := by simp [upL]
theorem upL_wf {n : Nat} (hn : n ≤ 4096) : ∀ x ∈ upL n, W64 x := by
  intro x hx
  obtain ⟨i, hi, rfl⟩ := List.mem_map.1 hx
  have := List.mem_range.1 hi
  unfold W64
  omega
theorem upA_get {n i : Nat} {x : Int} (h : (upL n)[i]? = some x) : (upA n)[i]? = some (.int .i64 x) := by
  unfold upL at h
  unfold upA
  rw [List.getElem?_toArray]
  rw [List.getElem?_map] at h ⊢
  cases hr : (List.range n)[i]? with
  | none => rw [hr] at h; cases h
  | some j => rw [hr] at h; simp at h; subst h; rfl
theorem ints_upA {W : World} {b n : Nat} (hn : n ≤ 4096) (h : Blk W b 3 (upA n)) : Ints W (.slice (some ⟨b, 0, none⟩) n n) (upL n) := by
  have := ints_of_blk (xs := upL n) (c := n) h (upL_wf hn) (by rw [upL_length]; exact Nat.le_refl _) (by simp [maxLen]; omega) (fun i x hx => upA_get hx)
  rwa [upL_length] at this

theorem Try.info57 : (Try.prog.info? 57).map (fun i => (i.zero, i.size, i.bytes)) = some (some (.agg #[.slice none 0 0, .int .i64 0]), 2, 32) := by kernel_rfl

/-- The rounds that are laid already. -/
structure RI (w : World) (g n turns k : Nat) (W : World) : Prop where
  blk : ∃ cs, Blk W g 57 cs ∧ cs.size = turns * 2 ∧ ∀ i, i < k → ∃ b, cs[i * 2]? = some (.slice (some ⟨b, 0, none⟩) n n) ∧ Blk W b 3 (upA n) ∧ cs[i * 2 + 1]? = some (.int .i64 ((i : Int) % (n : Int)))
  bl : Below w.heap.size w W

theorem RI.next {w W W1 : World} {g n turns k b : Nat} (h : RI w g n turns k W) (hk : k < turns) (hb : Below W.heap.size W W1) (hB : Blk W1 b 3 (upA n)) (hg : w.heap.size ≤ g) :
    RI w g n turns (k + 1) ((W1.setCell ⟨g, k * 2, none⟩ (.slice (some ⟨b, 0, none⟩) n n)).setCell ⟨g, k * 2 + 1, none⟩ (.int .i64 ((k : Int) % (n : Int)))) := by
  obtain ⟨⟨cs, h1, h2, h3⟩, h4⟩ := h
  have h1' : Blk W1 g 57 cs := h1.keep (hb.block g h1.lt)
  refine ⟨⟨(cs.setIfInBounds (k * 2) (.slice (some ⟨b, 0, none⟩) n n)).setIfInBounds (k * 2 + 1) (.int .i64 ((k : Int) % (n : Int))), (h1'.set _ _).set _ _, by simpa using h2, fun i hi => ?_⟩, ?_⟩
  · have far : ∀ b', Blk W1 b' 3 (upA n) → Blk ((W1.setCell ⟨g, k * 2, none⟩ (.slice (some ⟨b, 0, none⟩) n n)).setCell ⟨g, k * 2 + 1, none⟩ (.int .i64 ((k : Int) % (n : Int)))) b' 3 (upA n) := fun b' hb' =>
      (hb'.far (hb'.ne h1' (by decide)) _).far (hb'.ne h1' (by decide)) _
    by_cases e : i = k
    · subst e
      exact ⟨b, by simp [Array.getElem?_setIfInBounds]; omega, far b hB, by simp [Array.getElem?_setIfInBounds]; omega⟩
    · obtain ⟨b', q1, q2, q3⟩ := h3 i (by omega)
      refine ⟨b', ?_, far b' (q2.keep (hb.block b' q2.lt)), ?_⟩
      · rw [Array.getElem?_setIfInBounds, if_neg (by omega), Array.getElem?_setIfInBounds, if_neg (by omega)]; exact q1
      · rw [Array.getElem?_setIfInBounds, if_neg (by omega), Array.getElem?_setIfInBounds, if_neg (by omega)]; exact q3
  · exact ((h4.trans (hb.mono h4.size)).setCell hg _).setCell hg _

theorem RI.turns {w W : World} {g n turns : Nat} (h : RI w g n turns turns W) (hn1 : 1 ≤ n) (hn : n ≤ 4096) (ht : turns ≤ 4096) : Turns W (.slice (some ⟨g, 0, none⟩) turns turns) (roundL n turns) := by
  obtain ⟨⟨cs, h1, h2, h3⟩, h4⟩ := h
  have hl : (roundL n turns).length = turns := by simp [roundL]
  have := turns_of_blk (l := roundL n turns) (c := turns) h1 (by rw [hl]; exact Nat.le_refl _) (by simp [maxLen]; omega) (fun i x hx => by
    have hi : i < turns := by have := (List.getElem?_eq_some_iff.1 hx).1; rwa [hl] at this
    obtain ⟨b, q1, q2, q3⟩ := h3 i hi
    unfold roundL at hx
    rw [List.getElem?_map, List.getElem?_range hi] at hx
    simp at hx
    subst hx
    refine ⟨_, q1, ints_upA hn q2, by simpa using q3, ?_⟩
    have h0 := Int.emod_nonneg (i : Int) (show (n : Int) ≠ 0 by omega)
    have h1 := Int.emod_lt_of_pos (i : Int) (show (0 : Int) < (n : Int) by omega)
    unfold W64
    simp only
    omega)
  rwa [hl] at this

set_option maxRecDepth 100000 in
set_option maxHeartbeats 1600000 in
theorem Round_ok (n turns : Nat) (hn1 : 1 ≤ n) (hn : n ≤ 4096) (ht : turns ≤ 4096) (w : World) : Calls Try.prog 25 #[.int .i64 (n : Int), .int .i64 (turns : Int)] w fun e w' =>
    e = .returned (.tuple #[.slice (some ⟨w.heap.size, 0, none⟩) turns turns, .int .i64 0]) ∧ Turns w' (.slice (some ⟨w.heap.size, 0, none⟩) turns turns) (roundL n turns) ∧ Below w.heap.size w w' := by
  obtain ⟨i0, hi0, hz0, hz1, hz2⟩ := info_parts Try.info57
  have hmk : ∀ W : World, (Instr.makeSlice 33 (.int .i64 (turns : Int)) (.int .i64 (turns : Int))).run Try.prog W = .ok (.slice (some ⟨W.heap.size, 0, none⟩) turns turns) (W.alloc (.cells (madeCells #[.slice none 0 0, .int .i64 0] (turns * 2)) 57)) := fun W => by
    have hr := run_make (P := Try.prog) W 33 57 i0 _ Try.underlying33 hi0 hz0 .i64 .i64 turns turns (by omega) (Int.le_refl _) (by rw [hz2]; omega) (by omega)
    simpa [hz1, Value.cells] using hr
  have hb0 : RI w w.heap.size n turns 0 (w.alloc (.cells (madeCells #[.slice none 0 0, .int .i64 0] (turns * 2)) 57)) :=
    ⟨⟨_, Blk.new w 57 _, size_madeCells _ _, fun i hi => absurd hi (by omega)⟩, (Below.refl _ w).alloc (Nat.le_refl _) _⟩
  have hnI : (n : Int) ≤ 4096 := by omega
  have htI : (turns : Int) ≤ 4096 := by omega
  have hn0 : ¬ (n : Int) = 0 := by omega
  have hn1' : ¬ (n : Int) < 1 := by omega
  have ht0' : ¬ (turns : Int) < 0 := by omega
  have hn2' : ¬ (4096 : Int) < n := by omega
  have ht2' : ¬ (4096 : Int) < turns := by omega
  go_enter Try.func25, Try.ntmps25
  go_wp2_with fail
  go_loopw [26] (fun p wr => ∃ k : Nat, k ≤ turns ∧ p = .int .i64 (k : Int) ∧ RI w w.heap.size n turns k wr) (fun p _ => turns - (intOf p).toNat)
  case atStart => exact ⟨0, Nat.zero_le _, rfl, hb0⟩
  case round =>
    obtain ⟨k, hk, rfl, hI⟩ := hrel
    have hk0 : (0 : Int) ≤ (k : Int) := by omega
    by_cases hlt : k < turns
    · have hltI : (k : Int) < (turns : Int) := by omega
      have hn0' : ¬ n = 0 := by omega
      have Hi := Lib.hid hI
      obtain ⟨cs, hc1, hc2, _⟩ := hI.blk
      obtain ⟨v0, hv0⟩ : ∃ v, cs[k * 2]? = some v := ⟨_, Array.getElem?_eq_getElem (by omega)⟩
      obtain ⟨v1, hv1⟩ : ∃ v, cs[k * 2 + 1]? = some v := ⟨_, Array.getElem?_eq_getElem (by omega)⟩
      have hcell : ∀ w1, Below wr.heap.size wr w1 → w1.cell? ⟨w.heap.size, k * 2, none⟩ = some v0 ∧ w1.cell? ⟨w.heap.size, k * 2 + 1, none⟩ = some v1 ∧ w1.frozen? ⟨w.heap.size, k * 2, none⟩ = false ∧ w1.frozen? ⟨w.heap.size, k * 2 + 1, none⟩ = false := fun w1 h =>
        have hk := hc1.keep (h.block _ hc1.lt)
        ⟨(hk.cell _).trans hv0, (hk.cell _).trans hv1, hk.frozen _, hk.frozen _⟩
      clear hc1 hc2 hv0 hv1
      go_wp2_with fail
      go_region_with (go_at_call 43; refine (upTo_ok n hn _).mono ?_; rintro e w1 ⟨rfl, hB, hL⟩; have hL : Below wr.heap.size wr w1 := ⟨hL.os, hL.tape, hL.output, hL.size, hL.block⟩; obtain ⟨q0, q1, f0, f1⟩ := hcell _ hL)
      all_goals go_wp2_with fail
      all_goals exact ⟨⟨k + 1, by omega, by go_num, Hi.out.next hlt hL hB (Nat.le_refl _)⟩, by simp [intOf]; omega⟩
    · have hltI : ¬ (k : Int) < (turns : Int) := by omega
      obtain rfl : k = turns := by omega
      go_wp2_with fail
      go_ret2
      exact ⟨rfl, hI.turns hn1 hn ht, hI.bl⟩

set_option maxRecDepth 100000 in
set_option maxHeartbeats 1600000 in
theorem Round_bad (n turns : Int) (h : n < 1 ∨ turns < 0 ∨ 4096 < n ∨ 4096 < turns) (w : World) : Calls Try.prog 25 #[.int .i64 n, .int .i64 turns] w fun e w' =>
    e = .returned (.tuple #[.slice none 0 0, .int .i64 2]) ∧ w = w' := by
  by_cases h1 : n < 1
  · go_enter Try.func25, Try.ntmps25
    go_wp2_with fail
    go_ret2
    exact ⟨rfl, rfl⟩
  · by_cases h2 : turns < 0
    · go_enter Try.func25, Try.ntmps25
      go_wp2_with fail
      go_ret2
      exact ⟨rfl, rfl⟩
    · by_cases h3 : 4096 < n
      · go_enter Try.func25, Try.ntmps25
        go_wp2_with fail
        go_ret2
        exact ⟨rfl, rfl⟩
      · have h4 : 4096 < turns := by omega
        clear h
        go_enter Try.func25, Try.ntmps25
        go_wp2_with fail
        go_ret2
        exact ⟨rfl, rfl⟩

set_option maxRecDepth 100000 in
set_option maxHeartbeats 1600000 in
theorem of_ok (took : Int) (A : Option Addr) (n c : Nat) (w : World) : Calls Try.prog 28 #[.int .i64 took, .slice A n c] w fun e w' =>
    e = .returned (.agg #[.slice A n c, .int .i64 took]) ∧ Below w.heap.size w w' := by
  go_enter Try.func28, Try.ntmps28
  go_wp2_with fail
  exact bodyPost_ret (v := .agg #[.slice A n c, .int .i64 took]) (by simp [results, Try.results28, go_sem]) rfl ⟨rfl, (Below.refl _ w).alloc (Nat.le_refl _) _⟩

theorem drewN_kept (w : World) (n : Nat) : CellsKept w (w.drewN n) := fun _ _ h => h

def SameTo (a b : List Tn) (i : Nat) : Prop := a.take i = b.take i
def SameIn (a b : List Int) (i : Nat) : Prop := a.take i = b.take i

theorem takeEq_next {α : Type} {a b : List α} {i : Nat} {x : α} (h : a.take i = b.take i) (hx : a[i]? = some x) (hy : b[i]? = some x) : a.take (i + 1) = b.take (i + 1) := by
  rw [(parts_at hx).2, (parts_at hy).2, h]

set_option maxRecDepth 100000 in
set_option maxHeartbeats 3200000 in
theorem Same_ok (v u : Value) (a b : List Tn) (w : World) (ha : Turns w v a) (hb : Turns w u b) : Calls Try.prog 27 #[v, u] w fun e w' =>
    e = .returned (.bool (decide (a = b))) ∧ ∃ n, w' = w.drewN n := by
  obtain ⟨A, c, rfl, ha1, ha2⟩ := ha.form
  obtain ⟨B, d, rfl, hb1, hb2⟩ := hb.form
  have hma : a.length ≤ maxLen := Nat.le_trans ha1 ha2
  have hmb : b.length ≤ maxLen := Nat.le_trans hb1 hb2
  unfold maxLen at hma hmb
  by_cases hn : a.length = b.length
  · have hnI : ((a.length : Int) != (b.length : Int)) = false := by simp [hn]
    have hnH := Lib.hid hn
    clear hn
    go_enter Try.func27, Try.ntmps27
    go_wp2_with fail
    go_loopw [5] (fun p wr => ∃ (q n : Nat), q ≤ a.length ∧ p = .int .i64 (q : Int) ∧ wr = w.drewN n ∧ SameTo a b q) (fun p _ => a.length - (intOf p).toNat)
    case atStart => exact ⟨0, 0, Nat.zero_le _, rfl, rfl, by simp [SameTo]⟩
    case round =>
      obtain ⟨q, n, hq, rfl, rfl, htk⟩ := hrel
      have hq0 : (0 : Int) ≤ (q : Int) := by omega
      by_cases hlt : q < a.length
      · have hltI : (q : Int) < (a.length : Int) := by omega
        have hltJ : (q : Int) < (b.length : Int) := by have := hnH.out; omega
        obtain ⟨x, hx⟩ : ∃ x, a[q]? = some x := ⟨_, List.getElem?_eq_getElem hlt⟩
        obtain ⟨y, hy⟩ : ∃ x, b[q]? = some x := ⟨_, List.getElem?_eq_getElem (by have := hnH.out; omega)⟩
        obtain ⟨g, o, X, m, e, rfl, hg, q1, q2, q3, q4⟩ := ha.at_ hx
        obtain ⟨g', o', Y, m', e', rfl, hg', p1, p2, p3, p4⟩ := hb.at_ hy
        obtain ⟨rfl, hxl, hxm⟩ := q2.len
        obtain ⟨rfl, hyl, hym⟩ := p2.len
        have hmx : x.runs.length ≤ maxLen := Nat.le_trans hxl hxm
        have hmy : y.runs.length ≤ maxLen := Nat.le_trans hyl hym
        unfold maxLen at hmx hmy
        have Ht := Lib.hid htk
        have Hx := Lib.hid hx
        have Hy := Lib.hid hy
        clear htk hx hy
        by_cases hd : x.took = y.took ∧ x.runs.length = y.runs.length
        · obtain ⟨hd1, hd2⟩ := hd
          have hd1I : (x.took != y.took) = false := by simp [hd1]
          have hd2I : ((x.runs.length : Int) != (y.runs.length : Int)) = false := by simp [hd2]
          have Hd1 := Lib.hid hd1
          have Hd2 := Lib.hid hd2
          clear hd1 hd2
          go_wp2_with fail
          go_quiet (fail)
          go_wp2_with fail
          go_loopw [6] (fun p wr => ∃ (k n2 : Nat), k ≤ x.runs.length ∧ p = .int .i64 (k : Int) ∧ wr = w.drewN n2 ∧ SameIn x.runs y.runs k) (fun p _ => x.runs.length - (intOf p).toNat)
          case atStart => exact ⟨0, n + nq, Nat.zero_le _, rfl, by simp, by simp [SameIn]⟩
          case round =>
            obtain ⟨k, n2, hk, rfl, rfl, hin⟩ := hrel
            have hk0 : (0 : Int) ≤ (k : Int) := by omega
            by_cases hkl : k < x.runs.length
            · have hklI : (k : Int) < (x.runs.length : Int) := by omega
              have hklJ : (k : Int) < (y.runs.length : Int) := by have := Hd2.out; omega
              obtain ⟨s, hs⟩ : ∃ s, x.runs[k]? = some s := ⟨_, List.getElem?_eq_getElem hkl⟩
              obtain ⟨t, ht⟩ : ∃ s, y.runs[k]? = some s := ⟨_, List.getElem?_eq_getElem (by have := Hd2.out; omega)⟩
              obtain ⟨h1, h2, rfl, h3, h4⟩ := q2.at_ hs
              obtain ⟨h1', h2', rfl, h3', h4'⟩ := p2.at_ ht
              by_cases hst : s = t
              · have hstI : (s != t) = false := by simp [hst]
                have hN : SameIn x.runs y.runs (k + 1) := takeEq_next hin hs (by rw [hst]; exact ht)
                clear hst hs ht hin
                go_wp2_with fail
                go_quiet (fail)
                go_wp2_with fail
                exact ⟨⟨k + 1, n2 + nq, by omega, by go_num, by simp, hN⟩, by simp [intOf]; omega⟩
              · have hstI : (s != t) = true := by simp [hst]
                have hF : decide (a = b) = false := by
                  simp
                  intro e
                  have h1 := Hx.out
                  rw [e, Hy.out] at h1
                  simp only [Option.some.injEq] at h1
                  rw [h1, hs] at ht
                  exact hst (by injection ht)
                clear hst hs ht hin
                go_wp2_with fail
                go_quiet (fail)
                go_wp2_with fail
                exact bodyPost_ret (v := .bool false) (by simp [results, Try.results27, go_sem]) rfl ⟨by first | rfl | rw [hF], n2 + nq, by simp⟩
            · have hklI : ¬ (k : Int) < (x.runs.length : Int) := by omega
              have hN : SameTo a b (q + 1) := takeEq_next Ht.out Hx.out (by
                have h1 := Hd2.out
                unfold SameIn at hin
                rw [List.take_of_length_le (by omega), List.take_of_length_le (by omega)] at hin
                have h2 := Hy.out
                rw [h2]
                cases x; cases y
                simp only [Option.some.injEq, Tn.mk.injEq]
                exact ⟨hin.symm, Hd1.out.symm⟩)
              clear hin
              go_wp2_with fail
              exact ⟨⟨q + 1, n2, by omega, by go_num, rfl, hN⟩, by simp [intOf]; omega⟩
        · have hF : decide (a = b) = false := by
            simp
            intro e
            have h1 := Hx.out
            rw [e, Hy.out] at h1
            simp only [Option.some.injEq] at h1
            exact hd ⟨by rw [h1], by rw [h1]⟩
          by_cases hd1 : x.took = y.took
          · have hd1I : (x.took != y.took) = false := by simp [hd1]
            have hd2I : ((x.runs.length : Int) != (y.runs.length : Int)) = true := by
              simp
              intro e
              exact hd ⟨hd1, by omega⟩
            clear hd hd1
            go_wp2_with fail
            go_quiet (fail)
            go_wp2_with fail
            exact bodyPost_ret (v := .bool false) (by simp [results, Try.results27, go_sem]) rfl ⟨by first | rfl | rw [hF], n + nq, by simp⟩
          · have hd1I : (x.took != y.took) = true := by simp [hd1]
            clear hd hd1
            go_wp2_with fail
            go_big_region
            all_goals go_wp2_with fail
            all_goals exact bodyPost_ret (v := .bool false) (by simp [results, Try.results27, go_sem]) rfl ⟨by first | rfl | rw [hF], n + 1, by simp [World.drewN]⟩
      · have hltI : ¬ (q : Int) < (a.length : Int) := by omega
        have hF : decide (a = b) = true := by
          simp
          have := hnH.out
          unfold SameTo at htk
          rwa [List.take_of_length_le (by omega), List.take_of_length_le (by omega)] at htk
        clear htk
        go_wp2_with fail
        exact bodyPost_ret (v := .bool true) (by simp [results, Try.results27, go_sem]) rfl ⟨by first | rfl | rw [hF], n, rfl⟩
  · have hnI : ((a.length : Int) != (b.length : Int)) = true := by simp; omega
    have hF : decide (a = b) = false := by simp; intro e; exact hn (by rw [e])
    clear hn
    go_enter Try.func27, Try.ntmps27
    go_wp2_with fail
    exact bodyPost_ret (v := .bool false) (by simp [results, Try.results27, go_sem]) rfl ⟨by first | rfl | rw [hF], 0, rfl⟩
end Go.Proofs.Ytchmoalcjbolbaa
