/- Index, the reference's Next, Picks, upTo. -/
import Derived.Test.YtchmoalcjbolbaaB
namespace Go.Proofs.Ytchmoalcjbolbaa
open Go.RowKit Go.Shelf
attribute [local go_sem] Oper.semAt_some

def idxOf (x n : Int) : Int × Bool := if n < 1 then (0, false) else (wrap64 (x.tmod n), true)

theorem wrap_u64_nonneg {n : Int} (h : 1 ≤ n) (hw : W64 n) : IntKind.u64.wrap n = n := by
  unfold W64 at hw
  simp only [IntKind.wrap, IntKind.bits, IntKind.signed]
  simp
  omega

set_option maxHeartbeats 800000 in
theorem Index_ok (x n : Int) (w : World) (hw : W64 n) : Calls Try.prog 9 #[.int .u64 x, .int .i64 n] w fun e w' =>
    e = .returned (.tuple #[.int .i64 (idxOf x n).1, .bool (idxOf x n).2]) ∧ w = w' := by
  by_cases hn : n < 1
  · have hE : idxOf x n = (0, false) := if_pos hn
    rw [hE]
    go_enter Try.func9, Try.ntmps9
    go_wp2_with fail
    go_ret2
    exact ⟨rfl, rfl⟩
  · have hE : idxOf x n = (wrap64 (x.tmod n), true) := if_neg hn
    rw [hE]
    have hwr := wrap_u64_nonneg (show 1 ≤ n by omega) hw
    have hn0 : ¬ n = 0 := by omega
    go_enter Try.func9, Try.ntmps9
    go_wp2_with fail
    go_ret2
    exact ⟨rfl, rfl⟩

set_option maxHeartbeats 800000 in
theorem refIndex_ok (x n : Int) (w : World) (hw : W64 n) : Calls Try.prog 10 #[.int .u64 x, .int .i64 n] w fun e w' =>
    e = .returned (.tuple #[.int .i64 (idxOf x n).1, .bool (idxOf x n).2]) ∧ w = w' := by
  by_cases hn : n < 1
  · have hE : idxOf x n = (0, false) := if_pos hn
    rw [hE]
    go_enter Try.func10, Try.ntmps10
    go_wp2_with fail
    go_ret2
    exact ⟨rfl, rfl⟩
  · have hE : idxOf x n = (wrap64 (x.tmod n), true) := if_neg hn
    rw [hE]
    have hwr := wrap_u64_nonneg (show 1 ≤ n by omega) hw
    have hn0 : ¬ n = 0 := by omega
    go_enter Try.func10, Try.ntmps10
    go_wp2_with fail
    go_ret2
    exact ⟨rfl, rfl⟩

def NoneUpTo (last : Int) (rs : List Int) (k : Nat) : Prop := ∀ x ∈ rs.take k, ¬ last < x

set_option maxRecDepth 100000 in
set_option maxHeartbeats 1600000 in
theorem refNext_ok (last : Int) (v : Value) (rs : List Int) (w : World) (hv : Ints w v rs) : Calls Try.prog 12 #[.int .i64 last, v] w fun e w' =>
    e = .returned (.tuple #[.int .i64 (nextOf last rs).1, .bool (nextOf last rs).2]) ∧ w = w' := by
  obtain ⟨A, c, rfl, hc1, hc2⟩ := hv.form
  have hm : rs.length ≤ maxLen := Nat.le_trans hc1 hc2
  unfold maxLen at hm
  go_enter Try.func12, Try.ntmps12
  go_wp2_with fail
  go_loopw [6] (fun p wr => ∃ k : Nat, k ≤ rs.length ∧ p = .int .i64 (k : Int) ∧ wr = w ∧ NoneUpTo last rs k) (fun p _ => rs.length - (intOf p).toNat)
  case atStart => exact ⟨0, Nat.zero_le _, rfl, rfl, by simp [NoneUpTo]⟩
  case round =>
    obtain ⟨k, hk, rfl, rfl, hN⟩ := hrel
    have hk0 : (0 : Int) ≤ (k : Int) := by omega
    by_cases hlt : k < rs.length
    · have hltI : (k : Int) < (rs.length : Int) := by omega
      obtain ⟨x, hx⟩ : ∃ x, rs[k]? = some x := ⟨_, List.getElem?_eq_getElem hlt⟩
      obtain ⟨b, o, rfl, hb, q0⟩ := hv.at_ hx
      by_cases hl : last < x
      · have hE : nextOf last rs = (x, true) := nextOf_hit hx hl hN
        clear hx
        go_wp2_with fail
        go_ret2
        exact ⟨by first | rfl | (rw [hE]; rfl) | rw [hE], rfl⟩
      · have hN' : NoneUpTo last rs (k + 1) := by
          unfold NoneUpTo
          rw [(parts_at hx).2]
          intro y hy
          rcases List.mem_append.1 hy with hy | hy
          · exact hN y hy
          · simp at hy; subst hy; exact hl
        clear hx
        go_wp2_with fail
        exact ⟨⟨k + 1, by omega, by go_num, trivial, hN'⟩, by simp [intOf]; omega⟩
    · have hltI : ¬ (k : Int) < (rs.length : Int) := by omega
      have hN' : ∀ x ∈ rs, ¬ last < x := by
        unfold NoneUpTo at hN
        rwa [List.take_of_length_le (by omega)] at hN
      have Hn := Lib.hid hN'
      clear hN' hN
      by_cases h0 : rs.length = 0
      · have hE : nextOf last rs = (0, false) := by rw [List.eq_nil_of_length_eq_zero h0]; rfl
        have hz : ((rs.length : Int) == 0) = true := by simp [h0]
        clear h0
        go_wp2_with fail
        go_ret2
        exact ⟨by first | rfl | (rw [hE]; rfl) | rw [hE], rfl⟩
      · obtain ⟨t0, ht0⟩ : ∃ x, rs[0]? = some x := ⟨_, List.getElem?_eq_getElem (by omega)⟩
        obtain ⟨b, o, rfl, hb, q0⟩ := hv.at_ ht0
        rw [Nat.add_zero] at q0
        have hE : nextOf last rs = (t0, true) := nextOf_miss ht0 Hn.out
        have hpos : (0 : Int) < (rs.length : Int) := by omega
        have hz : ((rs.length : Int) == 0) = false := by rw [beq_eq_false_iff_ne]; omega
        clear ht0 h0
        go_wp2_with fail
        go_ret2
        exact ⟨by first | rfl | (rw [hE]; rfl) | rw [hE], rfl⟩

/-- A slice of bytes that is read. -/
def Bys (W : World) (u : Value) (xs : List Int) : Prop :=
  ∃ A c, u = .slice A xs.length c ∧ xs.length ≤ c ∧ c ≤ maxLen ∧ (∀ x ∈ xs, 0 ≤ x ∧ x < 256) ∧
    (xs ≠ [] → ∃ b o, A = some ⟨b, o, none⟩ ∧ b < W.heap.size ∧ ∀ i x, xs[i]? = some x → W.cell? ⟨b, o + i, none⟩ = some (.int .u8 x))
theorem Bys.kept {W W' : World} {u : Value} {xs : List Int} (h : Bys W u xs) (hk : CellsKept W W') : Bys W' u xs := by
  obtain ⟨A, c, rfl, h1, h2, hw, h3⟩ := h
  refine ⟨A, c, rfl, h1, h2, hw, fun hne => ?_⟩
  obtain ⟨b, o, rfl, hb, hc⟩ := h3 hne
  obtain ⟨x, hx⟩ : ∃ x, xs[0]? = some x := by
    cases xs with
    | nil => exact absurd rfl hne
    | cons x t => exact ⟨x, rfl⟩
  exact ⟨b, o, rfl, by simpa using hk.lt (hc 0 x hx), fun i x hx => hk _ _ (hc i x hx)⟩
theorem Bys.at_ {W : World} {A : Option Addr} {n c : Nat} {xs : List Int} (h : Bys W (.slice A n c) xs) {i : Nat} {x : Int} (hx : xs[i]? = some x) :
    ∃ b o, A = some ⟨b, o, none⟩ ∧ b < W.heap.size ∧ W.cell? ⟨b, o + i, none⟩ = some (.int .u8 x) := by
  obtain ⟨A', c', hv, h1, h2, hw, h3⟩ := h
  simp only [Value.slice.injEq] at hv
  obtain ⟨rfl, rfl, rfl⟩ := hv
  obtain ⟨b, o, rfl, hb, hc⟩ := h3 (by rintro rfl; simp at hx)
  exact ⟨b, o, rfl, hb, hc i x hx⟩

/-- What a row is while it is filled from its head. -/
def fillTo (f : Nat → Value) (z : Value) (n k : Nat) : List Value := (List.range n).map fun i => if i < k then f i else z
theorem fillTo_zero (f : Nat → Value) (z : Value) (n : Nat) : fillTo f z n 0 = List.replicate n z := by
  unfold fillTo
  simp [List.map_const']
theorem madeCells_one (z : Value) (n : Nat) : madeCells #[z] n = (List.replicate n z).toArray := by
  rw [← toList_madeCells_one]
theorem fillTo_all (f : Nat → Value) (z : Value) (n : Nat) : fillTo f z n n = (List.range n).map f := by
  unfold fillTo
  refine List.map_congr_left fun i hi => ?_
  rw [if_pos (List.mem_range.1 hi)]
theorem fillTo_set (f : Nat → Value) (z : Value) (n k : Nat) : (fillTo f z n k).set k (f k) = fillTo f z n (k + 1) := by
  unfold fillTo
  refine List.ext_getElem? fun i => ?_
  rw [List.getElem?_set]
  by_cases h : k = i
  · subst h
    by_cases h2 : k < n
    · simp [h2]
    · simp [h2]
  · rw [if_neg h]
    simp only [List.getElem?_map]
    by_cases h2 : i < n
    · rw [List.getElem?_range h2]
      simp only [Option.map_some]
      congr 1
      by_cases h3 : i < k
      · rw [if_pos h3, if_pos (by omega)]
      · rw [if_neg h3, if_neg (by omega)]
    · rw [List.getElem?_eq_none (by simp; omega)]
      rfl
theorem fillTo_length (f : Nat → Value) (z : Value) (n k : Nat) : (fillTo f z n k).length = n := by simp [fillTo]

def upA (n : Nat) : Array Value := ((List.range n).map fun (i : Nat) => Value.int .i64 (i : Int)).toArray

theorem Try.info3 : (Try.prog.info? 3).map (fun i => (i.zero, i.size, i.bytes)) = some (some (.int .i64 0), 1, 8) := by kernel_rfl
theorem Try.info22 : (Try.prog.info? 22).map (fun i => (i.zero, i.size, i.bytes)) = some (some (.int .u64 0), 1, 8) := by kernel_rfl

set_option maxRecDepth 100000 in
set_option maxHeartbeats 1600000 in
theorem upTo_ok (n : Nat) (hn : n ≤ 4096) (w : World) : Calls Try.prog 43 #[.int .i64 (n : Int)] w fun e w' =>
    e = .returned (.slice (some ⟨w.heap.size, 0, none⟩) n n) ∧ Blk w' w.heap.size 3 (upA n) ∧ Below w.heap.size w w' := by
  obtain ⟨i0, hi0, hz0, hz1, hz2⟩ := info_parts Try.info3
  have hmk : ∀ W : World, (Instr.makeSlice 24 (.int .i64 (n : Int)) (.int .i64 (n : Int))).run Try.prog W = .ok (.slice (some ⟨W.heap.size, 0, none⟩) n n) (W.alloc (.cells (madeCells #[.int .i64 0] n) 3)) := fun W => by
    have hr := run_make (P := Try.prog) W 24 3 i0 _ Try.underlying24 hi0 hz0 .i64 .i64 n n (by omega) (Int.le_refl _) (by rw [hz2]; omega) (by omega)
    simpa [hz1, Value.cells] using hr
  have hb0 : Blk (w.alloc (.cells (madeCells #[.int .i64 0] n) 3)) w.heap.size 3 (fillTo (fun i => .int .i64 (i : Int)) (.int .i64 0) n 0).toArray := by
    rw [fillTo_zero, ← madeCells_one]
    exact Blk.new w 3 (madeCells #[.int .i64 0] n)
  have hnI : (n : Int) ≤ 4096 := by omega
  go_enter Try.func43, Try.ntmps43
  go_wp2_with fail
  go_loopw [9] (fun p wr => ∃ k : Nat, k ≤ n ∧ p = .int .i64 (k : Int) ∧ Blk wr w.heap.size 3 (fillTo (fun i => .int .i64 (i : Int)) (.int .i64 0) n k).toArray ∧ Below w.heap.size w wr) (fun p _ => n - (intOf p).toNat)
  case atStart => exact ⟨0, Nat.zero_le _, rfl, hb0, (Below.refl _ w).alloc (Nat.le_refl _) _⟩
  case round =>
    obtain ⟨k, hk, rfl, hB, hL⟩ := hrel
    have hk0 : (0 : Int) ≤ (k : Int) := by omega
    by_cases hlt : k < n
    · have hltI : (k : Int) < (n : Int) := by omega
      have q0 := hB.cell k
      have f0 := hB.frozen k
      rw [List.getElem?_toArray, List.getElem?_eq_getElem (by rw [fillTo_length]; exact hlt)] at q0
      have hB' := hB.set k (.int .i64 (k : Int))
      rw [List.setIfInBounds_toArray, fillTo_set] at hB'
      have hL' : Below w.heap.size w (wr.setCell ⟨w.heap.size, k, none⟩ (.int .i64 (k : Int))) := hL.setCell (Nat.le_refl _) _
      have Hb := Lib.hid hB'
      have Hl := Lib.hid hL'
      clear hB hB' hL hL'
      go_wp2_with fail
      exact ⟨⟨k + 1, by omega, by go_num, Hb.out, Hl.out⟩, by simp [intOf]; omega⟩
    · have hltI : ¬ (k : Int) < (n : Int) := by omega
      obtain rfl : k = n := by omega
      rw [fillTo_all] at hB
      go_wp2_with fail
      go_ret
      exact ⟨rfl, hB, hL⟩

set_option maxRecDepth 100000 in
set_option maxHeartbeats 1600000 in
theorem Picks_ok (v : Value) (bs : List Int) (w : World) (hv : Bys w v bs) (hl : bs.length ≤ 4096) : Calls Try.prog 13 #[v] w fun e w' =>
    e = .returned (.slice (some ⟨w.heap.size, 0, none⟩) bs.length bs.length) ∧ Blk w' w.heap.size 22 (((List.range bs.length).map fun i => Value.int .u64 (bs[i]?.getD 0)).toArray) ∧ Below w.heap.size w w' := by
  obtain ⟨i0, hi0, hz0, hz1, hz2⟩ := info_parts Try.info22
  have hv' := hv
  obtain ⟨A, c, rfl, hc1, hc2, hw, _⟩ := hv'
  obtain ⟨n, hn⟩ : ∃ n, bs.length = n := ⟨_, rfl⟩
  rw [hn] at hv hl hc1 ⊢
  have hmk : ∀ W : World, (Instr.makeSlice 30 (.int .i64 (n : Int)) (.int .i64 (n : Int))).run Try.prog W = .ok (.slice (some ⟨W.heap.size, 0, none⟩) n n) (W.alloc (.cells (madeCells #[.int .u64 0] n) 22)) := fun W => by
    have hr := run_make (P := Try.prog) W 30 22 i0 _ Try.underlying30 hi0 hz0 .i64 .i64 n n (by omega) (Int.le_refl _) (by rw [hz2]; omega) (by omega)
    simpa [hz1, Value.cells] using hr
  have hb0 : Blk (w.alloc (.cells (madeCells #[.int .u64 0] n) 22)) w.heap.size 22 (fillTo (fun i => .int .u64 (bs[i]?.getD 0)) (.int .u64 0) n 0).toArray := by
    rw [fillTo_zero, ← madeCells_one]
    exact Blk.new w 22 (madeCells #[.int .u64 0] n)
  have hnI : (n : Int) ≤ 4096 := by omega
  have Hn := Lib.hid hn
  clear hn
  go_enter Try.func13, Try.ntmps13
  go_wp2_with fail
  go_loopw [11] (fun p wr => ∃ k : Nat, k ≤ n ∧ p = .int .i64 (k : Int) ∧ Blk wr w.heap.size 22 (fillTo (fun i => .int .u64 (bs[i]?.getD 0)) (.int .u64 0) n k).toArray ∧ Below w.heap.size w wr) (fun p _ => n - (intOf p).toNat)
  case atStart => exact ⟨0, Nat.zero_le _, rfl, hb0, (Below.refl _ w).alloc (Nat.le_refl _) _⟩
  case round =>
    obtain ⟨k, hk, rfl, hB, hL⟩ := hrel
    have hk0 : (0 : Int) ≤ (k : Int) := by omega
    by_cases hlt : k < n
    · have hltI : (k : Int) < (n : Int) := by omega
      obtain ⟨x, hx⟩ : ∃ x, bs[k]? = some x := ⟨_, List.getElem?_eq_getElem (by have := Hn.out; omega)⟩
      obtain ⟨b, o, rfl, hb, q1⟩ := (hv.kept (kept_below hL (Nat.le_refl _))).at_ hx
      have hb' : b < w.heap.size := by
        obtain ⟨b', o', e, hb', _⟩ := hv.at_ hx
        simp only [Option.some.injEq, Addr.mk.injEq] at e
        obtain ⟨rfl, _⟩ := e
        exact hb'
      have hwx := hw x (List.mem_of_getElem? hx)
      have hwr : IntKind.u64.wrap x = x := by simp only [IntKind.wrap, IntKind.bits, IntKind.signed]; simp; omega
      have q0 := hB.cell k
      have f0 := hB.frozen k
      rw [List.getElem?_toArray, List.getElem?_eq_getElem (by rw [fillTo_length]; exact hlt)] at q0
      have hB' := hB.set k (.int .u64 (bs[k]?.getD 0))
      rw [List.setIfInBounds_toArray, fillTo_set (fun i => Value.int .u64 (bs[i]?.getD 0)), hx] at hB'
      simp only [Option.getD_some] at hB'
      have hL' : Below w.heap.size w (wr.setCell ⟨w.heap.size, k, none⟩ (.int .u64 x)) := hL.setCell (Nat.le_refl _) _
      have Hb := Lib.hid hB'
      have Hl := Lib.hid hL'
      clear hB hB' hL hL' hx hw hwx
      go_wp2_with fail
      exact ⟨⟨k + 1, by omega, by go_num, Hb.out, Hl.out⟩, by simp [intOf]; omega⟩
    · have hltI : ¬ (k : Int) < (n : Int) := by omega
      obtain rfl : k = n := by omega
      rw [fillTo_all] at hB
      go_wp2_with fail
      go_ret
      exact ⟨rfl, hB, hL⟩
end Go.Proofs.Ytchmoalcjbolbaa
