/- slices.Repeat of a list of one. -/
import Derived.Test.YtleihdakmibmhaaFb
import Derived.Shelf.Bits.Mul64
import Derived.Deep.Cut
import Derived.Laws.CopyRow
import Derived.Laws.MakeOwn
import Derived.Deep.WholeRow
namespace Go.Proofs.Ytleihdakmibmhaa
open Go.RowKit Go.Shelf
attribute [local go_sem] Oper.semAt_some

theorem mul64_one (n : Nat) (hn : n ≤ 1000000) (w : World) : Calls Try.prog 70 #[.int .u64 1, .int .u64 (n : Int)] w fun e w' => e = .returned (.tuple #[.int .u64 0, .int .u64 (n : Int)]) ∧ w = w' := by
  have e1 : bits .and .u64 1 4294967295 = 1 := by decide
  have e2 : bits .and .u64 (n : Int) 4294967295 = (n : Int) := by rw [Mul64.maskN n (by omega)]; omega
  have e3 : (n : Int) / 4294967296 = 0 := by omega
  have e4 : IntKind.u64.wrap (n : Int) = (n : Int) := by rw [IntKind.wrap_u64]; omega
  go_enter Try.func70, Try.ntmps70
  go_wp2
  go_ret2
  exact ⟨rfl, rfl⟩
theorem mul_one6 (n : Nat) (hn : n ≤ 1000000) (w : World) : Calls Try.prog 63 #[.int .u64 1, .int .u64 (n : Int)] w fun e w' => e = .returned (.tuple #[.int .u64 0, .int .u64 (n : Int)]) ∧ w = w' := by
  go_enter Try.func63, Try.ntmps63
  go_wp2_with (go_at_call 70; refine (mul64_one n hn _).mono ?_; rintro e w' ⟨rfl, rfl⟩)
  go_ret2
  exact ⟨rfl, rfl⟩

theorem blkN6 {w : World} {g : Nat} (hg : w.heap.size = g) (t : TypeId) (cs : Array Value) : Blk (w.alloc (.cells cs t)) g t cs := by subst hg; exact Blk.new w t cs
/-- How far the copying is: the first k ints of a block of n. -/
def fillC (n k : Nat) (x : Int) : Array Value := intsOf (List.replicate k x ++ List.replicate (n - k) 0)
theorem fillC_zero (n : Nat) (x : Int) : fillC n 0 x = madeCells #[.int .i64 0] n := by
  apply Array.toList_inj.1
  rw [toList_madeCells_one]
  unfold fillC intsOf
  simp
theorem fillC_full (n : Nat) (x : Int) : fillC n n x = intsOf (List.replicate n x) := by unfold fillC; simp
theorem fillC_size {n k : Nat} (h : k ≤ n) (x : Int) : (fillC n k x).size = n := by unfold fillC; rw [intsOf_size]; simp; omega
theorem fillC_more {n k m : Nat} (h : k + m ≤ n) (x : Int) : ((fillC n k x).toList.take k ++ List.replicate m (Value.int .i64 x) ++ (fillC n k x).toList.drop (k + m)).toArray = fillC n (k + m) x := by
  unfold fillC intsOf
  apply Array.ext_getElem?
  intro i
  simp [List.getElem?_append, List.getElem?_drop, List.getElem?_replicate]
  repeat' split
  all_goals first | rfl | omega
theorem fillC_pre (n : Nat) {k : Nat} (x : Int) {i : Nat} (hi : i < k) : (fillC n k x)[i]? = some (.int .i64 x) := by
  unfold fillC
  exact intsOf_get (by rw [List.getElem?_append_left (by simpa using hi)]; simp [hi])

set_option maxRecDepth 10000 in
set_option maxHeartbeats 1600000 in
theorem repeat_ok (n : Nat) (x : Int) (h0 : 1 ≤ n) (hn : n ≤ 1000) {lo hi : Nat} {u : Value} (w : World) (h : IntsI w lo hi u [x]) :
    Calls Try.prog 52 #[u, .int .i64 (n : Int)] w fun e w' => e = .returned (.slice (some ⟨w.heap.size, 0, none⟩) n n) ∧ Blk w' w.heap.size 3 (intsOf (List.replicate n x)) ∧ Below w.heap.size w w' := by
  obtain ⟨A, c, rfl, h1, h2⟩ := h.form
  simp only [List.length_cons, List.length_nil, Nat.zero_add] at h1 ⊢
  obtain ⟨b, o, rfl, _, _, c0, _⟩ := h.at_ (i := 0) (x := x) rfl
  simp only [Nat.add_zero] at c0
  have e4 : IntKind.u64.wrap (n : Int) = (n : Int) := by rw [IntKind.wrap_u64]; omega
  have e5 : IntKind.u64.wrap 1 = 1 := by rw [IntKind.wrap_u64]; omega
  have e6 : IntKind.i64.wrap (n : Int) = (n : Int) := IntWalk.i64_in _ (by omega)
  have hi0 : (1 : Int) ≤ (n : Int) := by omega
  have hi1 : (n : Int) ≤ 1000 := by omega
  clear h
  go_enter Try.func52, Try.ntmps52
  go_upto_region 4 with (go_at_call 63; refine (mul_one6 n (by omega) _).mono ?_; rintro e w' ⟨rfl, rfl⟩)
  obtain ⟨i0, hi0', hz0, hz1, hz2⟩ := info_parts6 intInfo
  have hmk : (Instr.makeSlice 45 (.int .i64 (n : Int)) (.int .i64 (n : Int))).run Try.prog w = .ok (.slice (some ⟨w.heap.size, 0, none⟩) n n) (w.alloc (.cells (fillC n 0 x) 3)) := by
    have hr := run_make (P := Try.prog) w 45 3 i0 _ Try.underlying45 hi0' hz0 .i64 .i64 n n (by omega) (Int.le_refl _) (by rw [hz2]; omega) (by omega)
    rw [fillC_zero]
    simpa [hz1, Value.cells] using hr
  have hsz1 : (Try.prog.info? 3).map (·.size) = some 1 := by rw [hi0']; simp [hz1]
  have hcp : ∀ ty, (Builtin.copy_ #[45, 45] ty #[.slice (some ⟨w.heap.size, 0, none⟩) n n, .slice (some ⟨b, o, none⟩) 1 c]).run Try.prog (w.alloc (.cells (fillC n 0 x) 3)) = .ok (.int .i64 1) (w.alloc (.cells (fillC n 1 x) 3)) := fun ty => by
    have hr := run_copy_row (P := Try.prog) (w.alloc (.cells (fillC n 0 x) 3)) 45 45 ty 3 w.heap.size 0 n n ⟨b, o, none⟩ 1 c _ 3 [.int .i64 x] Try.underlying45 hsz1 (heap_alloc_new w _) (Nat.min_eq_left (by omega)).symm
      (fun j v hv => by
        have : j = 0 := by
          have := (List.getElem?_eq_some_iff.1 hv).1
          simp at this
          exact this
        subst this
        simp at hv
        subst hv
        rw [Addr.add_lit]
        have hb := lt_of_cell c0
        exact (cell_same (p := ⟨b, o, none⟩) (Below.heap_alloc w _ b hb)).trans c0) (by rw [fillC_size (by omega)]; simp; omega) (by simp [Value.oneCell'])
    rw [hr, World.setRow_alloc_new]
    have hm := fillC_more (n := n) (k := 0) (m := 1) (by omega) x
    simp at hm
    simp [hm, goInt]
  have hck : ∀ ty (k : Nat) (W : World), 1 ≤ k → k < n → Blk W w.heap.size 3 (fillC n k x) → (Builtin.copy_ #[45, 45] ty #[.slice (some ⟨w.heap.size, k, none⟩) (n - k) (n - k), .slice (some ⟨w.heap.size, 0, none⟩) k n]).run Try.prog W = .ok (.int .i64 ((min k (n - k) : Nat) : Int)) (W.setRow w.heap.size (fillC n (k + min k (n - k)) x)) := fun ty k W hk1 hk2 hB => by
    have hr := run_copy_row (P := Try.prog) W 45 45 ty 3 w.heap.size k (n - k) (n - k) ⟨w.heap.size, 0, none⟩ k n _ 3 (List.replicate (min k (n - k)) (.int .i64 x)) Try.underlying45 hsz1 hB (by simp; try rfl)
      (fun j v hv => by
        have hj := (List.getElem?_eq_some_iff.1 hv).1
        simp at hj
        rw [List.getElem?_replicate, if_pos (by omega)] at hv
        cases hv
        rw [Addr.add_lit, hB.cell]
        exact fillC_pre n x (by omega)) (by rw [fillC_size (by omega)]; simp; omega) (by intro v hv; rw [(List.mem_replicate.1 hv).2]; rfl)
    rw [hr]
    have hm := fillC_more (n := n) (k := k) (m := min k (n - k)) (by omega) x
    simp at hm
    simp [hm, goInt]
  have HC := Lib.hid hcp
  have HM := Lib.hid hmk
  have HK := Lib.hid hck
  clear hcp hmk hck e5 c0 hi0' hz0 hz1 hz2 hsz1 i0
  have hbig : decide ((9223372036854775807 : Int) < (n : Int)) = false := decide_eq_false (by omega)
  go_upto_region 6 with fail
  clear hbig
  have hmk := HM.out
  go_upto_region 7 with fail
  clear hmk
  have hcp := HC.out
  go_wp2_with fail
  clear hcp
  obtain ⟨g, hg⟩ : ∃ g, w.heap.size = g := ⟨_, rfl⟩
  have hB0 : Blk (w.alloc (.cells (fillC n 1 x) 3)) g 3 (fillC n 1 x) := blkN6 hg 3 _
  have hL0 : Below g w (w.alloc (.cells (fillC n 1 x) 3)) := (Below.refl _ w).alloc (by omega) _
  rw [hg] at HK ⊢
  have HG := Lib.hid hg
  clear hg HC HM
  go_loopw [8] (fun p wr => ∃ k : Nat, 1 ≤ k ∧ k ≤ n ∧ p = .int .i64 (k : Int) ∧ Hid (Blk wr g 3 (fillC n k x) ∧ Below g w wr)) (fun p _ => n - (intOf p).toNat)
  case atStart => exact ⟨1, by omega, h0, rfl, Lib.hid ⟨hB0, hL0⟩⟩
  case round =>
    obtain ⟨k, hk1, hk2, rfl, hBL⟩ := hrel
    clear hB0 hL0
    by_cases hlt : k < n
    · have hk0 : (0 : Int) ≤ (k : Int) := by omega
      have hkn : (k : Int) < (n : Int) := by omega
      have hkn' : (k : Int) ≤ (n : Int) := by omega
      have hne : ¬ n = k := by omega
      have hcp := fun ty => HK.out ty k wr.drew hk1 hlt hBL.out.1.drew
      have hle := Nat.min_le_right k (n - k)
      have hge : 1 ≤ min k (n - k) := by omega
      obtain ⟨m, hm⟩ : ∃ m, min k (n - k) = m := ⟨_, rfl⟩
      rw [hm] at hcp hle hge
      clear hm
      have hw : IntKind.i64.wrap ((k : Int) + (m : Int)) = (k : Int) + (m : Int) := IntWalk.i64_in _ (by omega)
      go_upto_region 9 with fail
      go_region
      clear hcp
      go_wp2_with fail
      exact ⟨⟨k + m, by omega, by omega, by go_num, Lib.hid ⟨hBL.out.1.drew.setRow6 _, below_setRow6 hBL.out.2.drew (Nat.le_refl _) _⟩⟩, by simp [intOf]; omega⟩
    · have hkn : ¬ (k : Int) < (n : Int) := by omega
      obtain rfl : k = n := by omega
      go_wp2_with fail
      go_ret
      rw [HG.out]
      exact ⟨rfl, by rw [← fillC_full]; exact hBL.out.1, hBL.out.2⟩
end Go.Proofs.Ytleihdakmibmhaa
