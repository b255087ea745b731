/- The law's act, else: Copy. -/
import Derived.Test.YtbojbhjaeekjpaaAc
namespace Go.Proofs.Ytbojbhjaeekjpaa
open Go.RowKit
attribute [local go_sem] Oper.semAt_some

set_option maxRecDepth 100000 in
set_option maxHeartbeats 1600000 in
theorem actg_6 {F : Nat → Prop} {w : World} {b : Nat} {s r : St} {v : Value} (x : ActD) (h : Side F w b s v r) (hx0 : x.what ≠ 0) (hx1 : x.what ≠ 1) (hx2 : x.what ≠ 2) (hx3 : x.what ≠ 3) (hx4 : x.what ≠ 4) (hx5 : x.what ≠ 5) :
    Calls Try.prog 13 #[.pointer (some ⟨b, 0, none⟩), v, x.val] w (ActPost F w v s r true) := by
  obtain ⟨xw, xa, xx, xy⟩ := x
  simp only at hx0 hx1 hx2 hx3 hx4 hx5
  have e0 : (xw == 0) = false := by simpa using hx0
  have e1 : (xw == 1) = false := by simpa using hx1
  have e2 : (xw == 2) = false := by simpa using hx2
  have e3 : (xw == 3) = false := by simpa using hx3
  have e4 : (xw == 4) = false := by simpa using hx4
  have e5 : (xw == 5) = false := by simpa using hx5
  obtain ⟨A0, c0, A0', c0', rfl⟩ := h.ref.form
  have BA : Below w.heap.size w (((w.alloc (.cells #[.slice A0 r.cs.length c0, .int .i64 r.most, .slice A0' r.hist.length c0'] 32)).alloc (.cells #[.int .i64 xw, .int .i64 xa, .int .u64 xx, .int .u64 xy] 40)).alloc (.cells #[.slice none 0 0, .int .i64 0, .slice none 0 0] 32)) :=
    (((Below.refl _ _).alloc (Nat.le_refl _) _).alloc (by simp) _).alloc (by simp; omega) _
  have hAA := h.are.keep (w' := (((w.alloc (.cells #[.slice A0 r.cs.length c0, .int .i64 r.most, .slice A0' r.hist.length c0'] 32)).alloc (.cells #[.int .i64 xw, .int .i64 xa, .int .u64 xx, .int .u64 xy] 40)).alloc (.cells #[.slice none 0 0, .int .i64 0, .slice none 0 0] 32))) (fun k hk _ => BA.block k hk)
  have vbA : Blk (((w.alloc (.cells #[.slice A0 r.cs.length c0, .int .i64 r.most, .slice A0' r.hist.length c0'] 32)).alloc (.cells #[.int .i64 xw, .int .i64 xa, .int .u64 xx, .int .u64 xy] 40)).alloc (.cells #[.slice none 0 0, .int .i64 0, .slice none 0 0] 32)) w.heap.size 32 #[(.slice A0 r.cs.length c0), (.int .i64 r.most), (.slice A0' r.hist.length c0')] := ((Blk.new w 32 _).alloc (.cells #[.int .i64 xw, .int .i64 xa, .int .u64 xx, .int .u64 xy] 40)).alloc (.cells #[.slice none 0 0, .int .i64 0, .slice none 0 0] 32)
  have rsA : Blk (((w.alloc (.cells #[.slice A0 r.cs.length c0, .int .i64 r.most, .slice A0' r.hist.length c0'] 32)).alloc (.cells #[.int .i64 xw, .int .i64 xa, .int .u64 xx, .int .u64 xy] 40)).alloc (.cells #[.slice none 0 0, .int .i64 0, .slice none 0 0] 32)) (w.heap.size + 1 + 1) 32 #[.slice none 0 0, .int .i64 0, .slice none 0 0] := by
    have := Blk.new ((w.alloc (.cells #[.slice A0 r.cs.length c0, .int .i64 r.most, .slice A0' r.hist.length c0'] 32)).alloc (.cells #[.int .i64 xw, .int .i64 xa, .int .u64 xx, .int .u64 xy] 40)) 32 #[.slice none 0 0, .int .i64 0, .slice none 0 0]
    simpa using this
  have y0 := vbA.cell 0
  have y1 := vbA.cell 1
  have y2 := vbA.cell 2
  have z0 := rsA.cell 0
  have z1 := rsA.cell 1
  have z2 := rsA.cell 2
  simp only [List.getElem?_toArray, List.getElem?_cons_zero, List.getElem?_cons_succ] at y0 y1 y2 z0 z1 z2
  have nn0 : w.heap.size + 1 + 1 ≠ w.heap.size := by omega
  unfold ActD.val
  simp only
  go_enter Try.func13, Try.ntmps13
  go_wp2_with fail
  go_region_held3 (fun w' => w'.cell? ⟨w.heap.size, 0, none⟩ = some (.slice A0 r.cs.length c0) ∧ w'.cell? ⟨w.heap.size, 1, none⟩ = some (.int .i64 r.most) ∧ w'.cell? ⟨w.heap.size, 2, none⟩ = some (.slice A0' r.hist.length c0'))
    (first
      | with_reducible exact ⟨y0, y1, y2⟩
      | with_reducible exact ⟨x0, x1, x2⟩
      | ((refine ⟨?_, ?_, ?_⟩ <;> (repeat (rw [World.cell?_setCell_far _ _ _ _ (by with_reducible exact nn0)]))) <;> with_reducible (first | assumption | exact x0 | exact x1 | exact x2))
      | go_keep)
    ((first
    | (go_at_call 19
       refine (Copy_ok _ (F := F) (b := b) (s := s) hAA.drew).mono ?_
       rintro e w2 ⟨b', rfl, hA2, hB2⟩
       have vb2 := vbA.keep (hB2.block _ vbA.lt)
       have rs2 := rsA.keep (hB2.block _ rsA.lt)
       have x0 := vb2.cell 0
       have x1 := vb2.cell 1
       have x2 := vb2.cell 2
       have u0 := rs2.cell 0
       have u1 := rs2.cell 1
       have u2 := rs2.cell 2
       have f0 := rs2.frozen 0
       have f1 := rs2.frozen 1
       have f2 := rs2.frozen 2
       simp at x0 x1 x2 u0 u1 u2)))
  rename_i hHeld
  clear hHeld
  have hE0 := Keep.three w2 (w.heap.size + 1 + 1) (.slice A0 r.cs.length c0) (.int .i64 r.most) (.slice A0' r.hist.length c0')
  have hlA : (((w.alloc (.cells #[.slice A0 r.cs.length c0, .int .i64 r.most, .slice A0' r.hist.length c0'] 32)).alloc (.cells #[.int .i64 xw, .int .i64 xa, .int .u64 xx, .int .u64 xy] 40)).alloc (.cells #[.slice none 0 0, .int .i64 0, .slice none 0 0] 32)).heap.size = w.heap.size + 3 := by simp
  have hlD : (((w.alloc (.cells #[.slice A0 r.cs.length c0, .int .i64 r.most, .slice A0' r.hist.length c0'] 32)).alloc (.cells #[.int .i64 xw, .int .i64 xa, .int .u64 xx, .int .u64 xy] 40)).alloc (.cells #[.slice none 0 0, .int .i64 0, .slice none 0 0] 32)).drew.heap.size = w.heap.size + 3 := hlA
  have hBw : Below w.heap.size w w2 := BA.drew.trans (hB2.mono (show w.heap.size ≤ (((w.alloc (.cells #[.slice A0 r.cs.length c0, .int .i64 r.most, .slice A0' r.hist.length c0'] 32)).alloc (.cells #[.int .i64 xw, .int .i64 xa, .int .u64 xx, .int .u64 xy] 40)).alloc (.cells #[.slice none 0 0, .int .i64 0, .slice none 0 0] 32)).drew.heap.size from by rw [hlD]; omega))
  have hBE : Below w.heap.size w (((w2.setCell ⟨w.heap.size + 1 + 1, 0, none⟩ (.slice A0 r.cs.length c0)).setCell ⟨w.heap.size + 1 + 1, 1, none⟩ (.int .i64 r.most)).setCell ⟨w.heap.size + 1 + 1, 2, none⟩ (.slice A0' r.hist.length c0')) := ((hBw.setCell (p := ⟨w.heap.size + 1 + 1, 0, none⟩) (by simp only; omega) _).setCell (p := ⟨w.heap.size + 1 + 1, 1, none⟩) (by simp only; omega) _).setCell (p := ⟨w.heap.size + 1 + 1, 2, none⟩) (by simp only; omega) _
  have hfin : ActPost F w (.agg #[.slice A0 r.cs.length c0, .int .i64 r.most, .slice A0' r.hist.length c0']) s r true (.returned (.tuple #[.pointer (some ⟨b', 0, none⟩), (.agg #[.slice A0 r.cs.length c0, .int .i64 r.most, .slice A0' r.hist.length c0']), .bool true])) (((w2.setCell ⟨w.heap.size + 1 + 1, 0, none⟩ (.slice A0 r.cs.length c0)).setCell ⟨w.heap.size + 1 + 1, 1, none⟩ (.int .i64 r.most)).setCell ⟨w.heap.size + 1 + 1, 2, none⟩ (.slice A0' r.hist.length c0')) := by
    refine ⟨b', _, (fun k => (((w.alloc (.cells #[.slice A0 r.cs.length c0, .int .i64 r.most, .slice A0' r.hist.length c0'] 32)).alloc (.cells #[.int .i64 xw, .int .i64 xa, .int .u64 xx, .int .u64 xy] 40)).alloc (.cells #[.slice none 0 0, .int .i64 0, .slice none 0 0] 32)).drew.heap.size ≤ k), rfl, ⟨hA2.keep (fun k hk hf => hE0.block k hk (fun e => ?_)), fun k hk => ?_, h.ref.below hBE, fun k hk hf => ?_⟩, Keep.of_below hBE (fun k h1 h2 => absurd h1 (by omega)), fun k hk hf => ?_, fun k hk => .inl hk⟩
    · rw [hlD] at hf; omega
    · have := hB2.size
      have e : (((w2.setCell ⟨w.heap.size + 1 + 1, 0, none⟩ (.slice A0 r.cs.length c0)).setCell ⟨w.heap.size + 1 + 1, 1, none⟩ (.int .i64 r.most)).setCell ⟨w.heap.size + 1 + 1, 2, none⟩ (.slice A0' r.hist.length c0')).heap.size = w2.heap.size := size_three _ _ _ _ _
      rw [e] at hk
      exact Nat.le_trans this hk
    · have := h.ref.lt k hk
      rw [hlD] at hf; omega
    · rw [hlD] at hf; omega
  have rsE := ((rs2.set 0 (.slice A0 r.cs.length c0)).set 1 (.int .i64 r.most)).set 2 (.slice A0' r.hist.length c0')
  have v0 := rsE.cell 0
  have v1 := rsE.cell 1
  have v2 := rsE.cell 2
  simp at v0 v1 v2
  clear hE0 hlA hlD hBw hBE hB2 rsE rs2 vb2 hA2
  go_wp2
  exact bodyPost_ret (v := .tuple #[.pointer (some ⟨b', 0, none⟩), (.agg #[.slice A0 r.cs.length c0, .int .i64 r.most, .slice A0' r.hist.length c0']), .bool true]) (by simp [results, Try.results13, go_sem, v0, v1, v2]) rfl hfin
end Go.Proofs.Ytbojbhjaeekjpaa
