/- The arena's Copy, Same. -/
import Derived.Test.YthiaaapcbiameaaDoorW
namespace Go.Proofs.YthiaaapcbiameaaDoor
open Go.RowKit
attribute [local go_sem] Oper.semAt_some

theorem ring_one (h : List Acc) : ∀ u ∈ (ring h).flatMap Acc.cells, u.oneCell' = true := fun x hx => by
  obtain ⟨a, _, ha⟩ := List.mem_flatMap.1 hx
  simp [Acc.cells] at ha
  rcases ha with rfl | rfl | rfl | rfl | rfl <;> rfl

set_option maxRecDepth 100000 in
set_option maxHeartbeats 1600000 in
theorem Copy_ok {F : Nat → Prop} {b : Nat} {s : St} (w : World) (h : Are F w b s) : Calls Tryd.prog 31 #[.pointer (some ⟨b, 0, none⟩)] w fun e w' => ∃ b', e = .returned (.pointer (some ⟨b', 0, none⟩)) ∧ Are (fun k => w.heap.size ≤ k) w' b' s ∧ Below w.heap.size w w' := by
  have he := exists_are h
  have ha := h
  obtain ⟨vl, vc, hA⟩ := h
  have m3 := hA.blk.cell 3
  have c2 := hA.blk.cell 2
  simp at m3 c2
  obtain ⟨A, c, rfl, hc1, hc2⟩ := hA.cells.form
  go_enter Tryd.func31, Tryd.ntmps31
  go_wp2_with (go_at_call 37; refine he.mono ?_; rintro e w' ⟨rfl, rfl⟩)
  go_region_held3 (fun w' => w'.cell? ⟨b, 3, none⟩ = some (.int .i64 s.most))
    (first
      | go_keep
      | exact k3)
    ((go_at_call 47
      refine (snapshot_any b s.hist.length _ vl (.slice A s.cs.length c) (.int .i64 s.most) _ _ hA.blk.drew hA.last.drew (ring_one _) (by rw [ring_length]; omega)).mono ?_
      rintro e w1 ⟨A1, c1, rfl, hrow1, hown1, hB1⟩
      have b1 := hA.blk.keep (hB1.block _ hA.blk.lt)
      have k3 := b1.cell 3
      simp at k3))
  have hB2 : Below w.heap.size w w1 := (Below.refl w.heap.size w).drew.trans hB1
  have hcp : Are (fun k => w.heap.size ≤ k) (w1.alloc (.cells #[.int .u64 s.hist.length, .slice A1 (ring s.hist).length c1, .slice none 0 0, .int .i64 s.most] 55)) w1.heap.size ⟨s.most, [], s.hist⟩ :=
    ⟨_, .slice none 0 0, Blk.new w1 55 _, Row.nil _ _ _, hrow1.alloc _, hB2.size, hown1, fun k h => by simp [Value.ownBlock] at h, hA.pos, hA.most, Nat.zero_le _⟩
  have hcut := (((hA.cells.cut rfl (Nat.le_refl _) hc1).keep (fun k hk => hB2.block k (hA.cells.lt k (by cases A <;> exact hk)))).alloc (.cells #[.int .u64 s.hist.length, .slice A1 (ring s.hist).length c1, .slice none 0 0, .int .i64 s.most] 55))
  have c2' := (b1.alloc (.cells #[.int .u64 s.hist.length, .slice A1 (ring s.hist).length c1, .slice none 0 0, .int .i64 s.most] 55)).cell 2
  have bX := b1.alloc (.cells #[.int .u64 s.hist.length, .slice A1 (ring s.hist).length c1, .slice none 0 0, .int .i64 s.most] 55)
  have hB3 : Below w.heap.size w (w1.alloc (.cells #[.int .u64 s.hist.length, .slice A1 (ring s.hist).length c1, .slice none 0 0, .int .i64 s.most] 55)) := hB2.alloc hB2.size _
  simp at c2'
  rename_i hHeld
  clear hHeld
  revert hcp hcut c2' hB3 bX
  generalize w1.alloc (.cells #[.int .u64 s.hist.length, .slice A1 (ring s.hist).length c1, .slice none 0 0, .int .i64 s.most] 55) = wX
  intro hcp hcut bX hB3 c2'
  have hlen := hA.len
  have hmost := hA.most
  have hblt := hA.blk.lt
  go_wp2_with fail
  have hext := extend_ok _ s.cs.length s.cs _ hcp.drew (fun k hk => Nat.le_trans hB3.size hk) hcut.drew (by simpa using hlen)
  have kk : ∀ w2, Keep (fun k => w.heap.size ≤ k) wX.drew w2 → w2.cell? ⟨b, 2, none⟩ = some (.slice A s.cs.length c) := fun w2 hk => by
    have := (bX.drew.keep (hk.block b bX.lt (fun e => Nat.not_le.2 hblt e))).cell 2
    simpa using this
  go_region_held3 (fun w' => w'.cell? ⟨b, 2, none⟩ = some (.slice A s.cs.length c))
    (first
      | go_keep
      | exact kk _ hk2)
    ((go_at_call 48
      refine hext.mono ?_
      rintro e w2 ⟨rfl, ha2, hk2⟩))
  go_wp2
  exact bodyPost_ret (v := .pointer (some ⟨w1.heap.size, 0, none⟩)) (by simp [results, Tryd.results31, go_sem]) rfl
    ⟨w1.heap.size, rfl, by simpa using ha2, hB3.drew.trans (hk2.below (fun _ h => h) hB3.size)⟩
end Go.Proofs.YthiaaapcbiameaaDoor
