import Derived.Test.YthiaaapcbiameaaDoorB
namespace Go.Proofs.YthiaaapcbiameaaDoor
open Go.RowKit
theorem wraps_end {w w1 : World} {b g cnt n cap i : Nat} {vc mo v0 v1 v2 v3 v4 : Value} {xs : List Value}
    (hb1 : Blk w1 b 55 #[.int .u64 (cnt : Int), .slice (some ⟨g, 0, none⟩) n cap, vc, mo]) (hr1 : Row w1 98 5 (.slice (some ⟨g, 0, none⟩) n cap) n xs)
    (hk1 : Keep (fun k => k = b ∨ (Value.slice (some ⟨g, 0, none⟩) n cap).ownBlock = some k) w w1) (hbg : b ≠ g) :
    NotePost w b cnt n (.slice (some ⟨g, 0, none⟩) n cap) vc mo (((((xs.set (i * 5) v0).set (i * 5 + 1) v1).set (i * 5 + 2) v2).set (i * 5 + 3) v3).set (i * 5 + 4) v4)
      ((((((w1.setCell ⟨g, i * 5, none⟩ v0).setCell ⟨g, i * 5 + 1, none⟩ v1).setCell ⟨g, i * 5 + 2, none⟩ v2).setCell ⟨g, i * 5 + 3, none⟩ v3).setCell ⟨g, i * 5 + 4, none⟩ v4).setCell ⟨b, 0, none⟩ (.int .u64 ((cnt : Int) + 1))).drew := by
  have hF : ∀ k, k = g → (k = b ∨ (Value.slice (some ⟨g, 0, none⟩) n cap).ownBlock = some k) := fun k hk => .inr (by simp [Value.ownBlock, hk])
  refine ⟨_, ?_, ((((((hr1.stored rfl (i * 5) v0).stored rfl (i * 5 + 1) v1).stored rfl (i * 5 + 2) v2).stored rfl (i * 5 + 3) v3).stored rfl (i * 5 + 4) v4).far (p := ⟨b, 0, none⟩) (by simp [Value.ownBlock]; omega) _).drew, ?_, .inl rfl⟩
  · have := ((((((hb1.far (p := ⟨g, i * 5, none⟩) hbg v0).far (p := ⟨g, i * 5 + 1, none⟩) hbg v1).far (p := ⟨g, i * 5 + 2, none⟩) hbg v2).far (p := ⟨g, i * 5 + 3, none⟩) hbg v3).far (p := ⟨g, i * 5 + 4, none⟩) hbg v4).set 0 (.int .u64 ((cnt : Int) + 1))).drew
    simpa using this
  · exact (((((((hk1.setCell (p := ⟨g, i * 5, none⟩) (.inl (hF g rfl)) _).setCell (p := ⟨g, i * 5 + 1, none⟩) (.inl (hF g rfl)) _).setCell (p := ⟨g, i * 5 + 2, none⟩) (.inl (hF g rfl)) _).setCell (p := ⟨g, i * 5 + 3, none⟩) (.inl (hF g rfl)) _).setCell (p := ⟨g, i * 5 + 4, none⟩) (.inl (hF g rfl)) _)).setCell (p := ⟨b, 0, none⟩) (.inl (.inl rfl)) _).drew

set_option maxRecDepth 100000 in
set_option maxHeartbeats 1600000 in
theorem note_wraps (b cnt n i : Nat) (vl vc mo : Value) (xs : List Value) (o a c d : Int) (e : Bool) (w : World)
    (hb : Blk w b 55 #[.int .u64 cnt, vl, vc, mo]) (hr : Row w 98 5 vl n xs) (hn : n = 1024) (hc : cnt < 1000000000) (hi : i = cnt % 1024) :
    Calls Tryd.prog 54 #[.pointer (some ⟨b, 0, none⟩), .agg #[.int .i64 o, .int .i64 a, .int .u64 c, .int .u64 d, .bool e]] w fun e' w' => e' = .returned (.tuple #[]) ∧
      NotePost w b cnt n vl vc mo (((((xs.set (i * 5) (.int .i64 o)).set (i * 5 + 1) (.int .i64 a)).set (i * 5 + 2) (.int .u64 c)).set (i * 5 + 3) (.int .u64 d)).set (i * 5 + 4) (.bool e)) w' := by
  obtain ⟨g, cap, cur, hvl, hg, hnc, hcm, _, _⟩ := hr.addr (by omega)
  have hbg : b ≠ g := hb.ne hg (by decide)
  have hglt := hg.lt
  have h0 := hb.cell 0
  have h1 := hb.cell 1
  have f0 := hb.frozen 0
  have hblt := hb.lt
  subst hvl
  simp at h0 h1
  have hn' : decide ((n : Int) < 1024) = false := by simp; omega
  have n1 : w.heap.size ≠ b := by omega
  have n2 : w.heap.size ≠ g := by omega
  have n3 := Ne.symm hbg
  have n4 := Ne.symm n2
  have hcnt : (0 : Int) ≤ (cnt : Int) := by omega
  have hn2 : (1024 : Int) ≤ (n : Int) := by omega
  have hm1 : (i : Int) < (n : Int) := by omega
  have hm0 : (0 : Int) ≤ (i : Int) := by omega
  have htm : (cnt : Int).tmod 1024 = (i : Int) := by rw [Int.tmod_eq_emod_of_nonneg hcnt]; omega
  have hti : (cnt : Int) % 1024 = (i : Int) := by omega
  clear h0 h1 f0
  have H := Lib.hid hn
  have Hi := Lib.hid hi
  clear hn hi
  have h0 := (hb.alloc (.cells #[.int .i64 o, .int .i64 a, .int .u64 c, .int .u64 d, .bool e] 98)).cell 1
  simp at h0
  go_enter Tryd.func54, Tryd.ntmps54
  go_wp2_with fail
  have hi2 : i < 1024 := by omega
  have hn9 : n = 1024 := H.out
  have hb1 := hb.alloc (.cells #[.int .i64 o, .int .i64 a, .int .u64 c, .int .u64 d, .bool e] 98)
  have hr1 := hr.alloc (.cells #[.int .i64 o, .int .i64 a, .int .u64 c, .int .u64 d, .bool e] 98)
  have hx1 := Blk.new w 98 #[.int .i64 o, .int .i64 a, .int .u64 c, .int .u64 d, .bool e]
  have hk1 := (Keep.refl (fun k => k = b ∨ (Value.slice (some ⟨g, 0, none⟩) n cap).ownBlock = some k) w).alloc (.cells #[.int .i64 o, .int .i64 a, .int .u64 c, .int .u64 d, .bool e] 98)
  revert hb1 hr1 hx1 hk1
  clear h0
  generalize w.alloc (.cells #[.int .i64 o, .int .i64 a, .int .u64 c, .int .u64 d, .bool e] 98) = w1
  intro hb1 hr1 hx1 hk1
  have hk0 := hr1.cells rfl
  have r0 := (hk0 (i * 5) (by omega)).2
  have s0 := (hk0 (i * 5) (by omega)).1
  rw [List.getElem?_eq_getElem (by rw [hr1.1]; omega)] at s0
  generalize xs[i * 5]'(by rw [hr1.1]; omega) = u0 at s0
  have r1 := (hk0 (i * 5 + 1) (by omega)).2
  have s1 := (hk0 (i * 5 + 1) (by omega)).1
  rw [List.getElem?_eq_getElem (by rw [hr1.1]; omega)] at s1
  generalize xs[i * 5 + 1]'(by rw [hr1.1]; omega) = u1 at s1
  have r2 := (hk0 (i * 5 + 2) (by omega)).2
  have s2 := (hk0 (i * 5 + 2) (by omega)).1
  rw [List.getElem?_eq_getElem (by rw [hr1.1]; omega)] at s2
  generalize xs[i * 5 + 2]'(by rw [hr1.1]; omega) = u2 at s2
  have r3 := (hk0 (i * 5 + 3) (by omega)).2
  have s3 := (hk0 (i * 5 + 3) (by omega)).1
  rw [List.getElem?_eq_getElem (by rw [hr1.1]; omega)] at s3
  generalize xs[i * 5 + 3]'(by rw [hr1.1]; omega) = u3 at s3
  have r4 := (hk0 (i * 5 + 4) (by omega)).2
  have s4 := (hk0 (i * 5 + 4) (by omega)).1
  rw [List.getElem?_eq_getElem (by rw [hr1.1]; omega)] at s4
  generalize xs[i * 5 + 4]'(by rw [hr1.1]; omega) = u4 at s4
  have H2 := Lib.hid hn9
  clear hn9 hk0
  have h0 := hb1.cell 0
  have h1 := hb1.cell 1
  have f0 := hb1.frozen 0
  have x0 := hx1.cell 0
  have x1 := hx1.cell 1
  have x2 := hx1.cell 2
  have x3 := hx1.cell 3
  have x4 := hx1.cell 4
  simp at h0 h1 x0 x1 x2 x3 x4
  go_region_held3 (fun w' => w'.cell? ⟨b, 1, none⟩ = some (.slice (some ⟨g, 0, none⟩) n cap) ∧ w'.cell? ⟨b, 0, none⟩ = some (.int .u64 cnt) ∧ w'.cell? ⟨w.heap.size, 0, none⟩ = some (.int .i64 o) ∧ w'.cell? ⟨w.heap.size, 1, none⟩ = some (.int .i64 a) ∧
      w'.cell? ⟨w.heap.size, 2, none⟩ = some (.int .u64 c) ∧ w'.cell? ⟨w.heap.size, 3, none⟩ = some (.int .u64 d) ∧ w'.cell? ⟨w.heap.size, 4, none⟩ = some (.bool e))
    (go_keep) (fail)
  go_wp2
  go_end0
  exact ⟨rfl, wraps_end hb1 hr1 hk1 hbg⟩

/-- How many accesses are remembered behind one more; and what they are, as cells. -/
def pushN (k : Nat) : Nat := if k < 1024 then k + 1 else k
def pushX (k cnt : Nat) (ys : List Value) (v0 v1 v2 v3 v4 : Value) : List Value :=
  if k < 1024 then ys ++ [v0, v1, v2, v3, v4]
  else ((((ys.set (cnt % 1024 * 5) v0).set (cnt % 1024 * 5 + 1) v1).set (cnt % 1024 * 5 + 2) v2).set (cnt % 1024 * 5 + 3) v3).set (cnt % 1024 * 5 + 4) v4

theorem note_any (b cnt n : Nat) (vl vc mo : Value) (xs : List Value) (o a c d : Int) (e : Bool) (w : World)
    (hb : Blk w b 55 #[.int .u64 cnt, vl, vc, mo]) (hr : Row w 98 5 vl n xs) (hn : n ≤ 1024) (hc : cnt < 1000000000) :
    Calls Tryd.prog 54 #[.pointer (some ⟨b, 0, none⟩), .agg #[.int .i64 o, .int .i64 a, .int .u64 c, .int .u64 d, .bool e]] w fun e' w' => e' = .returned (.tuple #[]) ∧
      NotePost w b cnt (pushN n) vl vc mo (pushX n cnt xs (.int .i64 o) (.int .i64 a) (.int .u64 c) (.int .u64 d) (.bool e)) w' := by
  unfold pushN pushX
  by_cases h : n < 1024
  · rw [if_pos h, if_pos h]
    exact note_grows b cnt n vl vc mo xs o a c d e w hb hr h hc
  · rw [if_neg h, if_neg h]
    exact note_wraps b cnt n (cnt % 1024) vl vc mo xs o a c d e w hb hr (by omega) hc rfl
end Go.Proofs.YthiaaapcbiameaaDoor
