/- New, extend, Alloc. -/
import Derived.Test.YthiaaapcbiameaaDoorH
import Derived.WalkSmall
namespace Go.Proofs.YthiaaapcbiameaaDoor
open Go.RowKit

def NewPost (w : World) (m : Nat) (e : Ending) (w' : World) : Prop :=
  ∃ b, e = .returned (.tuple #[.pointer (some ⟨b, 0, none⟩), .int .i64 0]) ∧ Are (fun k => w.heap.size ≤ k) w' b ⟨m, [], []⟩ ∧ Below w.heap.size w w'

theorem new_end {w w1 : World} {m : Nat} (h1 : 1 ≤ m) (h2 : m ≤ 65536) (hB : Below w.heap.size w w1) :
    NewPost w m (.returned (.tuple #[.pointer (some ⟨w1.heap.size, 0, none⟩), .int .i64 0])) (w1.alloc (.cells #[.int .u64 0, .slice none 0 0, .slice none 0 0, .int .i64 m] 55)) :=
  ⟨_, rfl, ⟨.slice none 0 0, .slice none 0 0, Blk.new w1 55 _, Row.nil _ _ _, Row.nil _ _ _, hB.size, fun k h => by simp [Value.ownBlock] at h, fun k h => by simp [Value.ownBlock] at h, h1, h2, Nat.zero_le _⟩, hB.alloc hB.size _⟩

set_option maxRecDepth 100000 in
set_option maxHeartbeats 800000 in
theorem New_ok (m : Nat) (w : World) (h1 : 1 ≤ m) (h2 : m ≤ 65536) : Calls Tryd.prog 8 #[.int .i64 m] w (NewPost w m) := by
  have h3 : (1 : Int) ≤ (m : Int) := by omega
  have h4 : (m : Int) ≤ 65536 := by omega
  go_enter Tryd.func8, Tryd.ntmps8
  go_wp2
  refine wp_scope_fwd 0 rfl ?_
  go_wp2_with (go_at_call 20; refine (inside_yes _ _ _ _ (by assumption) (by assumption)).mono ?_; rintro e w2 ⟨rfl, hB⟩)
  go_step3
  go_wp2
  go_ret2
  exact new_end h1 h2 hB

set_option maxRecDepth 100000 in
set_option maxHeartbeats 800000 in
theorem New_err (m : Int) (w : World) (h : m < 1 ∨ 65536 < m) : Calls Tryd.prog 8 #[.int .i64 m] w fun e w' => e = .returned (.tuple #[.pointer none, .int .i64 2]) ∧ Below w.heap.size w w' := by
  go_enter Tryd.func8, Tryd.ntmps8
  go_wp2
  refine wp_scope_fwd 0 rfl ?_
  go_wp2_with (go_at_call 20; refine (inside_no _ _ _ _ (by assumption)).mono ?_; rintro e w2 ⟨rfl, hB⟩)
  go_step3
  refine ⟨rfl, ?_⟩
  go_wp2
  (try rw [Exit.noGoto_ret])
  go_ret2
  exact ⟨rfl, hB⟩

theorem info38 : (Tryd.prog.info? 48).map (fun i => (i.zero, i.size, i.bytes)) = some (some (.int .u64 0), 1, 8) := by kernel_rfl

def ExtPost (F : Nat → Prop) (w : World) (b : Nat) (s : St) (ys : List Int) (e : Ending) (w' : World) : Prop :=
  e = .returned (.tuple #[]) ∧ Are F w' b { s with cs := s.cs ++ ys } ∧ Keep F w w'

theorem ext_end {F : Nat → Prop} {w w1 : World} {b m c c' d : Nat} {A A' : Option Addr} {s : St} {vl vc : Value} {ys : List Int} (h : Ar F w b s vl vc) (hF : ∀ k, w.heap.size ≤ k → F k) (hvc : vc = .slice A s.cs.length c)
    (hown : Row w1 48 1 (.slice A' (s.cs.length + m) c') (s.cs.length + m) (s.cs.map (Value.int .u64) ++ ys.map (Value.int .u64))) (hgrow : w.grownBy w1 (Value.slice A s.cs.length c).ownBlock)
    (hat : (Value.slice A' (s.cs.length + m) c').ownBlock = (Value.slice A s.cs.length c).ownBlock ∨ (Value.slice A' (s.cs.length + m) c').ownBlock = some w.heap.size) (h1 : d ≤ c') (h2 : s.cs.length + m ≤ d ∧ s.cs.length + m ≤ s.most) :
    Are F (w1.setCell ⟨b, 2, none⟩ (.slice A' (s.cs.length + m) d)) b { s with cs := s.cs ++ ys } ∧ Keep F w (w1.setCell ⟨b, 2, none⟩ (.slice A' (s.cs.length + m) d)) := by
  subst hvc
  have hb1 := h.blk.keep (hgrow.block b h.blk.lt (fun e => h.cells.ne_blk h.blk (by decide) e.symm))
  have hl1 := h.last.keep (w' := w1) (fun k hk => hgrow.block k (h.last.lt k hk) (fun e => h.last.ne_row h.cells (by decide) k hk e.symm))
  have hcut := hown.cut rfl h2.1 h1
  have hm : m = ys.length := by have := hown.1; simp at this; omega
  have hown' : (Value.slice A' (s.cs.length + m) d).ownBlock = (Value.slice A' (s.cs.length + m) c').ownBlock := by cases A' <;> rfl
  refine ⟨⟨vl, .slice A' (s.cs.length + m) d, ?_, ?_, hl1.far (p := ⟨b, 2, none⟩) (hl1.ne_blk hb1 (by decide)) _, h.fb, h.fl, ?_, h.pos, h.most, ?_⟩, ?_⟩
  · have := hb1.set 2 (.slice A' (s.cs.length + m) d)
    simpa using this
  · have := hcut.far (p := ⟨b, 2, none⟩) (hcut.ne_blk hb1 (by decide)) (.slice A' (s.cs.length + m) d)
    rw [← List.map_append] at this
    show Row _ 48 1 _ (s.cs ++ ys).length _
    rw [List.length_append, ← hm]
    exact this
  · intro k hk
    rw [hown'] at hk
    rcases hat with e | e
    · exact h.fc k (e ▸ hk)
    · rw [e] at hk; injection hk with hk; subst hk; exact hF _ (Nat.le_refl _)
  · show (s.cs ++ ys).length ≤ s.most
    rw [List.length_append, ← hm]; exact h2.2
  · exact ((Keep.refl F w).grown hgrow (fun k hk => .inl (h.fc k hk))).setCell (p := ⟨b, 2, none⟩) (.inl h.fb) _

set_option maxRecDepth 100000 in
set_option maxHeartbeats 1600000 in
theorem extend_ok {F : Nat → Prop} {b : Nat} {s : St} (v : Value) (m : Nat) (ys : List Int) (w : World) (h : Are F w b s) (hF : ∀ k, w.heap.size ≤ k → F k) (hv : Row w 48 1 v m (ys.map (Value.int .u64))) (hm : s.cs.length + m ≤ s.most) :
    Calls Tryd.prog 48 #[.pointer (some ⟨b, 0, none⟩), v] w (ExtPost F w b s ys) := by
  obtain ⟨i0, hi0, hz0, hz1, hz2⟩ := info_parts info38
  obtain ⟨vl, vc, hA⟩ := h
  have hmost := hA.most
  have hpos := hA.pos
  obtain ⟨A, c, hvc, hc1, hc2⟩ := hA.cells.form
  obtain ⟨A2, c2, hv2, _, _⟩ := hv.form
  have hcells := hA.cells
  have hblk := hA.blk
  rw [hvc] at hcells hblk
  have e2 := hblk.cell 2
  simp at e2
  subst hv2
  go_enter Tryd.func48, Tryd.ntmps48
  go_wp2_with (at_builtin
               refine wpList_append_row _ rfl _ _ _ rfl 48 48 i0 _ 1 8 Tryd.underlying28 hi0 hz0 hz1 hz2 rfl (.slice A s.cs.length c) s.cs.length _ rfl hcells (.slice A2 m c2) m _ rfl hv (by simp [Value.oneCell']) (by simp only [maxLen]; omega) (by omega) ?_
               intro v' w1 hown hgrow hat
               obtain ⟨A', c', rfl, hc3, hc4⟩ := hown.form
               have hb1 : Blk w1 b 55 _ := hblk.keep (hgrow.block b hblk.lt (fun e => hcells.ne_blk hblk (by decide) e.symm))
               have e2' := hb1.cell 2
               have e3' := hb1.cell 3
               have f2' := hb1.frozen 2
               simp at e2' e3')
  all_goals go_end0
  · exact ⟨rfl, ext_end hA hF hvc hown hgrow hat (by omega) (by omega)⟩
  · exact ⟨rfl, ext_end hA hF hvc hown hgrow hat (by omega) (by omega)⟩

def AllocPost (F : Nat → Prop) (w : World) (b : Nat) (s : St) (n : Nat) (e : Ending) (w' : World) : Prop :=
  e = .returned (.tuple #[.int .i64 s.cs.length, .int .i64 0]) ∧ Are F w' b { s with cs := s.cs ++ List.replicate n 0 } ∧ Keep F w w'

set_option maxRecDepth 100000 in
set_option maxHeartbeats 1600000 in
theorem Alloc_ok {F : Nat → Prop} {b : Nat} {s : St} (n : Nat) (w : World) (h : Are F w b s) (hF : ∀ k, w.heap.size ≤ k → F k) (hn : s.cs.length + n ≤ s.most) :
    Calls Tryd.prog 33 #[.pointer (some ⟨b, 0, none⟩), .int .i64 n] w (AllocPost F w b s n) := by
  obtain ⟨i0, hi0, hz0, hz1, hz2⟩ := info_parts info38
  have he := exists_are h
  have h3 := h.most_cell
  have ha := h
  obtain ⟨vl, vc, h⟩ := h
  have hmost := h.most
  have hlen := h.len
  obtain ⟨A, c, hvc, hc1, hc2⟩ := h.cells.form
  have h2 := h.blk.cell 2
  rw [hvc] at h2
  simp at h2
  have hn0 : (0 : Int) ≤ (n : Int) := by omega
  have hsz : ((s.cs.length : Int)) ≤ 65536 := by omega
  have hms : ((s.most : Int)) ≤ 65536 := by omega
  have hnn : ((n : Int)) ≤ 65536 := by omega
  have hd : decide ((s.most : Int) - (s.cs.length : Int) < (n : Int)) = false := by simp; omega
  have hmk : ∀ W : World, (Instr.makeSlice 28 (.int .i64 (n : Int)) (.int .i64 (n : Int))).run Tryd.prog W = .ok (.slice (some ⟨W.heap.size, 0, none⟩) n n) (W.alloc (.cells (madeCells #[.int .u64 0] n) 48)) := fun W => by
    have hr := run_make (P := Tryd.prog) W 28 48 i0 _ Tryd.underlying28 hi0 hz0 .i64 .i64 n n (by omega) (Int.le_refl _) (by rw [hz2]; omega) (by omega)
    simpa [hz1, Value.cells] using hr
  have hrow : ∀ W : World, Row (W.alloc (.cells (madeCells #[.int .u64 0] n) 48)) 48 1 (.slice (some ⟨W.heap.size, 0, none⟩) n n) n (List.replicate n (.int .u64 0)) := fun W =>
    Row.made_at W _ rfl 48 1 n _ _ (toList_madeCells_one _ _) (by simp only [maxLen]; omega) (by rw [Nat.mul_one]; exact size_madeCells _ _)
  go_enter Tryd.func33, Tryd.ntmps33
  go_wp2
  refine wp_scope_fwd 0 rfl ?_
  go_wp2_with (go_at_call 37; refine he.mono ?_; rintro e w' ⟨rfl, rfl⟩)
  go_quiet (fail)
  go_wp2_with (go_at_call 48; go_must (refine (extend_ok _ n (List.replicate n 0) _ ((ha.alloc _).drewN _) (fun k hk => hF k (by simp at hk; omega)) (by rw [List.map_replicate]; exact (hrow w).drewN _) hn).mono ?_); rintro e w' ⟨rfl, ha', hk'⟩)
  go_step3
  go_wp2
  (try rw [Exit.noGoto_ret])
  go_ret2
  exact ⟨rfl, ha', (((Keep.refl F w).alloc _).drewN _).trans hk'⟩

set_option maxRecDepth 100000 in
set_option maxHeartbeats 1600000 in
theorem Alloc_neg {F : Nat → Prop} {b : Nat} {s : St} (n : Int) (w : World) (h : Are F w b s) (hn : n < 0) :
    Calls Tryd.prog 33 #[.pointer (some ⟨b, 0, none⟩), .int .i64 n] w fun e w' => e = .returned (.tuple #[.int .i64 0, .int .i64 2]) ∧ w = w' := by
  have he := exists_are h
  go_enter Tryd.func33, Tryd.ntmps33
  go_wp2
  refine wp_scope_fwd 0 rfl ?_
  go_wp2_with (go_at_call 37; refine he.mono ?_; rintro e w' ⟨rfl, rfl⟩)
  go_step3
  refine ⟨rfl, ?_⟩
  go_wp2
  (try rw [Exit.noGoto_ret])
  go_ret2
  exact ⟨rfl, rfl⟩

set_option maxRecDepth 100000 in
set_option maxHeartbeats 1600000 in
theorem Alloc_full {F : Nat → Prop} {b : Nat} {s : St} (n : Int) (w : World) (h : Are F w b s) (hn0 : 0 ≤ n) (hn : (s.most : Int) < s.cs.length + n) :
    Calls Tryd.prog 33 #[.pointer (some ⟨b, 0, none⟩), .int .i64 n] w fun e w' => e = .returned (.tuple #[.int .i64 0, .int .i64 6]) ∧ Below w.heap.size w w' := by
  have he := exists_are h
  have h3 := h.most_cell
  obtain ⟨vl, vc, h⟩ := h
  have hmost := h.most
  have hlen := h.len
  obtain ⟨A, c, hvc, hc1, hc2⟩ := h.cells.form
  have h2 := h.blk.cell 2
  rw [hvc] at h2
  simp at h2
  have hsz : ((s.cs.length : Int)) ≤ 65536 := by omega
  have hms : ((s.most : Int)) ≤ 65536 := by omega
  have hd : decide ((s.most : Int) - (s.cs.length : Int) < n) = true := by simp; omega
  have hn1 : decide (n < 0) = false := by simp; omega
  clear hn
  go_enter Tryd.func33, Tryd.ntmps33
  go_wp2
  refine wp_scope_fwd 0 rfl ?_
  go_wp2_with (go_at_call 37; refine he.mono ?_; rintro e w' ⟨rfl, rfl⟩)
  go_quiet (fail)
  go_wp2_with fail
  go_step3
  refine ⟨rfl, ?_⟩
  go_wp2
  (try rw [Exit.noGoto_ret])
  go_ret2
  exact ⟨rfl, below_drewN (Below.refl _ _) _⟩
end Go.Proofs.YthiaaapcbiameaaDoor
