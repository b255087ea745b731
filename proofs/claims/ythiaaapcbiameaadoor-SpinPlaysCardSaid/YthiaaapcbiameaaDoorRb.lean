/- The document's own arena: New, Alloc. -/
import Derived.Test.YthiaaapcbiameaaDoorW
import Derived.Test.YthiaaapcbiameaaDoorRa
namespace Go.Proofs.YthiaaapcbiameaaDoor
open Go.RowKit
attribute [local go_sem] Oper.semAt_some

/-- The value v is the document's arena s. -/
structure RefS (w : World) (v : Value) (s : St) : Prop where
  ex : ∃ vC vL, v = .agg #[vC, .int .i64 s.most, vL] ∧ Row w 48 1 vC s.cs.length (s.cs.map (Value.int .u64)) ∧ Row w 98 5 vL s.hist.length (s.hist.flatMap Acc.cells)
  len : s.cs.length ≤ s.most
  most : s.most ≤ 65536

theorem RefS.below {w w' : World} {v : Value} {s : St} (h : RefS w v s) (hB : Below w.heap.size w w') : RefS w' v s := by
  obtain ⟨⟨vC, vL, rfl, hc, hl⟩, h1, h2⟩ := h
  exact ⟨⟨vC, vL, rfl, hc.keep (fun k hk => hB.block k (hc.lt k hk)), hl.keep (fun k hk => hB.block k (hl.lt k hk))⟩, h1, h2⟩

/-- The blocks of the rows of an arena of the document's. -/
def ownR (v : Value) (k : Nat) : Prop := ∃ vC m vL, v = .agg #[vC, m, vL] ∧ (vC.ownBlock = some k ∨ vL.ownBlock = some k)
theorem ownR.parts {vC m vL : Value} {k : Nat} (h : ownR (.agg #[vC, m, vL]) k) : vC.ownBlock = some k ∨ vL.ownBlock = some k := by
  obtain ⟨a, b, c, he, h⟩ := h
  simp at he
  obtain ⟨rfl, rfl, rfl⟩ := he
  exact h
theorem RefS.lt {w : World} {v : Value} {s : St} (h : RefS w v s) : ∀ k, ownR v k → k < w.heap.size := fun k hk => by
  obtain ⟨⟨vC, vL, rfl, hc, hl⟩, _, _⟩ := h
  exact hk.parts.elim (hc.lt k) (hl.lt k)
theorem RefS.keep {w w' : World} {v : Value} {s : St} (h : RefS w v s) (hk : ∀ k, ownR v k → w'.heap[k]? = w.heap[k]?) : RefS w' v s := by
  obtain ⟨⟨vC, vL, rfl, hc, hl⟩, h1, h2⟩ := h
  exact ⟨⟨vC, vL, rfl, hc.keep (fun k e => hk k ⟨_, _, _, rfl, .inl e⟩), hl.keep (fun k e => hk k ⟨_, _, _, rfl, .inr e⟩)⟩, h1, h2⟩
theorem RefS.form {w : World} {v : Value} {s : St} (h : RefS w v s) : ∃ A c A' c', v = .agg #[.slice A s.cs.length c, .int .i64 s.most, .slice A' s.hist.length c'] := by
  obtain ⟨⟨vC, vL, rfl, hc, hl⟩, h1, h2⟩ := h
  obtain ⟨A, c, rfl, _⟩ := hc.form
  obtain ⟨A', c', rfl, _⟩ := hl.form
  exact ⟨_, _, _, _, rfl⟩

def RefPost (w : World) (v : Value) (r : St × Int × Int) (e : Ending) (w' : World) : Prop := ∃ v', e = .returned (.tuple #[v', .int .i64 r.2.1, .int .i64 r.2.2]) ∧ RefS w' v' r.1 ∧ Below w.heap.size w w' ∧ (∀ k, ownR v' k → ownR v k ∨ w.heap.size ≤ k)

set_option maxRecDepth 100000 in
theorem refNew_ok (m : Nat) (w : World) (h1 : 1 ≤ m) (h2 : m ≤ 65536) : Calls Tryd.prog 9 #[.int .i64 m] w fun e w' => ∃ v', e = .returned (.tuple #[v', .int .i64 0]) ∧ RefS w' v' ⟨m, [], []⟩ ∧ Below w.heap.size w w' ∧ (∀ k, ¬ ownR v' k) := by
  have h3 : (1 : Int) ≤ (m : Int) := by omega
  have h4 : (m : Int) ≤ 65536 := by omega
  go_enter Tryd.func9, Tryd.ntmps9
  go_wp2
  exact bodyPost_ret (v := .tuple #[.agg #[.slice none 0 0, .int .i64 m, .slice none 0 0], .int .i64 0]) (by simp [results, Tryd.results9, go_sem]) rfl
    ⟨_, rfl, ⟨⟨_, _, rfl, Row.nil _ _ _, Row.nil _ _ _⟩, Nat.zero_le _, h2⟩, (Below.refl _ _).alloc (Nat.le_refl _) _, fun k hk => by have := hk.parts; simp [Value.ownBlock] at this⟩

set_option maxRecDepth 100000 in
theorem refNew_err (m : Int) (w : World) (h : m < 1 ∨ 65536 < m) : Calls Tryd.prog 9 #[.int .i64 m] w fun e w' => ∃ v', e = .returned (.tuple #[v', .int .i64 2]) ∧ RefS w' v' ⟨0, [], []⟩ ∧ Below w.heap.size w w' ∧ (∀ k, ¬ ownR v' k) := by
  rcases h with h | h
  · go_enter Tryd.func9, Tryd.ntmps9
    go_wp2
    exact bodyPost_ret (v := .tuple #[.agg #[.slice none 0 0, .int .i64 0, .slice none 0 0], .int .i64 2]) (by simp [results, Tryd.results9, go_sem]) rfl
      ⟨_, rfl, ⟨⟨_, _, rfl, Row.nil _ _ _, Row.nil _ _ _⟩, Nat.zero_le _, by simp⟩, (Below.refl _ _).alloc (Nat.le_refl _) _, fun k hk => by have := hk.parts; simp [Value.ownBlock] at this⟩
  · have h1 : 1 ≤ m := by omega
    go_enter Tryd.func9, Tryd.ntmps9
    go_wp2
    exact bodyPost_ret (v := .tuple #[.agg #[.slice none 0 0, .int .i64 0, .slice none 0 0], .int .i64 2]) (by simp [results, Tryd.results9, go_sem]) rfl
      ⟨_, rfl, ⟨⟨_, _, rfl, Row.nil _ _ _, Row.nil _ _ _⟩, Nat.zero_le _, by simp⟩, (Below.refl _ _).alloc (Nat.le_refl _) _, fun k hk => by have := hk.parts; simp [Value.ownBlock] at this⟩

theorem refEnd {w : World} {s : St} {A A' : Option Addr} {c c' : Nat} {o1 o2 : Obj} (hc : Row w 48 1 (.slice A s.cs.length c) s.cs.length (s.cs.map (Value.int .u64))) (hl : Row w 98 5 (.slice A' s.hist.length c') s.hist.length (s.hist.flatMap Acc.cells)) (h1 : s.cs.length ≤ s.most) (h2 : s.most ≤ 65536) (r : Int × Int) :
    RefPost w (.agg #[.slice A s.cs.length c, .int .i64 s.most, .slice A' s.hist.length c']) (s, r.1, r.2) (.returned (.tuple #[.agg #[.slice A s.cs.length c, .int .i64 s.most, .slice A' s.hist.length c'], .int .i64 r.1, .int .i64 r.2])) ((w.alloc o1).alloc o2) :=
  ⟨_, rfl, ⟨⟨_, _, rfl, (hc.alloc _).alloc _, (hl.alloc _).alloc _⟩, h1, h2⟩, ((Below.refl _ _).alloc (Nat.le_refl _) _).alloc (by simp) _, fun _ h => .inl h⟩

set_option maxRecDepth 100000 in
theorem refAlloc_neg {s : St} {v : Value} (n : Int) (w : World) (h : RefS w v s) (hn : n < 0) : Calls Tryd.prog 41 #[v, .int .i64 n] w (RefPost w v (s, 0, 2)) := by
  obtain ⟨⟨vC, vL, rfl, hc, hl⟩, hs1, hs2⟩ := h
  obtain ⟨AC, cC, rfl, hcC, _⟩ := hc.form
  obtain ⟨AL, cL, rfl, hcL, _⟩ := hl.form
  go_enter Tryd.func41, Tryd.ntmps41
  go_wp2
  exact bodyPost_ret (v := .tuple #[.agg #[.slice AC s.cs.length cC, .int .i64 s.most, .slice AL s.hist.length cL], .int .i64 0, .int .i64 2]) (by simp [results, Tryd.results41, go_sem]) rfl (refEnd hc hl hs1 hs2 (0, 2))

set_option maxRecDepth 100000 in
theorem refAlloc_full {s : St} {v : Value} (n : Int) (w : World) (h : RefS w v s) (hn : 0 ≤ n) (hf : (s.most : Int) - (s.cs.length : Int) < n) : Calls Tryd.prog 41 #[v, .int .i64 n] w (RefPost w v (s, 0, 6)) := by
  obtain ⟨⟨vC, vL, rfl, hc, hl⟩, hs1, hs2⟩ := h
  obtain ⟨AC, cC, rfl, hcC, _⟩ := hc.form
  obtain ⟨AL, cL, rfl, hcL, _⟩ := hl.form
  have hw1 : IntKind.i64.wrap ((s.most : Int) - (s.cs.length : Int)) = (s.most : Int) - (s.cs.length : Int) := IntWalk.i64_in _ (by omega)
  have hd : decide ((s.most : Int) - (s.cs.length : Int) < n) = true := by simp; omega
  go_enter Tryd.func41, Tryd.ntmps41
  go_wp2
  exact bodyPost_ret (v := .tuple #[.agg #[.slice AC s.cs.length cC, .int .i64 s.most, .slice AL s.hist.length cL], .int .i64 0, .int .i64 6]) (by simp [results, Tryd.results41, go_sem]) rfl (refEnd hc hl hs1 hs2 (0, 6))

theorem refEnd4 {w w2 : World} {s : St} {A2 AL : Option Addr} {c2 cL m : Nat} {q0 q1 q2 : Value} (B : Below w.heap.size w w2) (hrow : Row w2 48 1 (.slice A2 m c2) m (s.cs.map (Value.int .u64))) (hm : s.cs.length = m)
    (hown : ∀ k, (Value.slice A2 m c2).ownBlock = some k → w.heap.size + 2 ≤ k) (hl : Row w 98 5 (.slice AL s.hist.length cL) s.hist.length (s.hist.flatMap Acc.cells)) (h1 : s.cs.length ≤ s.most) (h2 : s.most ≤ 65536)
    (hres : Blk w2 (w.heap.size + 1) 31 #[q0, q1, q2]) :
    Blk ((((w2.setCell ⟨w.heap.size, 0, none⟩ (.slice A2 m c2)).setCell ⟨w.heap.size + 1, 0, none⟩ (.slice A2 m c2)).setCell ⟨w.heap.size + 1, 1, none⟩ (.int .i64 s.most)).setCell ⟨w.heap.size + 1, 2, none⟩ (.slice AL s.hist.length cL))
      (w.heap.size + 1) 31 #[.slice A2 m c2, .int .i64 s.most, .slice AL s.hist.length cL] ∧
    RefS ((((w2.setCell ⟨w.heap.size, 0, none⟩ (.slice A2 m c2)).setCell ⟨w.heap.size + 1, 0, none⟩ (.slice A2 m c2)).setCell ⟨w.heap.size + 1, 1, none⟩ (.int .i64 s.most)).setCell ⟨w.heap.size + 1, 2, none⟩ (.slice AL s.hist.length cL))
      (.agg #[.slice A2 m c2, .int .i64 s.most, .slice AL s.hist.length cL]) s ∧
    Below w.heap.size w ((((w2.setCell ⟨w.heap.size, 0, none⟩ (.slice A2 m c2)).setCell ⟨w.heap.size + 1, 0, none⟩ (.slice A2 m c2)).setCell ⟨w.heap.size + 1, 1, none⟩ (.int .i64 s.most)).setCell ⟨w.heap.size + 1, 2, none⟩ (.slice AL s.hist.length cL)) := by
  have hBE := (((B.setCell (p := ⟨w.heap.size, 0, none⟩) (Nat.le_refl _) (.slice A2 m c2)).setCell (p := ⟨w.heap.size + 1, 0, none⟩) (by simp) (.slice A2 m c2)).setCell (p := ⟨w.heap.size + 1, 1, none⟩) (by simp) (.int .i64 s.most)).setCell (p := ⟨w.heap.size + 1, 2, none⟩) (by simp) (.slice AL s.hist.length cL)
  have e0 : (Value.slice A2 m c2).ownBlock ≠ some w.heap.size := fun e => by have := hown _ e; omega
  have e1 : (Value.slice A2 m c2).ownBlock ≠ some (w.heap.size + 1) := fun e => by have := hown _ e; omega
  refine ⟨?_, ⟨⟨_, _, rfl, ?_, hl.keep (fun k hk => hBE.block k (hl.lt k hk))⟩, h1, h2⟩, hBE⟩
  · have := (((hres.far (p := ⟨w.heap.size, 0, none⟩) (by simp) (.slice A2 m c2)).set 0 (.slice A2 m c2)).set 1 (.int .i64 s.most)).set 2 (.slice AL s.hist.length cL)
    simpa using this
  · have := (((hrow.far (p := ⟨w.heap.size, 0, none⟩) e0 (.slice A2 m c2)).far (p := ⟨w.heap.size + 1, 0, none⟩) e1 (.slice A2 m c2)).far (p := ⟨w.heap.size + 1, 1, none⟩) e1 (.int .i64 s.most)).far (p := ⟨w.heap.size + 1, 2, none⟩) e1 (.slice AL s.hist.length cL)
    subst hm
    exact this

set_option maxRecDepth 100000 in
set_option maxHeartbeats 1600000 in
theorem refAlloc_ok {s : St} {v : Value} (n : Nat) (w : World) (h : RefS w v s) (hf : s.cs.length + n ≤ s.most) : Calls Tryd.prog 41 #[v, .int .i64 n] w (RefPost w v ({ s with cs := s.cs ++ List.replicate n 0 }, s.cs.length, 0)) := by
  obtain ⟨i0, hi0, hz0, hz1, hz2⟩ := info_parts info38
  obtain ⟨⟨vC, vL, rfl, hc, hl⟩, hs1, hs2⟩ := h
  obtain ⟨AC, cC, rfl, hcC, _⟩ := hc.form
  obtain ⟨AL, cL, rfl, hcL, _⟩ := hl.form
  have hw1 : IntKind.i64.wrap ((s.most : Int) - (s.cs.length : Int)) = (s.most : Int) - (s.cs.length : Int) := IntWalk.i64_in _ (by omega)
  have hd : decide ((s.most : Int) - (s.cs.length : Int) < (n : Int)) = false := by simp; omega
  have hn0 : (0 : Int) ≤ (n : Int) := by omega
  have z0 : i0.zero = some (.int .u64 0) := hz0
  have box0 := ((Blk.new w 31 #[.slice AC s.cs.length cC, .int .i64 s.most, .slice AL s.hist.length cL]).alloc (.cells #[.slice none 0 0, .int .i64 0, .slice none 0 0] 31)).alloc (.cells #[] 48)
  have res0 := (Blk.new (w.alloc (.cells #[.slice AC s.cs.length cC, .int .i64 s.most, .slice AL s.hist.length cL] 31)) 31 #[.slice none 0 0, .int .i64 0, .slice none 0 0]).alloc (.cells #[] 48)
  have hE := Row.made_at ((w.alloc (.cells #[.slice AC s.cs.length cC, .int .i64 s.most, .slice AL s.hist.length cL] 31)).alloc (.cells #[.slice none 0 0, .int .i64 0, .slice none 0 0] 31)) (w.heap.size + 1 + 1) (by simp) 48 1 0 #[] [] rfl (by simp) rfl
  have hcA := ((hc.alloc (.cells #[.slice AC s.cs.length cC, .int .i64 s.most, .slice AL s.hist.length cL] 31)).alloc (.cells #[.slice none 0 0, .int .i64 0, .slice none 0 0] 31)).alloc (.cells #[] 48)
  have hlA := ((hl.alloc (.cells #[.slice AC s.cs.length cC, .int .i64 s.most, .slice AL s.hist.length cL] 31)).alloc (.cells #[.slice none 0 0, .int .i64 0, .slice none 0 0] 31)).alloc (.cells #[] 48)
  have b0 : Below w.heap.size w (((w.alloc (.cells #[.slice AC s.cs.length cC, .int .i64 s.most, .slice AL s.hist.length cL] 31)).alloc (.cells #[.slice none 0 0, .int .i64 0, .slice none 0 0] 31)).alloc (.cells #[] 48)) :=
    (((Below.refl _ _).alloc (Nat.le_refl _) _).alloc (by simp) _).alloc (by simp; omega) _
  have hsz : (((w.alloc (.cells #[.slice AC s.cs.length cC, .int .i64 s.most, .slice AL s.hist.length cL] 31)).alloc (.cells #[.slice none 0 0, .int .i64 0, .slice none 0 0] 31)).alloc (.cells #[] 48)).heap.size = w.heap.size + 3 := by simp
  rw [World.size_alloc] at res0
  go_enter Tryd.func41, Tryd.ntmps41
  go_wp2_with (first
    | (at_builtin
       refine wpList_append_row _ rfl _ _ _ rfl 48 48 i0 _ 1 8 Tryd.underlying28 hi0 hz0 hz1 hz2 rfl (.slice (some ⟨w.heap.size + 1 + 1, 0, none⟩) 0 0) 0 [] rfl hE (.slice AC s.cs.length cC) s.cs.length _ rfl hcA (by simp [Value.oneCell']) (by simp only [maxLen]; omega) (by omega) ?_
       intro v1 w1 hown1 hg1 hat1
       simp only [Nat.zero_add, List.nil_append] at hown1)
    | (at_builtin
       refine wpList_append_zeros _ rfl _ _ _ _ rfl 48 i0 _ 8 Tryd.underlying28 Tryd.underlying3 hi0 hz0 hz1 hz2 (.int .u64 0) rfl rfl v1 s.cs.length _ rfl hown1 n rfl (by simp only [maxLen]; omega) (by omega) (by omega) ?_
       intro v2 w2 hown2 hg2 hat2
       obtain ⟨A2, c2, rfl, hc2, hc2m⟩ := hown2.form
       have own1 : ∀ k, v1.ownBlock = some k → w.heap.size + 2 ≤ k := fun k e => by
         rw [e, hsz] at hat1
         simp [Value.ownBlock] at hat1
         omega
       have n1 : v1.ownBlock ≠ some w.heap.size := fun e => by have := own1 _ e; omega
       have n2 : v1.ownBlock ≠ some (w.heap.size + 1) := fun e => by have := own1 _ e; omega
       have own2 : ∀ k, (Value.slice A2 (s.cs.length + n) c2).ownBlock = some k → w.heap.size + 2 ≤ k := fun k e => by
         have hs1 := hg1.size
         rcases hat2 with h | h
         · exact own1 k (h ▸ e)
         · rw [h] at e; injection e with e; omega
       have B1 := b0.grown hg1 (by simp; omega) (fun k hk => by simp [Value.ownBlock] at hk; omega)
       have B2 := B1.grown hg2 B1.size (fun k hk => by have := own1 k hk; omega)
       have box1 := box0.keep (hg1.block _ box0.lt (by simp [Value.ownBlock]; omega))
       have res1 := res0.keep (hg1.block _ res0.lt (by simp [Value.ownBlock]))
       have box2 := box1.keep (hg2.block _ box1.lt (fun e => n1 e.symm))
       have res2 := res1.keep (hg2.block _ res1.lt (fun e => n2 e.symm))
       have x0 := box2.cell 0
       have x1 := box2.cell 1
       have x2 := box2.cell 2
       have xf := box2.frozen 0
       have y0 := res2.cell 0
       have y1 := res2.cell 1
       have y2 := res2.cell 2
       have f0 := res2.frozen 0
       have f1 := res2.frozen 1
       have f2 := res2.frozen 2
       simp at x0 x1 x2 y0 y1 y2))
  obtain ⟨E1, E2, E3⟩ := refEnd4 (s := { s with cs := s.cs ++ List.replicate n 0 }) B2 (by rw [List.map_append, List.map_replicate]; exact hown2) (by simp) own2 hl (by simpa using hf) hs2 res2
  have u0 := E1.cell 0
  have u1 := E1.cell 1
  have u2 := E1.cell 2
  simp at u0 u1 u2
  exact bodyPost_ret (v := .tuple #[.agg #[.slice A2 (s.cs.length + n) c2, .int .i64 s.most, .slice AL s.hist.length cL], .int .i64 s.cs.length, .int .i64 0]) (by simp [results, Tryd.results41, go_sem, u0, u1, u2]) rfl ⟨_, rfl, E2, E3, fun k hk => hk.parts.elim (fun e => .inr (by have := own2 k e; omega)) (fun e => .inl ⟨_, _, _, rfl, .inr e⟩)⟩
end Go.Proofs.YthiaaapcbiameaaDoor
