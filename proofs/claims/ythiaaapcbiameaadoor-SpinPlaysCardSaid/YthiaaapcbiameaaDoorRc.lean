/- The document's own arena: Do. -/
import Derived.Test.YthiaaapcbiameaaDoorRb
namespace Go.Proofs.YthiaaapcbiameaaDoor
open Go.RowKit
attribute [local go_sem] Oper.semAt_some

theorem flat_one (h : List Acc) : ∀ x ∈ h.flatMap Acc.cells, x.oneCell' = true := fun x hx => by
  obtain ⟨a, _, ha⟩ := List.mem_flatMap.1 hx
  simp [Acc.cells] at ha
  rcases ha with rfl | rfl | rfl | rfl | rfl <;> rfl

theorem doEnd {w w3 : World} {s : St} {j : Nat} {op at_ old new : Int} {did : Bool} {g1 c1 c3 : Nat} {A3 : Option Addr} {q0 q1 q2 p0 p1 p2 p3 p4 : Value}
    (B : Below w.heap.size w w3) (hC : Row w3 48 1 (.slice (some ⟨g1, 0, none⟩) s.cs.length c1) s.cs.length ((s.cs.map (Value.int .u64)).set j (.int .u64 new)))
    (o1 : w.heap.size + 3 ≤ g1)
    (hL : Row w3 98 5 (.slice A3 (s.hist.length + 1) c3) (s.hist.length + 1) (s.hist.flatMap Acc.cells ++ [.int .i64 op, .int .i64 at_, .int .u64 old, .int .u64 new, .bool did]))
    (oL : ∀ k, (Value.slice A3 (s.hist.length + 1) c3).ownBlock = some k → w.heap.size + 3 ≤ k)
    (hres : Blk w3 (w.heap.size + 1) 31 #[q0, q1, q2]) (hacc : Blk w3 (w.heap.size + 1 + 1) 98 #[p0, p1, p2, p3, p4]) (h1 : s.cs.length ≤ s.most) (h2 : s.most ≤ 65536) :
    let W := ((((((((w3.setCell ⟨w.heap.size + 1, 0, none⟩ (.slice (some ⟨g1, 0, none⟩) s.cs.length c1)).setCell ⟨w.heap.size + 1, 1, none⟩ (.int .i64 s.most)).setCell ⟨w.heap.size + 1, 2, none⟩ (.slice A3 (s.hist.length + 1) c3)).setCell ⟨w.heap.size + 1 + 1, 0, none⟩ (.int .i64 op)).setCell ⟨w.heap.size + 1 + 1, 1, none⟩ (.int .i64 at_)).setCell ⟨w.heap.size + 1 + 1, 2, none⟩ (.int .u64 old)).setCell ⟨w.heap.size + 1 + 1, 3, none⟩ (.int .u64 new)).setCell ⟨w.heap.size + 1 + 1, 4, none⟩ (.bool did))
    Blk W (w.heap.size + 1) 31 #[.slice (some ⟨g1, 0, none⟩) s.cs.length c1, .int .i64 s.most, .slice A3 (s.hist.length + 1) c3] ∧
    Blk W (w.heap.size + 1 + 1) 98 #[.int .i64 op, .int .i64 at_, .int .u64 old, .int .u64 new, .bool did] ∧
    RefS W (.agg #[.slice (some ⟨g1, 0, none⟩) s.cs.length c1, .int .i64 s.most, .slice A3 (s.hist.length + 1) c3]) (s.step j ⟨op, at_, old, new, did⟩) ∧ Below w.heap.size w W := by
  intro W
  have hBE : Below w.heap.size w W := (((((((B.setCell (p := ⟨w.heap.size + 1, 0, none⟩) (by simp) (.slice (some ⟨g1, 0, none⟩) s.cs.length c1)).setCell (p := ⟨w.heap.size + 1, 1, none⟩) (by simp) (.int .i64 s.most)).setCell (p := ⟨w.heap.size + 1, 2, none⟩) (by simp) (.slice A3 (s.hist.length + 1) c3)).setCell (p := ⟨w.heap.size + 1 + 1, 0, none⟩) (by simp; omega) (.int .i64 op)).setCell (p := ⟨w.heap.size + 1 + 1, 1, none⟩) (by simp; omega) (.int .i64 at_)).setCell (p := ⟨w.heap.size + 1 + 1, 2, none⟩) (by simp; omega) (.int .u64 old)).setCell (p := ⟨w.heap.size + 1 + 1, 3, none⟩) (by simp; omega) (.int .u64 new)).setCell (p := ⟨w.heap.size + 1 + 1, 4, none⟩) (by simp; omega) (.bool did)
  have far : ∀ {e size : Nat} {v : Value} {n : Nat} {xs : List Value}, Row w3 e size v n xs → (∀ k, v.ownBlock = some k → w.heap.size + 3 ≤ k) → Row W e size v n xs := fun h hk => by
    have e1 := fun e => (show ¬ w.heap.size + 3 ≤ w.heap.size + 1 by omega) (hk _ e)
    have e2 := fun e => (show ¬ w.heap.size + 3 ≤ w.heap.size + 1 + 1 by omega) (hk _ e)
    exact (((((((h.far (p := ⟨w.heap.size + 1, 0, none⟩) e1 _).far (p := ⟨w.heap.size + 1, 1, none⟩) e1 _).far (p := ⟨w.heap.size + 1, 2, none⟩) e1 _).far (p := ⟨w.heap.size + 1 + 1, 0, none⟩) e2 _).far (p := ⟨w.heap.size + 1 + 1, 1, none⟩) e2 _).far (p := ⟨w.heap.size + 1 + 1, 2, none⟩) e2 _).far (p := ⟨w.heap.size + 1 + 1, 3, none⟩) e2 _).far (p := ⟨w.heap.size + 1 + 1, 4, none⟩) e2 _
  refine ⟨?_, ?_, ⟨⟨_, _, rfl, ?_, ?_⟩, ?_, h2⟩, hBE⟩
  · have := (((((((hres.set 0 (.slice (some ⟨g1, 0, none⟩) s.cs.length c1)).set 1 (.int .i64 s.most)).set 2 (.slice A3 (s.hist.length + 1) c3)).far (p := ⟨w.heap.size + 1 + 1, 0, none⟩) (by simp) (.int .i64 op)).far (p := ⟨w.heap.size + 1 + 1, 1, none⟩) (by simp) (.int .i64 at_)).far (p := ⟨w.heap.size + 1 + 1, 2, none⟩) (by simp) (.int .u64 old)).far (p := ⟨w.heap.size + 1 + 1, 3, none⟩) (by simp) (.int .u64 new)).far (p := ⟨w.heap.size + 1 + 1, 4, none⟩) (by simp) (.bool did)
    simpa using this
  · have := (((((((hacc.far (p := ⟨w.heap.size + 1, 0, none⟩) (by simp) (.slice (some ⟨g1, 0, none⟩) s.cs.length c1)).far (p := ⟨w.heap.size + 1, 1, none⟩) (by simp) (.int .i64 s.most)).far (p := ⟨w.heap.size + 1, 2, none⟩) (by simp) (.slice A3 (s.hist.length + 1) c3)).set 0 (.int .i64 op)).set 1 (.int .i64 at_)).set 2 (.int .u64 old)).set 3 (.int .u64 new)).set 4 (.bool did)
    simpa using this
  · have := far hC (fun k e => by simp [Value.ownBlock] at e; omega)
    simpa [St.step, List.map_set] using this
  · have := far hL oL
    simpa [St.step, Acc.cells] using this
  · simpa [St.step] using h1

def RefDoPost (w : World) (v : Value) (r : St × Acc × Int) (e : Ending) (w' : World) : Prop := ∃ v', e = .returned (.tuple #[v', r.2.1.val, .int .i64 r.2.2]) ∧ RefS w' v' r.1 ∧ Below w.heap.size w w' ∧ (∀ k, ownR v' k → ownR v k ∨ w.heap.size ≤ k)

set_option maxRecDepth 100000 in
theorem refDo_range {s : St} {v : Value} (op at_ x y : Int) (w : World) (h : RefS w v s) (hn : at_ < 0 ∨ (s.cs.length : Int) ≤ at_) : Calls Tryd.prog 44 #[v, .int .i64 op, .int .i64 at_, .int .u64 x, .int .u64 y] w (RefDoPost w v (s, zeroAcc, 4)) := by
  obtain ⟨⟨vC, vL, rfl, hc, hl⟩, hs1, hs2⟩ := h
  obtain ⟨AC, cC, rfl, hcC, _⟩ := hc.form
  obtain ⟨AL, cL, rfl, hcL, _⟩ := hl.form
  have fin : ∀ o1 o2 o3 : Obj, RefDoPost w (.agg #[.slice AC s.cs.length cC, .int .i64 s.most, .slice AL s.hist.length cL]) (s, zeroAcc, 4) (.returned (.tuple #[.agg #[.slice AC s.cs.length cC, .int .i64 s.most, .slice AL s.hist.length cL], .agg #[.int .i64 0, .int .i64 0, .int .u64 0, .int .u64 0, .bool false], .int .i64 4])) (((w.alloc o1).alloc o2).alloc o3) := fun o1 o2 o3 =>
    ⟨_, rfl, ⟨⟨_, _, rfl, ((hc.alloc _).alloc _).alloc _, ((hl.alloc _).alloc _).alloc _⟩, hs1, hs2⟩, (((Below.refl _ _).alloc (Nat.le_refl _) _).alloc (by simp) _).alloc (by simp; omega) _, fun _ h => .inl h⟩
  rcases hn with hn | hn
  · go_enter Tryd.func44, Tryd.ntmps44
    go_wp2
    exact bodyPost_ret (v := .tuple #[.agg #[.slice AC s.cs.length cC, .int .i64 s.most, .slice AL s.hist.length cL], .agg #[.int .i64 0, .int .i64 0, .int .u64 0, .int .u64 0, .bool false], .int .i64 4]) (by simp [results, Tryd.results44, go_sem]) rfl (fin _ _ _)
  · have h0 : 0 ≤ at_ := by omega
    go_enter Tryd.func44, Tryd.ntmps44
    go_wp2
    exact bodyPost_ret (v := .tuple #[.agg #[.slice AC s.cs.length cC, .int .i64 s.most, .slice AL s.hist.length cL], .agg #[.int .i64 0, .int .i64 0, .int .u64 0, .int .u64 0, .bool false], .int .i64 4]) (by simp [results, Tryd.results44, go_sem]) rfl (fin _ _ _)

end Go.Proofs.YthiaaapcbiameaaDoor
