import Derived.Test.YthiaaapcbiameaaDoorC
import Derived.StillTailTactics
namespace Go.Proofs.YthiaaapcbiameaaDoor
open Go.RowKit

section
variable {w a : World} {x b : Nat} {t : TypeId} {cs : Array Value} {a0 a1 a2 a3 a4 v0 v1 v2 v3 v4 : Value} {F : Nat → Prop}
theorem set5_self (h : Blk w x t #[a0, a1, a2, a3, a4]) :
    Blk (((((w.setCell ⟨x, 0, none⟩ v0).setCell ⟨x, 1, none⟩ v1).setCell ⟨x, 2, none⟩ v2).setCell ⟨x, 3, none⟩ v3).setCell ⟨x, 4, none⟩ v4) x t #[v0, v1, v2, v3, v4] := by
  have := ((((h.set 0 v0).set 1 v1).set 2 v2).set 3 v3).set 4 v4
  simpa using this
theorem set5_far (h : Blk w b t cs) (n : x ≠ b) :
    Blk (((((w.setCell ⟨x, 0, none⟩ v0).setCell ⟨x, 1, none⟩ v1).setCell ⟨x, 2, none⟩ v2).setCell ⟨x, 3, none⟩ v3).setCell ⟨x, 4, none⟩ v4) b t cs :=
  ((((h.far (Ne.symm n) _).far (Ne.symm n) _).far (Ne.symm n) _).far (Ne.symm n) _).far (Ne.symm n) _
theorem set5_row {e : TypeId} {size n : Nat} {v : Value} {xs : List Value} (h : Row w e size v n xs) (hn : v.ownBlock ≠ some x) :
    Row (((((w.setCell ⟨x, 0, none⟩ v0).setCell ⟨x, 1, none⟩ v1).setCell ⟨x, 2, none⟩ v2).setCell ⟨x, 3, none⟩ v3).setCell ⟨x, 4, none⟩ v4) e size v n xs :=
  ((((h.far hn _).far hn _).far hn _).far hn _).far hn _
theorem set5_keep (h : Keep F a w) (hx : F x ∨ a.heap.size ≤ x) :
    Keep F a (((((w.setCell ⟨x, 0, none⟩ v0).setCell ⟨x, 1, none⟩ v1).setCell ⟨x, 2, none⟩ v2).setCell ⟨x, 3, none⟩ v3).setCell ⟨x, 4, none⟩ v4) :=
  ((((h.setCell (p := ⟨x, 0, none⟩) hx _).setCell (p := ⟨x, 1, none⟩) hx _).setCell (p := ⟨x, 2, none⟩) hx _).setCell (p := ⟨x, 3, none⟩) hx _).setCell (p := ⟨x, 4, none⟩) hx _
end

/-- What an access leaves: the count, the cells, the log. -/
def PerfPost (w : World) (b cnt n k : Nat) (vl vc mo : Value) (xs' ys' : List Value) (w' : World) : Prop :=
  ∃ vl', Blk w' b 55 #[.int .u64 ((cnt + 1 : Nat) : Int), vl', vc, mo] ∧ Row w' 48 1 vc n xs' ∧ Row w' 98 5 vl' k ys' ∧ Keep (fun k => k = b ∨ vl.ownBlock = some k ∨ vc.ownBlock = some k) w w' ∧
    (vl'.ownBlock = vl.ownBlock ∨ ∃ k, w.heap.size ≤ k ∧ vl'.ownBlock = some k)

theorem perf_end {w w6 w7 : World} {b cnt n k : Nat} {vl vc mo : Value} {xs ys : List Value} (hb6 : Blk w6 b 55 #[.int .u64 (cnt : Int), vl, vc, mo]) (hr6 : Row w6 48 1 vc n xs)
    (hk6 : Keep (fun k => k = b ∨ vl.ownBlock = some k ∨ vc.ownBlock = some k) w w6) (hnp : NotePost w6.drew b cnt k vl vc mo ys w7) (hne : ∀ k, vl.ownBlock = some k → vc.ownBlock ≠ some k) :
    PerfPost w b cnt n k vl vc mo xs ys w7 := by
  obtain ⟨vl', h1, h2, h3, h4⟩ := hnp
  refine ⟨vl', h1, hr6.keep (fun k hk => ?_), h2, hk6.trans ((Keep.refl _ w6).drew.trans (h3.mono (fun k hk => ?_))), ?_⟩
  · refine h3.block k (hr6.lt k hk) (fun hk' => ?_)
    rcases hk' with rfl | hk'
    · exact hr6.ne_blk hb6 (by decide) hk
    · exact hne k hk' hk
  · rcases hk with h | h
    · exact .inl h
    · exact .inr (.inl h)
  · rcases h4 with h | ⟨k, h5, h6⟩
    · exact .inl h
    · exact .inr ⟨k, Nat.le_trans hk6.size h5, h6⟩

theorem set5_cell {w : World} {x p : Nat} {v0 v1 v2 v3 v4 v : Value} (h : w.cell? ⟨p, 0, none⟩ = some v) (n : x ≠ p) :
    (((((w.setCell ⟨x, 0, none⟩ v0).setCell ⟨x, 1, none⟩ v1).setCell ⟨x, 2, none⟩ v2).setCell ⟨x, 3, none⟩ v3).setCell ⟨x, 4, none⟩ v4).drew.cell? ⟨p, 0, none⟩ = some v := by
  rw [World.cell?_drew]
  repeat rw [World.cell?_setCell_far _ _ _ _ (by exact n)]
  exact h

theorem note_far {w w' : World} {b cnt n x : Nat} {vl vc mo : Value} {xs : List Value} (h : NotePost w.drew b cnt n vl vc mo xs w') (hx : x < w.heap.size) (h1 : x ≠ b) (h2 : vl.ownBlock ≠ some x) : w'.heap[x]? = w.drew.heap[x]? := by
  obtain ⟨vl', _, _, h3, _⟩ := h
  exact h3.block x hx (fun h => by rcases h with h | h <;> first | exact h1 h | exact h2 h)

theorem perf_set2 {w w7 : World} {x b cnt n k : Nat} {vl vc mo v0 v1 : Value} {xs ys : List Value} {cs : Array Value} (hR : Blk w7 x 117 cs) (hx : w.heap.size ≤ x) (h : PerfPost w b cnt n k vl vc mo xs ys w7) :
    PerfPost w b cnt n k vl vc mo xs ys ((w7.setCell ⟨x, 0, none⟩ v0).setCell ⟨x, 1, none⟩ v1) := by
  obtain ⟨vl', h1, h2, h3, h4, h5⟩ := h
  have nb : b ≠ x := h1.ne hR (by decide)
  exact ⟨vl', (h1.far (p := ⟨x, 0, none⟩) nb _).far (p := ⟨x, 1, none⟩) nb _, (h2.far (p := ⟨x, 0, none⟩) (h2.ne_blk hR (by decide)) _).far (p := ⟨x, 1, none⟩) (h2.ne_blk hR (by decide)) _,
    (h3.far (p := ⟨x, 0, none⟩) (h3.ne_blk hR (by decide)) _).far (p := ⟨x, 1, none⟩) (h3.ne_blk hR (by decide)) _,
    (h4.setCell (p := ⟨x, 0, none⟩) (.inr hx) _).setCell (p := ⟨x, 1, none⟩) (.inr hx) _, h5⟩
end Go.Proofs.YthiaaapcbiameaaDoor
