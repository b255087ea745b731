/- The law CellHolds: what its first loop keeps. -/
import Derived.Test.YtbojbhjaeekjpaaHb
namespace Go.Proofs.Ytbojbhjaeekjpaa
open Go.RowKit Go.Shelf

/-- Between two acts: the arena stands as s; the slice of what was asked lies apart from it; below base nothing has turned. -/
structure Hinv (w0 : World) (base a b : Nat) (wr : World) (s : St) (asked : List Int) (va : Value) : Prop where
  are : Are (fun k => base ≤ k ∧ k ≠ a ∧ va.ownBlock ≠ some k) wr b s
  av : Blk wr a 29 #[va]
  row : Row wr 38 1 va asked.length (asked.map (Value.int .u64))
  own : ∀ k, va.ownBlock = some k → base ≤ k
  low : Below base w0 wr
  ab : base ≤ a
  wb : base ≤ w0.heap.size

section
variable {w0 wr w' : World} {base a b : Nat} {s s' : St} {asked : List Int} {va : Value}
theorem Hinv.alloc (h : Hinv w0 base a b wr s asked va) (o : Obj) : Hinv w0 base a b (wr.alloc o) s asked va :=
  ⟨h.are.alloc o, h.av.alloc o, h.row.alloc o, h.own, h.low.alloc (Nat.le_trans h.wb h.low.size) o, h.ab, h.wb⟩
theorem Hinv.drew (h : Hinv w0 base a b wr s asked va) : Hinv w0 base a b wr.drew s asked va :=
  ⟨h.are.drew, h.av.drew, h.row.drew, h.own, h.low.drew, h.ab, h.wb⟩
theorem Hinv.ws (h : Hinv w0 base a b wr s asked va) : WS (fun k => base ≤ k ∧ k ≠ a ∧ va.ownBlock ≠ some k) wr wr b s :=
  WS.start h.are (fun k hk => ⟨Nat.le_trans (Nat.le_trans h.wb h.low.size) hk, fun e => by have := h.av.lt; omega, fun e => by have := h.row.lt k e; omega⟩)
theorem Hinv.next (h : Hinv w0 base a b wr s asked va) (hw : WS (fun k => base ≤ k ∧ k ≠ a ∧ va.ownBlock ≠ some k) wr w' b s') : Hinv w0 base a b w' s' asked va :=
  ⟨hw.are, h.av.keep (hw.keep.block a h.av.lt (fun e => e.2.1 rfl)), h.row.keep (fun k hk => hw.keep.block k (h.row.lt k hk) (fun e => e.2.2 hk)), h.own,
    h.low.trans (hw.keep.below (fun _ e => e.1) (Nat.le_trans h.wb h.low.size)), h.ab, h.wb⟩
/-- The box X of the act lies apart. -/
theorem Hinv.box (h : Hinv w0 base a b wr s asked va) (o : Obj) : WS (fun k => (base ≤ k ∧ k ≠ a ∧ va.ownBlock ≠ some k) ∧ k ≠ wr.heap.size) (wr.alloc o).drew (wr.alloc o).drew b s :=
  WS.start (((h.are.mono (fun k hk hf => ⟨hf, by omega⟩)).alloc o).drew) (fun k hk => by
    have hk' : wr.heap.size + 1 ≤ k := by simpa using hk
    exact ⟨⟨by have := h.wb; have := h.low.size; omega, fun e => by have := h.av.lt; omega, fun e => by have := h.row.lt k e; omega⟩, by omega⟩)
theorem Hinv.nextX {X : Nat} (h : Hinv w0 base a b wr s asked va) (hw : WS (fun k => (base ≤ k ∧ k ≠ a ∧ va.ownBlock ≠ some k) ∧ k ≠ X) wr w' b s') : Hinv w0 base a b w' s' asked va :=
  ⟨hw.are.mono (fun _ _ hf => hf.1), h.av.keep (hw.keep.block a h.av.lt (fun e => e.1.2.1 rfl)), h.row.keep (fun k hk => hw.keep.block k (h.row.lt k hk) (fun e => e.1.2.2 hk)), h.own,
    h.low.trans (hw.keep.below (fun _ e => e.1.1) (Nat.le_trans h.wb h.low.size)), h.ab, h.wb⟩
/-- One number more is appended, and the slice stored back. -/
theorem Hinv.push {X : Obj} {w1 : World} {v' : Value} {x : Int} (h : Hinv w0 base a b wr s asked va) (hown : Row w1 38 1 v' (asked.length + 1) (asked.map (Value.int .u64) ++ [.int .u64 x]))
    (hgrow : (wr.alloc X).grownBy w1 va.ownBlock) (hat : v'.ownBlock = va.ownBlock ∨ v'.ownBlock = some (wr.alloc X).heap.size) : Hinv w0 base a b (w1.setCell ⟨a, 0, none⟩ v') s (asked ++ [x]) v' := by
  have hav := h.av.lt
  have hwl := h.low.size
  have hwb := h.wb
  have hab := h.ab
  have hsz := hgrow.size
  have hsz1 : (wr.alloc X).heap.size = wr.heap.size + 1 := by simp
  have hat' : ∀ k, v'.ownBlock = some k → va.ownBlock = some k ∨ k = wr.heap.size + 1 := fun k hk => by
    rcases hat with e | e
    · exact .inl (e ▸ hk)
    · rw [e, hsz1] at hk; injection hk with hk; exact .inr hk.symm
  have hva : va.ownBlock ≠ some a := h.row.ne_blk h.av (by decide)
  have av1 : Blk w1 a 29 #[va] := (h.av.alloc X).keep (hgrow.block a (by omega) (fun e => hva e.symm))
  have hva' : v'.ownBlock ≠ some a := hown.ne_blk av1 (by decide)
  refine ⟨?_, ?_, ?_, ?_, ?_, hab, hwb⟩
  · have h1 := h.are.mono (G := fun k => (base ≤ k ∧ k ≠ a ∧ va.ownBlock ≠ some k) ∧ v'.ownBlock ≠ some k) (fun k hk hf => ⟨hf, fun e => by
      rcases hat' k e with e | e
      · exact hf.2.2 e
      · omega⟩)
    have h2 := h1.keep (w' := w1.setCell ⟨a, 0, none⟩ v') (fun k hk hf => (Below.heap_setCell _ _ _ _ hf.1.2.1).trans ((hgrow.block k (by omega) (fun e => hf.1.2.2 e.symm)).trans (Below.heap_alloc _ _ _ hk)))
    exact h2.mono (fun _ _ hf => ⟨hf.1.1, hf.1.2.1, hf.2⟩)
  · exact av1.set 0 v'
  · have := hown.far (p := ⟨a, 0, none⟩) hva' v'
    simpa using this
  · intro k hk
    rcases hat' k hk with e | e
    · exact h.own k e
    · omega
  · exact (((h.low.alloc (Nat.le_trans hwb hwl) X).grown hgrow (by omega) (fun k hk => h.own k hk))).setCell (p := ⟨a, 0, none⟩) hab _
end
end Go.Proofs.Ytbojbhjaeekjpaa
