/- The shapes of Ops. -/
import Derived.Test.YtleihdakmibmhaaFb
import Derived.Deep.WholeRow
import Derived.Laws.Tables
import Derived.Deep.Cut
namespace Go.Proofs.Ytleihdakmibmhaa
open Go.RowKit Go.Shelf
attribute [local go_sem] Oper.semAt_some

theorem wpList_store_row {P : Program} {ops : Array Oper} {rest : List Oper} {o : Oper} {a : Act} {w : World} {Q : Exit → Act → World → Prop} (hgd : o.guard = none) (ty : TypeId) (x y : Operand) (ho : o.op = .store ty x y)
    (g : Nat) (cells : Array Value) (hx : a.eval x = .pointer (some ⟨g, 0, none⟩)) (hy : a.eval y = .agg cells)
    (t : TypeId) (old : Array Value) (hg : Blk w g t old) (hi : (P.info? ty).map (·.size) = some cells.size)
    (hold : old.size = cells.size) (h1 : cells.all (·.oneCell') = true)
    (h : wpList P ops Q rest (a.put o.dst undef) (w.setRow g cells)) : wpList P ops Q (o :: rest) a w :=
  wpList_plain hgd fun _ hK => wp_store_row ty x y ho g cells hx hy t old hg hi hold h1 (hK _ _ h)
theorem Blk.setRow {w : World} {g : Nat} {t : TypeId} {old : Array Value} (h : Blk w g t old) (cells : Array Value) : Blk (w.setRow g cells) g t cells := setRow_heap w g old cells t (0, 0) h
theorem Blk.setRow_far {w : World} {g g' : Nat} {t : TypeId} {cs : Array Value} (h : Blk w g t cs) (hne : g ≠ g') (cells : Array Value) : Blk (w.setRow g' cells) g t cs := h.keep (setRow_other w g' g cells hne)

theorem run_storeCells_blk {P : Program} {w : World} {g : Nat} {t : TypeId} {old : Array Value} (h : Blk w g t old) (cells : Array Value) (ho : old.size = cells.size) (h1 : cells.all (·.oneCell') = true) :
    (storeCells ⟨g, 0, none⟩ cells.toList 0).run P w = .ok () (w.setRow g cells) := by
  have := run_storeCells_from (P := P) g t cells.toList 0 old w h (by simp; omega) (fun v hv => (Array.all_eq_true_iff_forall_mem.1 h1) v (by simpa using hv))
  simpa using this
theorem below_setRow {n g : Nat} {w W : World} (h : Below n w W) (hg : n ≤ g) (cells : Array Value) : Below n w (W.setRow g cells) :=
  ⟨h.os, h.tape, h.output, by simpa [World.setRow] using h.size, fun k hk => (setRow_other W g k cells (by omega)).trans (h.block k hk)⟩
/-- How many nodes stand beneath an Op: the least and the most. -/
def bndOf (op : Int) : List Int :=
  if op = 1 ∨ op = 2 ∨ op = 3 ∨ op = 15 ∨ op = 19 then [0]
  else if op = 4 ∨ op = 6 ∨ op = 7 ∨ op = 8 ∨ op = 9 ∨ op = 10 ∨ op = 16 then [2]
  else if op = 5 then [3]
  else if op = 11 ∨ op = 12 ∨ op = 17 ∨ op = 18 ∨ op = 24 then [1]
  else if op = 13 ∨ op = 14 ∨ op = 22 ∨ op = 23 then [0, 8]
  else if op = 20 then [0, 16]
  else [1, 9]
theorem bndOf_ne (op : Int) : bndOf op ≠ [] := by unfold bndOf; (repeat' split) <;> simp
theorem len_within (op : Int) (h1 : 1 ≤ op) (h2 : op ≤ 24) (m : Int) (hm : 0 ≤ m) : withinB m (bndOf op) = lenOK op m := by
  unfold withinB bndOf lenOK
  rw [Bool.eq_iff_iff]
  repeat' split
  all_goals first
    | (exfalso; omega)
    | (constructor <;> (intro hx; simp at hx ⊢; omega))
    | (constructor <;> (intro hx; simp at hx; simp; omega))
/-- What stands in the table of shapes: for each Op which number it may have, how many nodes stand beneath it. -/
structure Known (W : World) (lo hi : Nat) (K : Array Value) : Prop where
  size : K.size = 50
  one : K.all (·.oneCell') = true
  num : ∀ op : Nat, 1 ≤ op → op ≤ 24 → K[op * 2]? = some (.func (.func (numF (op : Int))) #[] #[])
  len : ∀ op : Nat, 1 ≤ op → op ≤ 24 → ∃ b u, K[op * 2 + 1]? = some (.func (.func 71) #[] #[.pointer (some ⟨b, 0, none⟩)]) ∧ lo ≤ b ∧ b < hi ∧ Blk W b 45 #[u] ∧ IntsI W lo hi u (bndOf (op : Int))
theorem Known.keep {W W' : World} {lo hi : Nat} {K : Array Value} (h : Known W lo hi K) (hk : Kept lo hi W W') : Known W' lo hi K :=
  ⟨h.size, h.one, h.num, fun op h1 h2 => by
    obtain ⟨b, u, e, hl, hh, hb, hu⟩ := h.len op h1 h2
    exact ⟨b, u, e, hl, hh, hb.keep (hk b hl hh), hu.keep hk⟩⟩
theorem Known.mono {W : World} {lo hi lo' hi' : Nat} {K : Array Value} (h : Known W lo hi K) (h1 : lo' ≤ lo) (h2 : hi ≤ hi') : Known W lo' hi' K :=
  ⟨h.size, h.one, h.num, fun op a1 a2 => by
    obtain ⟨b, u, e, hl, hh, hb, hu⟩ := h.len op a1 a2
    exact ⟨b, u, e, by omega, by omega, hb, hu.mono h1 h2⟩⟩
def knownK (g : Nat) : Array Value := #[.nilFunc, .nilFunc, .func (.func 65) #[] #[], .func (.func 71) #[] #[.pointer (some ⟨g + 2, 0, none⟩)], .func (.func 66) #[] #[], .func (.func 71) #[] #[.pointer (some ⟨g + 2, 0, none⟩)], .func (.func 67) #[] #[], .func (.func 71) #[] #[.pointer (some ⟨g + 2, 0, none⟩)], .func (.func 66) #[] #[], .func (.func 71) #[] #[.pointer (some ⟨g + 6, 0, none⟩)], .func (.func 66) #[] #[], .func (.func 71) #[] #[.pointer (some ⟨g + 8, 0, none⟩)], .func (.func 66) #[] #[], .func (.func 71) #[] #[.pointer (some ⟨g + 6, 0, none⟩)], .func (.func 66) #[] #[], .func (.func 71) #[] #[.pointer (some ⟨g + 6, 0, none⟩)], .func (.func 66) #[] #[], .func (.func 71) #[] #[.pointer (some ⟨g + 6, 0, none⟩)], .func (.func 66) #[] #[], .func (.func 71) #[] #[.pointer (some ⟨g + 6, 0, none⟩)], .func (.func 66) #[] #[], .func (.func 71) #[] #[.pointer (some ⟨g + 6, 0, none⟩)], .func (.func 66) #[] #[], .func (.func 71) #[] #[.pointer (some ⟨g + 4, 0, none⟩)], .func (.func 66) #[] #[], .func (.func 71) #[] #[.pointer (some ⟨g + 4, 0, none⟩)], .func (.func 68) #[] #[], .func (.func 71) #[] #[.pointer (some ⟨g + 10, 0, none⟩)], .func (.func 68) #[] #[], .func (.func 71) #[] #[.pointer (some ⟨g + 10, 0, none⟩)], .func (.func 66) #[] #[], .func (.func 71) #[] #[.pointer (some ⟨g + 2, 0, none⟩)], .func (.func 66) #[] #[], .func (.func 71) #[] #[.pointer (some ⟨g + 6, 0, none⟩)], .func (.func 66) #[] #[], .func (.func 71) #[] #[.pointer (some ⟨g + 4, 0, none⟩)], .func (.func 66) #[] #[], .func (.func 71) #[] #[.pointer (some ⟨g + 4, 0, none⟩)], .func (.func 66) #[] #[], .func (.func 71) #[] #[.pointer (some ⟨g + 2, 0, none⟩)], .func (.func 66) #[] #[], .func (.func 71) #[] #[.pointer (some ⟨g + 12, 0, none⟩)], .func (.func 68) #[] #[], .func (.func 71) #[] #[.pointer (some ⟨g + 14, 0, none⟩)], .func (.func 68) #[] #[], .func (.func 71) #[] #[.pointer (some ⟨g + 10, 0, none⟩)], .func (.func 68) #[] #[], .func (.func 71) #[] #[.pointer (some ⟨g + 10, 0, none⟩)], .func (.func 66) #[] #[], .func (.func 71) #[] #[.pointer (some ⟨g + 4, 0, none⟩)]]
def ShapesP (w : World) (e : Ending) (w' : World) : Prop := ∃ K, e = .returned (.agg K) ∧ Known w' w.heap.size w'.heap.size K ∧ Below w.heap.size w w'
def litK (g h : Nat) : Array Value := #[.nilFunc, .nilFunc, .func (.func 65) #[] #[], .func (.func 71) #[] #[.pointer (some ⟨g + 1 + 1, 0, none⟩)], .func (.func 66) #[] #[], .func (.func 71) #[] #[.pointer (some ⟨g + 1 + 1, 0, none⟩)], .func (.func 67) #[] #[], .func (.func 71) #[] #[.pointer (some ⟨g + 1 + 1, 0, none⟩)], .func (.func 66) #[] #[], .func (.func 71) #[] #[.pointer (some ⟨g + 1 + 1 + 1 + 1 + 1 + 1, 0, none⟩)], .func (.func 66) #[] #[], .func (.func 71) #[] #[.pointer (some ⟨g + 1 + 1 + 1 + 1 + 1 + 1 + 1 + 1, 0, none⟩)], .func (.func 66) #[] #[], .func (.func 71) #[] #[.pointer (some ⟨g + 1 + 1 + 1 + 1 + 1 + 1, 0, none⟩)], .func (.func 66) #[] #[], .func (.func 71) #[] #[.pointer (some ⟨g + 1 + 1 + 1 + 1 + 1 + 1, 0, none⟩)], .func (.func 66) #[] #[], .func (.func 71) #[] #[.pointer (some ⟨g + 1 + 1 + 1 + 1 + 1 + 1, 0, none⟩)], .func (.func 66) #[] #[], .func (.func 71) #[] #[.pointer (some ⟨g + 1 + 1 + 1 + 1 + 1 + 1, 0, none⟩)], .func (.func 66) #[] #[], .func (.func 71) #[] #[.pointer (some ⟨g + 1 + 1 + 1 + 1 + 1 + 1, 0, none⟩)], .func (.func 66) #[] #[], .func (.func 71) #[] #[.pointer (some ⟨g + 1 + 1 + 1 + 1, 0, none⟩)], .func (.func 66) #[] #[], .func (.func 71) #[] #[.pointer (some ⟨g + 1 + 1 + 1 + 1, 0, none⟩)], .func (.func 68) #[] #[], .func (.func 71) #[] #[.pointer (some ⟨g + 1 + 1 + 1 + 1 + 1 + 1 + 1 + 1 + 1 + 1, 0, none⟩)], .func (.func 68) #[] #[], .func (.func 71) #[] #[.pointer (some ⟨g + 1 + 1 + 1 + 1 + 1 + 1 + 1 + 1 + 1 + 1, 0, none⟩)], .func (.func 66) #[] #[], .func (.func 71) #[] #[.pointer (some ⟨g + 1 + 1, 0, none⟩)], .func (.func 66) #[] #[], .func (.func 71) #[] #[.pointer (some ⟨g + 1 + 1 + 1 + 1 + 1 + 1, 0, none⟩)], .func (.func 66) #[] #[], .func (.func 71) #[] #[.pointer (some ⟨g + 1 + 1 + 1 + 1, 0, none⟩)], .func (.func 66) #[] #[], .func (.func 71) #[] #[.pointer (some ⟨g + 1 + 1 + 1 + 1, 0, none⟩)], .func (.func 66) #[] #[], .func (.func 71) #[] #[.pointer (some ⟨g + 1 + 1, 0, none⟩)], .func (.func 66) #[] #[], .func (.func 71) #[] #[.pointer (some ⟨h + 1, 0, none⟩)], .func (.func 68) #[] #[], .func (.func 71) #[] #[.pointer (some ⟨h + 1 + 1 + 1, 0, none⟩)], .func (.func 68) #[] #[], .func (.func 71) #[] #[.pointer (some ⟨g + 1 + 1 + 1 + 1 + 1 + 1 + 1 + 1 + 1 + 1, 0, none⟩)], .func (.func 68) #[] #[], .func (.func 71) #[] #[.pointer (some ⟨g + 1 + 1 + 1 + 1 + 1 + 1 + 1 + 1 + 1 + 1, 0, none⟩)], .func (.func 66) #[] #[], .func (.func 71) #[] #[.pointer (some ⟨g + 1 + 1 + 1 + 1, 0, none⟩)]]
theorem litK_size (g h : Nat) : (litK g h).size = 50 := rfl
theorem litK_one (g h : Nat) : (litK g h).all (·.oneCell') = true := by unfold litK; simp [Value.oneCell']
theorem known_of {w' : World} {g hi : Nat} (hh : g + 15 ≤ hi)
    (h : ∀ p ∈ [(2, [0]), (4, [1]), (6, [2]), (8, [3]), (10, [0, 8]), (12, [0, 16]), (14, [1, 9])], Blk w' (g + p.1) 45 #[.slice (some ⟨g + (p.1 - 1), 0, none⟩) p.2.length p.2.length] ∧ Blk w' (g + (p.1 - 1)) 3 (p.2.map (Value.int .i64)).toArray) : Known w' g hi (knownK g) := by
  refine ⟨rfl, litK_one g (g + 11), fun op h1 h2 => ?_, fun op h1 h2 => ?_⟩
  · have : op = 1 ∨ op = 2 ∨ op = 3 ∨ op = 4 ∨ op = 5 ∨ op = 6 ∨ op = 7 ∨ op = 8 ∨ op = 9 ∨ op = 10 ∨ op = 11 ∨ op = 12 ∨ op = 13 ∨ op = 14 ∨ op = 15 ∨ op = 16 ∨ op = 17 ∨ op = 18 ∨ op = 19 ∨ op = 20 ∨ op = 21 ∨ op = 22 ∨ op = 23 ∨ op = 24 := by omega
    rcases this with rfl | rfl | rfl | rfl | rfl | rfl | rfl | rfl | rfl | rfl | rfl | rfl | rfl | rfl | rfl | rfl | rfl | rfl | rfl | rfl | rfl | rfl | rfl | rfl <;> rfl
  · have key : ∀ p ∈ [(2, [0]), (4, [1]), (6, [2]), (8, [3]), (10, [0, 8]), (12, [0, 16]), (14, [(1 : Int), 9])], IntsI w' g hi (.slice (some ⟨g + (p.1 - 1), 0, none⟩) p.2.length p.2.length) p.2 := fun p hp => by
      refine IntsI.of_blk (h p hp).2 (fun i x hx => ?_) (fun x hx => ?_) (Nat.le_refl _) ?_ (by omega) ?_
      · simp [List.getElem?_map, hx]
      · simp at hp
        rcases hp with rfl | rfl | rfl | rfl | rfl | rfl | rfl <;> (simp at hx; unfold W64; omega)
      · simp at hp
        rcases hp with rfl | rfl | rfl | rfl | rfl | rfl | rfl <;> simp [maxLen]
      · simp at hp
        rcases hp with rfl | rfl | rfl | rfl | rfl | rfl | rfl <;> (simp; omega)
    have : op = 1 ∨ op = 2 ∨ op = 3 ∨ op = 4 ∨ op = 5 ∨ op = 6 ∨ op = 7 ∨ op = 8 ∨ op = 9 ∨ op = 10 ∨ op = 11 ∨ op = 12 ∨ op = 13 ∨ op = 14 ∨ op = 15 ∨ op = 16 ∨ op = 17 ∨ op = 18 ∨ op = 19 ∨ op = 20 ∨ op = 21 ∨ op = 22 ∨ op = 23 ∨ op = 24 := by omega
    rcases this with rfl | rfl | rfl | rfl | rfl | rfl | rfl | rfl | rfl | rfl | rfl | rfl | rfl | rfl | rfl | rfl | rfl | rfl | rfl | rfl | rfl | rfl | rfl | rfl
    · exact ⟨g + 2, _, rfl, by omega, by omega, (h (2, [0]) (by simp)).1, key (2, [0]) (by simp)⟩
    · exact ⟨g + 2, _, rfl, by omega, by omega, (h (2, [0]) (by simp)).1, key (2, [0]) (by simp)⟩
    · exact ⟨g + 2, _, rfl, by omega, by omega, (h (2, [0]) (by simp)).1, key (2, [0]) (by simp)⟩
    · exact ⟨g + 6, _, rfl, by omega, by omega, (h (6, [2]) (by simp)).1, key (6, [2]) (by simp)⟩
    · exact ⟨g + 8, _, rfl, by omega, by omega, (h (8, [3]) (by simp)).1, key (8, [3]) (by simp)⟩
    · exact ⟨g + 6, _, rfl, by omega, by omega, (h (6, [2]) (by simp)).1, key (6, [2]) (by simp)⟩
    · exact ⟨g + 6, _, rfl, by omega, by omega, (h (6, [2]) (by simp)).1, key (6, [2]) (by simp)⟩
    · exact ⟨g + 6, _, rfl, by omega, by omega, (h (6, [2]) (by simp)).1, key (6, [2]) (by simp)⟩
    · exact ⟨g + 6, _, rfl, by omega, by omega, (h (6, [2]) (by simp)).1, key (6, [2]) (by simp)⟩
    · exact ⟨g + 6, _, rfl, by omega, by omega, (h (6, [2]) (by simp)).1, key (6, [2]) (by simp)⟩
    · exact ⟨g + 4, _, rfl, by omega, by omega, (h (4, [1]) (by simp)).1, key (4, [1]) (by simp)⟩
    · exact ⟨g + 4, _, rfl, by omega, by omega, (h (4, [1]) (by simp)).1, key (4, [1]) (by simp)⟩
    · exact ⟨g + 10, _, rfl, by omega, by omega, (h (10, [0, 8]) (by simp)).1, key (10, [0, 8]) (by simp)⟩
    · exact ⟨g + 10, _, rfl, by omega, by omega, (h (10, [0, 8]) (by simp)).1, key (10, [0, 8]) (by simp)⟩
    · exact ⟨g + 2, _, rfl, by omega, by omega, (h (2, [0]) (by simp)).1, key (2, [0]) (by simp)⟩
    · exact ⟨g + 6, _, rfl, by omega, by omega, (h (6, [2]) (by simp)).1, key (6, [2]) (by simp)⟩
    · exact ⟨g + 4, _, rfl, by omega, by omega, (h (4, [1]) (by simp)).1, key (4, [1]) (by simp)⟩
    · exact ⟨g + 4, _, rfl, by omega, by omega, (h (4, [1]) (by simp)).1, key (4, [1]) (by simp)⟩
    · exact ⟨g + 2, _, rfl, by omega, by omega, (h (2, [0]) (by simp)).1, key (2, [0]) (by simp)⟩
    · exact ⟨g + 12, _, rfl, by omega, by omega, (h (12, [0, 16]) (by simp)).1, key (12, [0, 16]) (by simp)⟩
    · exact ⟨g + 14, _, rfl, by omega, by omega, (h (14, [1, 9]) (by simp)).1, key (14, [1, 9]) (by simp)⟩
    · exact ⟨g + 10, _, rfl, by omega, by omega, (h (10, [0, 8]) (by simp)).1, key (10, [0, 8]) (by simp)⟩
    · exact ⟨g + 10, _, rfl, by omega, by omega, (h (10, [0, 8]) (by simp)).1, key (10, [0, 8]) (by simp)⟩
    · exact ⟨g + 4, _, rfl, by omega, by omega, (h (4, [1]) (by simp)).1, key (4, [1]) (by simp)⟩

/-- The world behind the first five lists of bounds. -/
def shW (w : World) : World := (((((((((((w.alloc (.cells #[.nilFunc, .nilFunc, .nilFunc, .nilFunc, .nilFunc, .nilFunc, .nilFunc, .nilFunc, .nilFunc, .nilFunc, .nilFunc, .nilFunc, .nilFunc, .nilFunc, .nilFunc, .nilFunc, .nilFunc, .nilFunc, .nilFunc, .nilFunc, .nilFunc, .nilFunc, .nilFunc, .nilFunc, .nilFunc, .nilFunc, .nilFunc, .nilFunc, .nilFunc, .nilFunc, .nilFunc, .nilFunc, .nilFunc, .nilFunc, .nilFunc, .nilFunc, .nilFunc, .nilFunc, .nilFunc, .nilFunc, .nilFunc, .nilFunc, .nilFunc, .nilFunc, .nilFunc, .nilFunc, .nilFunc, .nilFunc, .nilFunc, .nilFunc] 87)).alloc (.cells #[.int .i64 0] 3)).alloc (.cells #[.slice (some ⟨w.heap.size + 1, 0, none⟩) 1 1] 45)).alloc (.cells #[.int .i64 1] 3)).alloc (.cells #[.slice (some ⟨w.heap.size + 1 + 1 + 1, 0, none⟩) 1 1] 45)).alloc (.cells #[.int .i64 2] 3)).alloc (.cells #[.slice (some ⟨w.heap.size + 1 + 1 + 1 + 1 + 1, 0, none⟩) 1 1] 45)).alloc (.cells #[.int .i64 3] 3)).alloc (.cells #[.slice (some ⟨w.heap.size + 1 + 1 + 1 + 1 + 1 + 1 + 1, 0, none⟩) 1 1] 45)).alloc (.cells #[.int .i64 0, .int .i64 8] 3)).alloc (.cells #[.slice (some ⟨w.heap.size + 1 + 1 + 1 + 1 + 1 + 1 + 1 + 1 + 1, 0, none⟩) 2 2] 45))
theorem blkN {w : World} {g : Nat} (hg : w.heap.size = g) (t : TypeId) (cs : Array Value) : Blk (w.alloc (.cells cs t)) g t cs := by subst hg; exact Blk.new w t cs
theorem shW_facts (w : World) : (shW w).heap.size = w.heap.size + 11 ∧ Below w.heap.size w (shW w) ∧ Blk (shW w) (w.heap.size + 0) 87 #[.nilFunc, .nilFunc, .nilFunc, .nilFunc, .nilFunc, .nilFunc, .nilFunc, .nilFunc, .nilFunc, .nilFunc, .nilFunc, .nilFunc, .nilFunc, .nilFunc, .nilFunc, .nilFunc, .nilFunc, .nilFunc, .nilFunc, .nilFunc, .nilFunc, .nilFunc, .nilFunc, .nilFunc, .nilFunc, .nilFunc, .nilFunc, .nilFunc, .nilFunc, .nilFunc, .nilFunc, .nilFunc, .nilFunc, .nilFunc, .nilFunc, .nilFunc, .nilFunc, .nilFunc, .nilFunc, .nilFunc, .nilFunc, .nilFunc, .nilFunc, .nilFunc, .nilFunc, .nilFunc, .nilFunc, .nilFunc, .nilFunc, .nilFunc] ∧ Blk (shW w) (w.heap.size + 1) 3 #[.int .i64 0] ∧ Blk (shW w) (w.heap.size + 2) 45 #[.slice (some ⟨w.heap.size + 1, 0, none⟩) 1 1] ∧ Blk (shW w) (w.heap.size + 3) 3 #[.int .i64 1] ∧ Blk (shW w) (w.heap.size + 4) 45 #[.slice (some ⟨w.heap.size + 1 + 1 + 1, 0, none⟩) 1 1] ∧ Blk (shW w) (w.heap.size + 5) 3 #[.int .i64 2] ∧ Blk (shW w) (w.heap.size + 6) 45 #[.slice (some ⟨w.heap.size + 1 + 1 + 1 + 1 + 1, 0, none⟩) 1 1] ∧ Blk (shW w) (w.heap.size + 7) 3 #[.int .i64 3] ∧ Blk (shW w) (w.heap.size + 8) 45 #[.slice (some ⟨w.heap.size + 1 + 1 + 1 + 1 + 1 + 1 + 1, 0, none⟩) 1 1] ∧ Blk (shW w) (w.heap.size + 9) 3 #[.int .i64 0, .int .i64 8] ∧ Blk (shW w) (w.heap.size + 10) 45 #[.slice (some ⟨w.heap.size + 1 + 1 + 1 + 1 + 1 + 1 + 1 + 1 + 1, 0, none⟩) 2 2] :=
  ⟨by unfold shW; simp, by unfold shW; repeat (first | exact Below.refl _ _ | refine Below.alloc ?_ (by simp; try omega) _),
   by unfold shW; exact Blk.alloc (Blk.alloc (Blk.alloc (Blk.alloc (Blk.alloc (Blk.alloc (Blk.alloc (Blk.alloc (Blk.alloc (Blk.alloc (blkN (by simp) _ _) _) _) _) _) _) _) _) _) _) _,
   by unfold shW; exact Blk.alloc (Blk.alloc (Blk.alloc (Blk.alloc (Blk.alloc (Blk.alloc (Blk.alloc (Blk.alloc (Blk.alloc (blkN (by simp) _ _) _) _) _) _) _) _) _) _) _,
   by unfold shW; exact Blk.alloc (Blk.alloc (Blk.alloc (Blk.alloc (Blk.alloc (Blk.alloc (Blk.alloc (Blk.alloc (blkN (by simp) _ _) _) _) _) _) _) _) _) _,
   by unfold shW; exact Blk.alloc (Blk.alloc (Blk.alloc (Blk.alloc (Blk.alloc (Blk.alloc (Blk.alloc (blkN (by simp) _ _) _) _) _) _) _) _) _,
   by unfold shW; exact Blk.alloc (Blk.alloc (Blk.alloc (Blk.alloc (Blk.alloc (Blk.alloc (blkN (by simp) _ _) _) _) _) _) _) _,
   by unfold shW; exact Blk.alloc (Blk.alloc (Blk.alloc (Blk.alloc (Blk.alloc (blkN (by simp) _ _) _) _) _) _) _,
   by unfold shW; exact Blk.alloc (Blk.alloc (Blk.alloc (Blk.alloc (blkN (by simp) _ _) _) _) _) _,
   by unfold shW; exact Blk.alloc (Blk.alloc (Blk.alloc (blkN (by simp) _ _) _) _) _,
   by unfold shW; exact Blk.alloc (Blk.alloc (blkN (by simp) _ _) _) _,
   by unfold shW; exact Blk.alloc (blkN (by simp) _ _) _,
   by unfold shW; exact blkN (by simp) _ _⟩
set_option maxRecDepth 100000 in
set_option maxHeartbeats 3200000 in
theorem shapes6_ok (w : World) : Calls Try.prog 53 #[] w (ShapesP w) := by
  go_enter Try.func53, Try.ntmps53
  go_upto_region 3 with (go_at_call 64; refine (count_ok _ _ _ _).mono ?_; rintro e w' ⟨rfl, rfl⟩)
  obtain ⟨W, hW⟩ : ∃ W, shW w = W := ⟨_, rfl⟩
  have HF := Lib.hid (shW_facts w)
  rw [hW] at HF
  unfold shW at hW
  rw [hW]
  clear hW
  obtain ⟨g, hg⟩ : ∃ g, w.heap.size = g := ⟨_, rfl⟩
  rw [hg] at HF ⊢
  have HG := Lib.hid hg
  clear hg
  have key := run_storeCells_blk (P := Try.prog) (((((HF.out.2.2.1.alloc (.cells #[.int .i64 0, .int .i64 16] 3)).alloc (.cells #[.slice (some ⟨W.heap.size, 0, none⟩) 2 2] 45)).alloc (.cells #[.int .i64 1, .int .i64 9] 3)).alloc (.cells #[.slice (some ⟨W.heap.size + 1 + 1, 0, none⟩) 2 2] 45))) (litK g W.heap.size) (by rw [litK_size]; rfl) (litK_one _ _)
  unfold litK at key
  simp [go_sem] at key
  go_wp2_with (go_at_call 64; refine (count_ok _ _ _ _).mono ?_; rintro e w' ⟨rfl, rfl⟩)
  clear key
  have hB4 := ((((HF.out.2.2.1.alloc (.cells #[.int .i64 0, .int .i64 16] 3)).alloc (.cells #[.slice (some ⟨W.heap.size, 0, none⟩) 2 2] 45)).alloc (.cells #[.int .i64 1, .int .i64 9] 3)).alloc (.cells #[.slice (some ⟨W.heap.size + 1 + 1, 0, none⟩) 2 2] 45))
  obtain ⟨W4, hW4⟩ : ∃ X, (((W.alloc (.cells #[.int .i64 0, .int .i64 16] 3)).alloc (.cells #[.slice (some ⟨W.heap.size, 0, none⟩) 2 2] 45)).alloc (.cells #[.int .i64 1, .int .i64 9] 3)).alloc (.cells #[.slice (some ⟨W.heap.size + 1 + 1, 0, none⟩) 2 2] 45) = X := ⟨_, rfl⟩
  have hK := hB4.setRow (litK g W.heap.size)
  rw [hW4] at hK
  have hl := run_loadVar_row (P := Try.prog) _ g 87 87 _ (0, 0) _ hK Try.underlying87 rfl (by rw [litK_size]; kernel_rfl)
  refine bodyPost_ret (v := .agg (litK g W.heap.size)) ?_ rfl ⟨_, rfl, ?_, ?_⟩
  · rw [hW4]
    change (results _ _).run _ (W4.setRow g (litK g W.heap.size)) = Result.ok _ (W4.setRow g (litK g W.heap.size))
    simp [results, Try.results53, Result.andThen]
    rw [show Sem.run Try.prog (asAddr (Value.pointer (some ⟨g, 0, none⟩))) (W4.setRow g (litK g W.heap.size)) = .ok ⟨g, 0, none⟩ _ from rfl]
    exact hl
  · rw [hW4]
    change Known (W4.setRow g (litK g W.heap.size)) _ _ _
    rw [HG.out, HF.out.1]
    change Known _ _ _ (knownK g)
    obtain ⟨hs, _, _, f1, f2, f3, f4, f5, f6, f7, f8, f9, f10⟩ := HF.out
    have hs4 : W4.heap.size = g + 15 := by rw [← hW4]; simp [hs]
    refine known_of (by simp [World.setRow]; omega) ?_
    have far : ∀ {b : Nat} {t : TypeId} {cs : Array Value}, b ≠ g → Blk W b t cs → Blk (W4.setRow g (litK g (g + 11))) b t cs := fun hne h => Blk.setRow_far (by rw [← hW4]; exact (((h.alloc _).alloc _).alloc _).alloc _) hne _
    have n1 : Blk W4 (g + 11) 3 #[.int .i64 0, .int .i64 16] := by rw [← hW4]; exact (((blkN hs 3 _).alloc _).alloc _).alloc _
    have n2 : Blk W4 (g + 12) 45 #[.slice (some ⟨g + 11, 0, none⟩) 2 2] := by rw [← hW4, hs]; exact ((blkN (by simp [hs]) 45 _).alloc _).alloc _
    have n3 : Blk W4 (g + 13) 3 #[.int .i64 1, .int .i64 9] := by rw [← hW4]; exact (blkN (by simp [hs]) 3 _).alloc _
    have n4 : Blk W4 (g + 14) 45 #[.slice (some ⟨g + 13, 0, none⟩) 2 2] := by rw [← hW4, hs]; exact blkN (by simp [hs]) 45 _
    intro p hp
    simp at hp
    rcases hp with rfl | rfl | rfl | rfl | rfl | rfl | rfl
    · exact ⟨far (by omega) f2, far (by omega) f1⟩
    · exact ⟨far (by omega) f4, far (by omega) f3⟩
    · exact ⟨far (by omega) f6, far (by omega) f5⟩
    · exact ⟨far (by omega) f8, far (by omega) f7⟩
    · exact ⟨far (by omega) f10, far (by omega) f9⟩
    · exact ⟨Blk.setRow_far n2 (by omega) _, Blk.setRow_far n1 (by omega) _⟩
    · exact ⟨Blk.setRow_far n4 (by omega) _, Blk.setRow_far n3 (by omega) _⟩
  · rw [hW4, HG.out]
    have hb4 : Below g w W4 := by
      have h0 := HF.out.1
      rw [← hW4]
      exact (((HF.out.2.1.alloc (by omega) _).alloc (by simp; omega) _).alloc (by simp; omega) _).alloc (by simp; omega) _
    exact below_setRow hb4 (Nat.le_refl _) _
end Go.Proofs.Ytleihdakmibmhaa
