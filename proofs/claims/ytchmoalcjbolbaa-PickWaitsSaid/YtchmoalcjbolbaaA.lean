/- Turns as data, and how they lie in memory; ownership of what loops over iterators keep. -/
import Derived.Test.YtchmoalcjbolbaaChecked
import Derived.Test.YtchmoalcjbolbaaG
import Derived.Test.YtchmoalcjbolbaaR
import Derived.Lib.Hide
import Derived.Shelf.Abstract
import Derived.Shelf.RegionOpen
import Derived.OwnWalkIn
import Derived.TacticsInMore
import Derived.LoopNIn
import Derived.LoopIn
namespace Go.Proofs.Ytchmoalcjbolbaa
open Go.RowKit Go.Shelf

structure Tn where
  runs : List Int
  took : Int
deriving DecidableEq

def W64 (x : Int) : Prop := -9223372036854775808 ≤ x ∧ x ≤ 9223372036854775807

/-- A slice of ints that is read. -/
def Ints (W : World) (u : Value) (xs : List Int) : Prop :=
  ∃ A c, u = .slice A xs.length c ∧ xs.length ≤ c ∧ c ≤ maxLen ∧ (∀ x ∈ xs, W64 x) ∧
    (xs ≠ [] → ∃ b o, A = some ⟨b, o, none⟩ ∧ b < W.heap.size ∧ ∀ i x, xs[i]? = some x → W.cell? ⟨b, o + i, none⟩ = some (.int .i64 x))

/-- A slice of turns that is read. -/
def Turns (W : World) (v : Value) (l : List Tn) : Prop :=
  ∃ A c, v = .slice A l.length c ∧ l.length ≤ c ∧ c ≤ maxLen ∧
    (l ≠ [] → ∃ b o, A = some ⟨b, o, none⟩ ∧ b < W.heap.size ∧ ∀ i x, l[i]? = some x →
      ∃ u, W.cell? ⟨b, o + i * 2, none⟩ = some u ∧ Ints W u x.runs ∧ W.cell? ⟨b, o + i * 2 + 1, none⟩ = some (.int .i64 x.took) ∧ W64 x.took)

theorem lt_of_cell {W : World} {p : Addr} {v : Value} (h : W.cell? p = some v) : p.block < W.heap.size := by
  unfold World.cell? at h
  split at h
  · rename_i hb; exact (Array.getElem?_eq_some_iff.1 hb).1
  · cases h

theorem Ints.nil (W : World) : Ints W (.slice none 0 0) [] := ⟨none, 0, rfl, Nat.le_refl _, by simp [maxLen], by simp, by simp⟩
theorem Turns.nil (W : World) : Turns W (.slice none 0 0) [] := ⟨none, 0, rfl, Nat.le_refl _, by simp [maxLen], by simp⟩

theorem cell_same {W W' : World} {p : Addr} (h : W'.heap[p.block]? = W.heap[p.block]?) : W'.cell? p = W.cell? p := by
  unfold World.cell?
  rw [h]

/-- What a world must keep, for a reading to stay: the blocks in which cells lie. -/
def CellsKept (W W' : World) : Prop := ∀ p v, W.cell? p = some v → W'.cell? p = some v

theorem CellsKept.lt {W W' : World} (h : CellsKept W W') {p : Addr} {v : Value} (hc : W.cell? p = some v) : p.block < W'.heap.size := lt_of_cell (h p v hc)

theorem Ints.kept {W W' : World} {u : Value} {xs : List Int} (h : Ints W u xs) (hk : CellsKept W W') : Ints W' u xs := by
  obtain ⟨A, c, rfl, h1, h2, hw, h3⟩ := h
  refine ⟨A, c, rfl, h1, h2, hw, fun hne => ?_⟩
  obtain ⟨b, o, rfl, hb, hc⟩ := h3 hne
  obtain ⟨x, hx⟩ : ∃ x, xs[0]? = some x := by
    cases xs with
    | nil => exact absurd rfl hne
    | cons x t => exact ⟨x, rfl⟩
  exact ⟨b, o, rfl, by simpa using hk.lt (hc 0 x hx), fun i x hx => hk _ _ (hc i x hx)⟩

theorem Turns.kept {W W' : World} {v : Value} {l : List Tn} (h : Turns W v l) (hk : CellsKept W W') : Turns W' v l := by
  obtain ⟨A, c, rfl, h1, h2, h3⟩ := h
  refine ⟨A, c, rfl, h1, h2, fun hne => ?_⟩
  obtain ⟨b, o, rfl, hb, hc⟩ := h3 hne
  obtain ⟨x, hx⟩ : ∃ x, l[0]? = some x := by
    cases l with
    | nil => exact absurd rfl hne
    | cons x t => exact ⟨x, rfl⟩
  obtain ⟨u, hu, _⟩ := hc 0 x hx
  refine ⟨b, o, rfl, by simpa using hk.lt hu, fun i x hx => ?_⟩
  obtain ⟨u, q1, q2, q3, q4⟩ := hc i x hx
  exact ⟨u, hk _ _ q1, q2.kept hk, hk _ _ q3, q4⟩

theorem kept_below {W W' : World} {n : Nat} (h : Below n W W') (hn : W.heap.size ≤ n) : CellsKept W W' :=
  fun p _ hv => (cell_same (h.block p.block (Nat.lt_of_lt_of_le (lt_of_cell hv) hn))).trans hv

theorem Ints.below {W W' : World} {u : Value} {xs : List Int} (h : Ints W u xs) (hk : Below W.heap.size W W') : Ints W' u xs := h.kept (kept_below hk (Nat.le_refl _))
theorem Turns.below {W W' : World} {u : Value} {xs : List Tn} (h : Turns W u xs) (hk : Below W.heap.size W W') : Turns W' u xs := h.kept (kept_below hk (Nat.le_refl _))
theorem Ints.alloc {W : World} {u : Value} {xs : List Int} (h : Ints W u xs) (o : Obj) : Ints (W.alloc o) u xs := h.below ((Below.refl _ W).alloc (Nat.le_refl _) o)
theorem Turns.alloc {W : World} {u : Value} {xs : List Tn} (h : Turns W u xs) (o : Obj) : Turns (W.alloc o) u xs := h.below ((Below.refl _ W).alloc (Nat.le_refl _) o)

theorem Ints.form {W : World} {u : Value} {xs : List Int} (h : Ints W u xs) : ∃ A c, u = .slice A xs.length c ∧ xs.length ≤ c ∧ c ≤ maxLen := by
  obtain ⟨A, c, rfl, h1, h2, _⟩ := h; exact ⟨A, c, rfl, h1, h2⟩
theorem Ints.wf {W : World} {u : Value} {xs : List Int} (h : Ints W u xs) : ∀ x ∈ xs, W64 x := by
  obtain ⟨A, c, rfl, h1, h2, hw, _⟩ := h; exact hw
theorem Ints.at_ {W : World} {A : Option Addr} {n c : Nat} {xs : List Int} (h : Ints W (.slice A n c) xs) {i : Nat} {x : Int} (hx : xs[i]? = some x) :
    ∃ b o, A = some ⟨b, o, none⟩ ∧ b < W.heap.size ∧ W.cell? ⟨b, o + i, none⟩ = some (.int .i64 x) := by
  obtain ⟨A', c', hv, h1, h2, hw, h3⟩ := h
  simp only [Value.slice.injEq] at hv
  obtain ⟨rfl, rfl, rfl⟩ := hv
  obtain ⟨b, o, rfl, hb, hc⟩ := h3 (by rintro rfl; simp at hx)
  exact ⟨b, o, rfl, hb, hc i x hx⟩
theorem Ints.len {W : World} {A : Option Addr} {n c : Nat} {xs : List Int} (h : Ints W (.slice A n c) xs) : n = xs.length ∧ xs.length ≤ c ∧ c ≤ maxLen := by
  obtain ⟨A', c', hv, h1, h2, hw, h3⟩ := h
  simp only [Value.slice.injEq] at hv
  obtain ⟨rfl, rfl, rfl⟩ := hv
  exact ⟨rfl, h1, h2⟩

theorem Turns.form {W : World} {u : Value} {xs : List Tn} (h : Turns W u xs) : ∃ A c, u = .slice A xs.length c ∧ xs.length ≤ c ∧ c ≤ maxLen := by
  obtain ⟨A, c, rfl, h1, h2, _⟩ := h; exact ⟨A, c, rfl, h1, h2⟩
theorem Turns.at_ {W : World} {A : Option Addr} {n c : Nat} {l : List Tn} (h : Turns W (.slice A n c) l) {i : Nat} {x : Tn} (hx : l[i]? = some x) :
    ∃ b o B m d, A = some ⟨b, o, none⟩ ∧ b < W.heap.size ∧ W.cell? ⟨b, o + i * 2, none⟩ = some (.slice B m d) ∧ Ints W (.slice B m d) x.runs ∧ W.cell? ⟨b, o + i * 2 + 1, none⟩ = some (.int .i64 x.took) ∧ W64 x.took := by
  obtain ⟨A', c', hv, h1, h2, h3⟩ := h
  simp only [Value.slice.injEq] at hv
  obtain ⟨rfl, rfl, rfl⟩ := hv
  obtain ⟨b, o, rfl, hb, hc⟩ := h3 (by rintro rfl; simp at hx)
  obtain ⟨u, q1, q2, q3, q4⟩ := hc i x hx
  obtain ⟨B, d, rfl, _⟩ := q2.form
  exact ⟨b, o, B, _, d, rfl, hb, q1, q2, q3, q4⟩

/-! ### What a loop over an iterator may keep -/
theorem ownFrom_le {β : Type} {B B' : Nat} {I : β → World → Prop} (h : OwnFrom B I) (hB : B ≤ B') : OwnFrom B' I :=
  fun s W W' row hs hg hr => h s W W' row hs hg (fun r e => ⟨Nat.le_trans hB (hr r e).1, (hr r e).2⟩)
theorem ownFrom_blk {β : Type} (B g : Nat) (t : TypeId) (cs : Array Value) : OwnFrom B (fun (_ : β) W => Blk W g t cs) :=
  fun _ _ _ _ hs hg hr => hs.keep (hg.block g hs.lt (fun e => by
    obtain ⟨_, o, ho, hc⟩ := hr _ e.symm
    rw [show _ = some (Obj.cells cs t (0, 0)) from hs] at ho
    cases ho; cases hc))

/-- What is told of a list, with the places: (0, x0), (1, x1), .. -/
def enumL {α : Type} (xs : List α) : List (Nat × α) := xs.zipIdx.map fun p => (p.2, p.1)
theorem enumL_length {α : Type} (xs : List α) : (enumL xs).length = xs.length := by simp [enumL]
theorem enumL_get {α : Type} {xs : List α} {i : Nat} {x : α} (hx : xs[i]? = some x) : (enumL xs)[i]? = some (i, x) := by
  unfold enumL
  simp [List.getElem?_zipIdx, hx]
theorem parts_at {α : Type} {xs : List α} {i : Nat} {x : α} (hg : xs[i]? = some x) : xs = xs.take i ++ x :: xs.drop (i + 1) ∧ xs.take (i + 1) = xs.take i ++ [x] := by
  obtain ⟨hlt, hge⟩ := List.getElem?_eq_some_iff.1 hg
  refine ⟨?_, by rw [List.take_succ_eq_append_getElem hlt, hge]⟩
  conv => lhs; rw [← List.take_append_drop i xs]
  rw [List.drop_eq_getElem_cons hlt, hge]
end Go.Proofs.Ytchmoalcjbolbaa
