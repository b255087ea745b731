/- The document's own Make. -/
import Derived.Test.YtmfcecfcfihgaaaEe
namespace Go.Proofs.Ytmfcecfcfihgaaa
open Go.RowKit Go.Shelf
attribute [local go_sem] Oper.semAt_some

theorem Enc.keep {w w' : World} {hi : Nat} {q : List V} : ∀ {xs : List Value}, Enc w hi q xs → (∀ b, b < hi → w'.heap[b]? = w.heap[b]?) → Enc w' hi q xs := by
  induction q with
  | nil => intro xs h _; exact h
  | cons x q ih =>
    rintro xs ⟨s, ys, rfl, h1, h⟩ hk
    exact ⟨s, ys, rfl, h1.keep (fun b _ hb => hk b hb), ih h hk⟩
theorem Enc.at_ {w : World} {hi : Nat} : ∀ {l : List V} {xs : List Value}, Enc w hi l xs → ∀ (i : Nat) (x : V), l[i]? = some x →
    ∃ s, xs[i * 3]? = some (.int .i64 x.k) ∧ xs[i * 3 + 1]? = some (.int .i64 x.n) ∧ xs[i * 3 + 2]? = some s ∧ In w 0 hi (.agg #[.int .i64 x.k, .int .i64 x.n, s]) x
  | [], _, _, i, x, hx => by simp at hx
  | y :: l, _, ⟨s, ys, rfl, h1, h⟩, 0, x, hx => by
    simp at hx
    subst hx
    exact ⟨s, rfl, rfl, rfl, h1⟩
  | y :: l, _, ⟨s, ys, rfl, h1, h⟩, i + 1, x, hx => by
    obtain ⟨s', a0, a1, a2, a3⟩ := Enc.at_ h i x (by simpa using hx)
    refine ⟨s', ?_, ?_, ?_, a3⟩
    · rw [show (i + 1) * 3 = i * 3 + 1 + 1 + 1 from by omega]; simpa using a0
    · rw [show (i + 1) * 3 + 1 = i * 3 + 1 + 1 + 1 + 1 from by omega]; simpa using a1
    · rw [show (i + 1) * 3 + 2 = i * 3 + 2 + 1 + 1 + 1 from by omega]; simpa using a2
/-- A slice of the call's own that values were appended to stands for them. -/
theorem Row.ls {W : World} {hi n c : Nat} {A : Option Addr} {l : List V} {zs : List Value} (hr : Row W 36 3 (.slice A n c) n zs) (hn : n = l.length) (he : Enc W hi l zs) (hh : hi ≤ W.heap.size) : Ls W 0 W.heap.size (.slice A n c) l := by
  subst hn
  obtain ⟨_, _, hv, h1, h2⟩ := hr.form
  simp only [Value.slice.injEq] at hv
  obtain ⟨rfl, _, rfl⟩ := hv
  rcases Nat.eq_zero_or_pos l.length with h0 | h0
  · have : l = [] := List.eq_nil_of_length_eq_zero h0
    subst this
    exact Ls.nil W 0 _ c A h2
  · obtain ⟨g, cap, cur, hv, hblk, _, _, _, _⟩ := hr.addr h0
    simp only [Value.slice.injEq] at hv
    obtain ⟨rfl, _, rfl⟩ := hv
    have hcells := hr.cells rfl
    refine ⟨_, _, g, 0, fun i => .agg #[(zs[i * 3]?).getD undef, (zs[i * 3 + 1]?).getD undef, (zs[i * 3 + 2]?).getD undef], rfl, h1, h2, fun _ => ⟨rfl, Nat.zero_le _, hblk.lt⟩, fun i hi' => ?_, fun i x hx => ?_⟩
    · obtain ⟨s, a0, a1, a2, _⟩ := he.at_ i _ (List.getElem?_eq_getElem hi')
      refine ⟨_, _, _, rfl, ?_, ?_, ?_⟩
      · rw [Nat.zero_add, (hcells (i * 3) (by omega)).1, a0]; rfl
      · rw [Nat.zero_add, (hcells (i * 3 + 1) (by omega)).1, a1]; rfl
      · rw [Nat.zero_add, (hcells (i * 3 + 2) (by omega)).1, a2]; rfl
    · obtain ⟨s, a0, a1, a2, a3⟩ := he.at_ i x hx
      simp only [a0, a1, a2, Option.getD_some]
      exact a3.mono (Nat.le_refl _) hh

/-- What the document's Make keeps. -/
structure MK (w : World) (hi g : Nat) (k n : Int) (A : Option Addr) (c : Nat) (l : List V) (zs : List Value) (W : World) : Prop where
  q : QF w.heap.size W
  b : Cells3 W g (.int .i64 k) (.int .i64 n) (.slice A l.length c)
  row : Row W 36 3 (.slice A l.length c) l.length zs
  own : ∀ j, (Value.slice A l.length c).ownBlock = some j → w.heap.size + 1 ≤ j
  enc : Enc W hi l zs
  bl : Below w.heap.size w W
  hh : hi ≤ w.heap.size
theorem MK.below {w W W' : World} {hi g : Nat} {k n : Int} {A : Option Addr} {c : Nat} {l : List V} {zs : List Value} (h : MK w hi g k n A c l zs W) (hb : Below W.heap.size W W') : MK w hi g k n A c l zs W' :=
  ⟨h.q.below hb, h.b.below hb, h.row.keep fun j hj => hb.block j (h.row.lt j hj), h.own, h.enc.keep fun b hb' => hb.block b (by have := h.bl.size; have := h.hh; omega), h.bl.trans (hb.mono h.bl.size), h.hh⟩
theorem MK.inn {w W : World} {hi g : Nat} {k n : Int} {A : Option Addr} {c : Nat} {l : List V} {zs : List Value} (h : MK w hi g k n A c l zs W) (hk : W64 k) (hn : W64 n) : In W 0 W.heap.size (.agg #[.int .i64 k, .int .i64 n, .slice A l.length c]) (.mk k n l) :=
  In.of hk hn (h.row.ls rfl h.enc (by have := h.bl.size; have := h.hh; omega))
theorem MK.fin {w W : World} {hi g : Nat} {k n : Int} {A : Option Addr} {c : Nat} {l : List V} {zs : List Value} (h : MK w hi g k n A c l zs W) (hk : W64 k) (hn : W64 n) :
    MadeR w (.mk k n l) 0 (.returned (.tuple #[.agg #[.int .i64 k, .int .i64 n, .slice A l.length c], .int .i64 0])) (((W.setCell ⟨w.heap.size, 0, none⟩ (.int .i64 k)).setCell ⟨w.heap.size, 1, none⟩ (.int .i64 n)).setCell ⟨w.heap.size, 2, none⟩ (.slice A l.length c)) := by
  have hX : Keep (fun j => j = w.heap.size) W (((W.setCell ⟨w.heap.size, 0, none⟩ (.int .i64 k)).setCell ⟨w.heap.size, 1, none⟩ (.int .i64 n)).setCell ⟨w.heap.size, 2, none⟩ (.slice A l.length c)) := keep_set3 (F := fun j => j = w.heap.size) (Keep.refl _ W) rfl _ _ _
  have h1 := h.bl.size
  have h2 := h.hh
  have hq := h.q.h.out.lt
  refine ⟨A, c, rfl, In.of hk hn (Row.ls (h.row.keep fun j hj => ?_) rfl (h.enc.keep fun b hb => ?_) (by have := hX.size; omega)), h.bl.trans (hX.below (fun k e => by omega) h1)⟩
  · exact hX.block j (h.row.lt j hj) (by have := h.own j hj; omega)
  · exact hX.block b (by omega) (by omega)

end Go.Proofs.Ytmfcecfcfihgaaa
