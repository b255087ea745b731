/- The document's Places: the one above each node, how many variables stand at it. -/
import Derived.Test.YtleihdakmibmhaaFk
import Derived.Test.YtleihdakmibmhaaFg
import Derived.Test.YtleihdakmibmhaaFl
import Derived.Deep.CutRange
import Derived.Deep.QuietTactic
import Derived.BigQuiet
namespace Go.Proofs.Ytleihdakmibmhaa
open Go.RowKit Go.Shelf
attribute [local go_sem] Oper.semAt_some

/-- What the document keeps of the nodes, in memory. -/
def PlS (W : World) (g n : Nat) (st : ST) : Prop := ∃ cs, Blk W g 66 cs ∧ cs.size = n * 2 ∧ ∀ i, i < n → cs[i * 2]? = some (.int .i64 (st.1.getD i 0)) ∧ cs[i * 2 + 1]? = some (.int .i64 (st.2.getD i 0))
section
variable {W W' : World} {g n : Nat} {st : ST}
theorem PlS.lt (h : PlS W g n st) : g < W.heap.size := by obtain ⟨cs, hb, _⟩ := h; exact hb.lt
theorem PlS.keep (h : PlS W g n st) (hk : W'.heap[g]? = W.heap[g]?) : PlS W' g n st := by obtain ⟨cs, hb, r⟩ := h; exact ⟨cs, hb.keep hk, r⟩
theorem PlS.at_ (h : PlS W g n st) {i : Nat} (hi : i < n) : W.cell? ⟨g, i * 2, none⟩ = some (.int .i64 (st.1.getD i 0)) ∧ W.cell? ⟨g, i * 2 + 1, none⟩ = some (.int .i64 (st.2.getD i 0)) ∧ W.frozen? ⟨g, i * 2, none⟩ = false ∧ W.frozen? ⟨g, i * 2 + 1, none⟩ = false := by
  obtain ⟨cs, hb, _, hc⟩ := h
  exact ⟨by rw [hb.cell]; exact (hc i hi).1, by rw [hb.cell]; exact (hc i hi).2, hb.frozen _, hb.frozen _⟩
theorem PlS.set (h : PlS W g n st) (ok : StOK n st) {c : Nat} (hc : c < n) (a b : Int) : PlS ((W.setCell ⟨g, c * 2, none⟩ (.int .i64 a)).setCell ⟨g, c * 2 + 1, none⟩ (.int .i64 b)) g n (st.1.set c a, st.2.set c b) := by
  obtain ⟨cs, hb, hs, hcs⟩ := h
  refine ⟨_, (hb.set _ _).set _ _, by simp [hs], fun i hi => ?_⟩
  by_cases hic : i = c
  · subst hic
    refine ⟨?_, ?_⟩
    · rw [Array.getElem?_setIfInBounds_ne (by omega), Array.getElem?_setIfInBounds_self_of_lt (by omega)]
      simp [List.getD_eq_getElem?_getD, List.getElem?_set_self (show i < st.1.length by rw [ok.l1]; exact hi)]
    · rw [Array.getElem?_setIfInBounds_self_of_lt (by simp; omega)]
      simp [List.getD_eq_getElem?_getD, List.getElem?_set_self (show i < st.2.length by rw [ok.l2]; exact hi)]
  · have h1 := hcs i hi
    refine ⟨?_, ?_⟩
    · rw [Array.getElem?_setIfInBounds_ne (by omega), Array.getElem?_setIfInBounds_ne (by omega), h1.1]
      simp [List.getD_eq_getElem?_getD, List.getElem?_set_ne (Ne.symm hic)]
    · rw [Array.getElem?_setIfInBounds_ne (by omega), Array.getElem?_setIfInBounds_ne (by omega), h1.2]
      simp [List.getD_eq_getElem?_getD, List.getElem?_set_ne (Ne.symm hic)]
theorem PlS.set2 (h : PlS W g n st) (ok : StOK n st) {c : Nat} (hc : c < n) (b : Int) : PlS (W.setCell ⟨g, c * 2 + 1, none⟩ (.int .i64 b)) g n (st.1, st.2.set c b) := by
  obtain ⟨cs, hb, hs, hcs⟩ := h
  refine ⟨_, hb.set _ _, by simp [hs], fun i hi => ?_⟩
  by_cases hic : i = c
  · subst hic
    refine ⟨?_, ?_⟩
    · rw [Array.getElem?_setIfInBounds_ne (by omega)]; exact (hcs i hi).1
    · rw [Array.getElem?_setIfInBounds_self_of_lt (by omega)]
      simp [List.getD_eq_getElem?_getD, List.getElem?_set_self (show i < st.2.length by rw [ok.l2]; exact hi)]
  · have h1 := hcs i hi
    refine ⟨?_, ?_⟩
    · rw [Array.getElem?_setIfInBounds_ne (by omega), h1.1]
    · rw [Array.getElem?_setIfInBounds_ne (by omega), h1.2]
      simp [List.getD_eq_getElem?_getD, List.getElem?_set_ne (Ne.symm hic)]
end
/-- Behind k places that are laid. -/
def PlA (W : World) (g n k : Nat) : Prop := ∃ cs, Blk W g 66 cs ∧ cs.size = n * 2 ∧ ∀ i, i < k → cs[i * 2]? = some (.int .i64 (-1)) ∧ cs[i * 2 + 1]? = some (.int .i64 0)
theorem PlA.next {W : World} {g n k : Nat} (h : PlA W g n k) (hk : k < n) : (∃ u, W.cell? ⟨g, k * 2, none⟩ = some u) ∧ (∃ u, W.cell? ⟨g, k * 2 + 1, none⟩ = some u) ∧ W.frozen? ⟨g, k * 2, none⟩ = false ∧ W.frozen? ⟨g, k * 2 + 1, none⟩ = false ∧
    PlA ((W.setCell ⟨g, k * 2, none⟩ (.int .i64 (-1))).setCell ⟨g, k * 2 + 1, none⟩ (.int .i64 0)) g n (k + 1) := by
  obtain ⟨cs, hb, hs, hc⟩ := h
  refine ⟨⟨cs[k * 2]'(by omega), by rw [hb.cell, Array.getElem?_eq_getElem]⟩, ⟨cs[k * 2 + 1]'(by omega), by rw [hb.cell, Array.getElem?_eq_getElem]⟩, hb.frozen _, hb.frozen _, _, (hb.set _ _).set _ _, by simp [hs], fun i hi => ?_⟩
  by_cases hik : i = k
  · subst hik
    exact ⟨by rw [Array.getElem?_setIfInBounds_ne (by omega), Array.getElem?_setIfInBounds_self_of_lt (by omega)], by rw [Array.getElem?_setIfInBounds_self_of_lt (by simp; omega)]⟩
  · have h1 := hc i (by omega)
    exact ⟨by rw [Array.getElem?_setIfInBounds_ne (by omega), Array.getElem?_setIfInBounds_ne (by omega), h1.1], by rw [Array.getElem?_setIfInBounds_ne (by omega), Array.getElem?_setIfInBounds_ne (by omega), h1.2]⟩
theorem PlA.done {W : World} {g n : Nat} (h : PlA W g n n) : PlS W g n (List.replicate n (-1), List.replicate n 0) := by
  obtain ⟨cs, hb, hs, hc⟩ := h
  refine ⟨cs, hb, hs, fun i hi => ?_⟩
  simp only [List.getD_eq_getElem?_getD, List.getElem?_replicate, if_pos hi, Option.getD_some]
  exact hc i hi
/-- The function's box, and what was there. -/
structure BX (w : World) (F : Fd) (A : Option Addr) (c : Nat) (W : World) : Prop where
  bl : Below w.heap.size w W
  fb : Blk W w.heap.size 24 #[.int .i64 F.p, .slice A F.ns.length c]
theorem BX.keep {w W W' : World} {F : Fd} {A : Option Addr} {c : Nat} (h : BX w F A c W) {P : Nat → Prop} (hk : Keep P W W') (hP : ∀ j, P j → w.heap.size < j) : BX w F A c W' :=
  ⟨h.bl.trans ((hk.mono (G := fun j => w.heap.size ≤ j) (fun j hj => Nat.le_of_lt (hP j hj))).below (fun _ hj => hj) h.bl.size), h.fb.keep (hk.block _ h.fb.lt (fun e => Nat.lt_irrefl _ (hP _ e)))⟩
theorem BX.cells {w W : World} {F : Fd} {A : Option Addr} {c : Nat} (h : BX w F A c W) : W.cell? ⟨w.heap.size, 0, none⟩ = some (.int .i64 F.p) ∧ W.cell? ⟨w.heap.size, 1, none⟩ = some (.slice A F.ns.length c) ∧ w.heap.size < W.heap.size :=
  ⟨by simpa using h.fb.cell 0, by simpa using h.fb.cell 1, h.fb.lt⟩
def PlacesP (w : World) (F : Fd) (e : Ending) (w' : World) : Prop :=
  (∃ st g, placesF F = .ok st ∧ e = .returned (.tuple #[.slice (some ⟨g, 0, none⟩) F.ns.length F.ns.length, .int .i64 0, .bool false]) ∧ PlS w' g F.ns.length st ∧ Below w.heap.size w w') ∨
  (∃ k : Nat, placesF F = .bad k ∧ e = .returned (.tuple #[.slice none 0 0, .int .i64 (k : Int), .bool true]) ∧ Below w.heap.size w w')
theorem placeInfo : (Try.prog.info? 66).map (fun i => (i.zero, i.size, i.bytes)) = some (some (.agg #[.int .i64 0, .int .i64 0]), 2, 16) := by kernel_rfl
end Go.Proofs.Ytleihdakmibmhaa
