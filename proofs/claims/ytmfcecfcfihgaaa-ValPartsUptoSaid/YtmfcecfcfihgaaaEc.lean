/- The document's own reckoning with values. -/
import Derived.Test.YtmfcecfcfihgaaaEb
import Derived.Test.YtmfcecfcfihgaaaKc
import Derived.Deep.RegionWith
namespace Go.Proofs.Ytmfcecfcfihgaaa
open Go.RowKit Go.Shelf
attribute [local go_sem] Oper.semAt_some

/-- A value that is handed back by the document's own, with an error: it may share memory with what was handed in. -/
def MadeR (w : World) (T : V) (err : Int) (e : Ending) (w' : World) : Prop :=
  ∃ S c, e = .returned (.tuple #[.agg #[.int .i64 T.k, .int .i64 T.n, .slice S T.l.length c], .int .i64 err]) ∧ In w' 0 w'.heap.size (.agg #[.int .i64 T.k, .int .i64 T.n, .slice S T.l.length c]) T ∧ Below w.heap.size w w'
/-- The cell of what is handed back. -/
structure QF (q : Nat) (W : World) : Prop where
  r0 : W.cell? ⟨q, 0, none⟩ = some (.int .i64 0)
  r1 : W.cell? ⟨q, 1, none⟩ = some (.int .i64 0)
  r2 : W.cell? ⟨q, 2, none⟩ = some (.slice none 0 0)
  f0 : W.frozen? ⟨q, 0, none⟩ = false
  f1 : W.frozen? ⟨q, 1, none⟩ = false
  f2 : W.frozen? ⟨q, 2, none⟩ = false
  h : Hid (Blk W q 36 #[.int .i64 0, .int .i64 0, .slice none 0 0])
theorem QF.of {q : Nat} {W : World} (h : Blk W q 36 #[.int .i64 0, .int .i64 0, .slice none 0 0]) : QF q W := ⟨h.cells3.1, h.cells3.2.1, h.cells3.2.2, h.frozen _, h.frozen _, h.frozen _, Lib.hid h⟩
theorem QF.below {q : Nat} {W W' : World} (h : QF q W) (hb : Below W.heap.size W W') : QF q W' := .of (h.h.out.keep (hb.block _ h.h.out.lt))
/-- Behind the store into it. -/
structure QE (w : World) (q : Nat) (T : V) (S : Option Addr) (c : Nat) (W : World) : Prop where
  t0 : (((W.setCell ⟨q, 0, none⟩ (.int .i64 T.k)).setCell ⟨q, 1, none⟩ (.int .i64 T.n)).setCell ⟨q, 2, none⟩ (.slice S T.l.length c)).cell? ⟨q, 0, none⟩ = some (.int .i64 T.k)
  t1 : (((W.setCell ⟨q, 0, none⟩ (.int .i64 T.k)).setCell ⟨q, 1, none⟩ (.int .i64 T.n)).setCell ⟨q, 2, none⟩ (.slice S T.l.length c)).cell? ⟨q, 1, none⟩ = some (.int .i64 T.n)
  t2 : (((W.setCell ⟨q, 0, none⟩ (.int .i64 T.k)).setCell ⟨q, 1, none⟩ (.int .i64 T.n)).setCell ⟨q, 2, none⟩ (.slice S T.l.length c)).cell? ⟨q, 2, none⟩ = some (.slice S T.l.length c)
  fin : ∀ err, Hid (MadeR w T err (.returned (.tuple #[.agg #[.int .i64 T.k, .int .i64 T.n, .slice S T.l.length c], .int .i64 err])) (((W.setCell ⟨q, 0, none⟩ (.int .i64 T.k)).setCell ⟨q, 1, none⟩ (.int .i64 T.n)).setCell ⟨q, 2, none⟩ (.slice S T.l.length c)))
theorem QF.put {w W : World} {q hi : Nat} {T : V} {S : Option Addr} {c : Nat} (h : QF q W) (hin : In W 0 hi (.agg #[.int .i64 T.k, .int .i64 T.n, .slice S T.l.length c]) T) (hh : hi ≤ q) (hb : Below w.heap.size w W) (hq : w.heap.size ≤ q) : QE w q T S c W := by
  obtain ⟨t0, t1, t2⟩ := set3_cells h.r0 h.r1 h.r2 (.int .i64 T.k) (.int .i64 T.n) (.slice S T.l.length c)
  have hlt := h.h.out.lt
  have hk : Keep (fun j => j = q) W (((W.setCell ⟨q, 0, none⟩ (.int .i64 T.k)).setCell ⟨q, 1, none⟩ (.int .i64 T.n)).setCell ⟨q, 2, none⟩ (.slice S T.l.length c)) := keep_set3 (F := fun j => j = q) (Keep.refl _ W) rfl _ _ _
  refine ⟨t0, t1, t2, fun err => Lib.hid ⟨S, c, rfl, (hin.keep fun b _ hlt' => hk.block b (by omega) (by omega)).mono (Nat.le_refl _) (by have := hk.size; omega), hb.trans (hk.below (fun k e => by omega) hb.size)⟩⟩
theorem QF.zero {w W : World} {q : Nat} (h : QF q W) (hb : Below w.heap.size w W) (hq : w.heap.size ≤ q) : QE w q zeroV none 0 W := h.put (zero_in W 0 0) (Nat.zero_le _) hb hq
theorem QF.leaf {w W : World} {q : Nat} {k n : Int} (h : QF q W) (hk : W64 k) (hn : W64 n) (hb : Below w.heap.size w W) (hq : w.heap.size ≤ q) : QE w q (.mk k n []) none 0 W := h.put (leaf_in W 0 0 k n hk hn) (Nat.zero_le _) hb hq

theorem kinds_two (k : Int) (T U : V) : kindsB k [T, U] = ((T.k == k) && (U.k == k)) := by simp [kindsB]


theorem wrap_add (x y : Int) : wrap64 (IntKind.u64.wrap (IntKind.u64.wrap x + IntKind.u64.wrap y)) = wrap64 (x + y) := by
  simp only [wrap64, IntKind.wrap, IntKind.bits, IntKind.signed]
  omega
theorem wrap_sub (x y : Int) : wrap64 (IntKind.u64.wrap (IntKind.u64.wrap x - IntKind.u64.wrap y)) = wrap64 (x - y) := by
  simp only [wrap64, IntKind.wrap, IntKind.bits, IntKind.signed]
  omega


end Go.Proofs.Ytmfcecfcfihgaaa
