/- The document's own Eq, First, Second, Truth. -/
import Derived.Test.YtmfcecfcfihgaaaEc
import Derived.Test.YtmfcecfcfihgaaaNc
namespace Go.Proofs.Ytmfcecfcfihgaaa
open Go.RowKit Go.Shelf
attribute [local go_sem] Oper.semAt_some

theorem same_right {T U : V} (h : rightB T = true) (h' : rightB U = true) : V.same T U = sameB T U := by
  unfold sameB
  have h1 := (right_root h).1
  have h2 := (right_root h').1
  simp [h1, h2]


/-- A value that is handed back and lies below hi, with an error. -/
def LowR (w : World) (hi : Nat) (T : V) (err : Int) (e : Ending) (w' : World) : Prop :=
  ∃ S c, e = .returned (.tuple #[.agg #[.int .i64 T.k, .int .i64 T.n, .slice S T.l.length c], .int .i64 err]) ∧ In w' 0 hi (.agg #[.int .i64 T.k, .int .i64 T.n, .slice S T.l.length c]) T ∧ Below w.heap.size w w'
theorem low_put {w W : World} {q hi : Nat} {T : V} {S : Option Addr} {c : Nat} (h : Blk W q 36 #[.int .i64 0, .int .i64 0, .slice none 0 0]) (hin : In W 0 hi (.agg #[.int .i64 T.k, .int .i64 T.n, .slice S T.l.length c]) T) (hh : hi ≤ q) (hb : Below w.heap.size w W) (hq : w.heap.size ≤ q) (err : Int) :
    Hid (LowR w hi T err (.returned (.tuple #[.agg #[.int .i64 T.k, .int .i64 T.n, .slice S T.l.length c], .int .i64 err])) (((W.setCell ⟨q, 0, none⟩ (.int .i64 T.k)).setCell ⟨q, 1, none⟩ (.int .i64 T.n)).setCell ⟨q, 2, none⟩ (.slice S T.l.length c))) := by
  have hlt := h.lt
  have hk : Keep (fun j => j = q) W (((W.setCell ⟨q, 0, none⟩ (.int .i64 T.k)).setCell ⟨q, 1, none⟩ (.int .i64 T.n)).setCell ⟨q, 2, none⟩ (.slice S T.l.length c)) := keep_set3 (F := fun j => j = q) (Keep.refl _ W) rfl _ _ _
  exact Lib.hid ⟨S, c, rfl, hin.keep fun b _ hlt' => hk.block b (by omega) (by omega), hb.trans (hk.below (fun k e => by omega) hb.size)⟩
def halfV (i : Nat) (T : V) : V × Int := if halfErr T = 0 then ((T.l[i]?).getD zeroV, 0) else (zeroV, halfErr T)
/-- What comes back is put into a cell. -/
structure QR (w : World) (q : Nat) (T : V) (S : Option Addr) (c : Nat) (W : World) : Prop where
  r0 : W.cell? ⟨q, 0, none⟩ = some (.int .i64 0)
  r1 : W.cell? ⟨q, 1, none⟩ = some (.int .i64 0)
  r2 : W.cell? ⟨q, 2, none⟩ = some (.slice none 0 0)
  f0 : W.frozen? ⟨q, 0, none⟩ = false
  f1 : W.frozen? ⟨q, 1, none⟩ = false
  f2 : W.frozen? ⟨q, 2, none⟩ = false
  e : Hid (QE w q T S c W)


end Go.Proofs.Ytmfcecfcfihgaaa
