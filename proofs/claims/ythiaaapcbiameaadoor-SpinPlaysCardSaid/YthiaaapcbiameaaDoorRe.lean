/- The document's own arena: Do, any operation, any place. -/
import Derived.Test.YthiaaapcbiameaaDoorRc1
import Derived.Test.YthiaaapcbiameaaDoorRc2
import Derived.Test.YthiaaapcbiameaaDoorRc3
import Derived.Test.YthiaaapcbiameaaDoorRc4
import Derived.Test.YthiaaapcbiameaaDoorRc5
namespace Go.Proofs.YthiaaapcbiameaaDoor
open Go.RowKit

theorem refDo {s : St} {v : Value} (op j x y : Int) (w : World) (h : RefS w v s) (hop : op = 1 ∨ op = 2 ∨ op = 3 ∨ op = 4) (hh : s.hist.length < 1000000000) :
    Calls Tryd.prog 44 #[v, .int .i64 op, .int .i64 j, .int .u64 x, .int .u64 y] w (RefDoPost w v (doSt s op j x y)) := by
  unfold doSt
  by_cases hj : inSt s j = true
  · rw [if_pos hj]
    obtain ⟨h0, h1, h2⟩ := in_yes hj
    have key : Calls Tryd.prog 44 #[v, .int .i64 op, .int .i64 (j.toNat : Nat), .int .u64 x, .int .u64 y] w (RefDoPost w v (s.step j.toNat (accOf s op (j.toNat : Nat) x y), accOf s op (j.toNat : Nat) x y, 0)) := by
      rcases hop with rfl | rfl | rfl | rfl
      · exact refDo_1 j.toNat x y w h h1 hh
      · exact refDo_2 j.toNat x y w h h1 hh
      · cases hc : (s.at_ j.toNat == x)
        · exact refDo_3n j.toNat x y w h h1 hh hc
        · exact refDo_3 j.toNat x y w h h1 hh hc
      · exact refDo_4 j.toNat x y w h h1 hh
    rw [h2] at key
    exact key
  · rw [if_neg hj]
    exact refDo_range op j x y w h (in_no hj)

theorem refAlloc {s : St} {v : Value} (n : Int) (w : World) (h : RefS w v s) : Calls Tryd.prog 41 #[v, .int .i64 n] w (RefPost w v (allocSt s n)) := by
  unfold allocSt
  by_cases h1 : n < 0
  · rw [if_pos h1]; exact refAlloc_neg n w h h1
  · rw [if_neg h1]
    by_cases h2 : (s.most : Int) < (s.cs.length : Int) + n
    · rw [if_pos h2]; exact refAlloc_full n w h (by omega) (by omega)
    · rw [if_neg h2]
      have hn : ((n.toNat : Nat) : Int) = n := by omega
      have key := refAlloc_ok n.toNat w h (by omega)
      rw [hn] at key
      exact key
end Go.Proofs.YthiaaapcbiameaaDoor
