/- The calls of the laws, from boxes to boxes, for any values. -/
import Derived.Test.YthfmbeecpjeegaaEb
import Derived.Test.YthfmbeecpjeegaaNn
namespace Go.Proofs.Ythfmbeecpjeegaa
open Go.RowKit Go.Shelf

section
variable {w W : World} {L : List Box} {T U : V} {b b' : Nat} {S S' : Option Addr} {c c' : Nat}
theorem use_rRight (h : Hid (St w W L)) (hm : BoxV W b T S c) (hT : T.size ≤ 1000000000000) : Calls Try.prog 11 #[.agg #[.int .i64 T.k, .int .i64 T.n, .slice S T.l.length c]] W (Gives w L (.bool (rightB T))) :=
  gives_of h (rRight_ok W hm.2 (Nat.le_refl _) hT)
theorem use_rIsEvent (h : Hid (St w W L)) (hm : BoxV W b T S c) (hT : T.size ≤ 1000000000000) : Calls Try.prog 17 #[.agg #[.int .i64 T.k, .int .i64 T.n, .slice S T.l.length c]] W (Gives w L (.bool (evB T.k && rightB T))) :=
  gives_of h (rIsEvent_ok W hm.2 (Nat.le_refl _) hT)
theorem use_IsEventT (h : Hid (St w W L)) (hm : BoxV W b T S c) : Calls Try.prog 16 #[.agg #[.int .i64 T.k, .int .i64 T.n, .slice S T.l.length c]] W (Gives w L (.bool (evB T.k && rightB T))) :=
  gives_of h (IsEvent_ok W hm.2 (Nat.le_refl _))
theorem use_rSizeT (h : Hid (St w W L)) (hm : BoxV W b T S c) (hT : T.size ≤ 1000000000000) : Calls Try.prog 15 #[.agg #[.int .i64 T.k, .int .i64 T.n, .slice S T.l.length c]] W (Gives w L (.int .i64 (T.sz : Int))) :=
  gives_of h (rSize_ok W hm.2 (Nat.le_refl _) hT)
end
theorem St.start {w : World} {T : V} {S : Option Addr} {c : Nat} (h : In w 0 w.heap.size (.agg #[.int .i64 T.k, .int .i64 T.n, .slice S T.l.length c]) T) :
    St w (w.alloc (.cells #[.int .i64 T.k, .int .i64 T.n, .slice S T.l.length c] 25)) [(w.heap.size, T, S, c)] :=
  St.push (w := w) (L := []) ⟨Below.refl _ w, trivial⟩ h
theorem St.start2 {w : World} {T U : V} {S S' : Option Addr} {c c' : Nat} (h : In w 0 w.heap.size (.agg #[.int .i64 T.k, .int .i64 T.n, .slice S T.l.length c]) T) (h' : In w 0 w.heap.size (.agg #[.int .i64 U.k, .int .i64 U.n, .slice S' U.l.length c']) U) :
    St w ((w.alloc (.cells #[.int .i64 T.k, .int .i64 T.n, .slice S T.l.length c] 25)).alloc (.cells #[.int .i64 U.k, .int .i64 U.n, .slice S' U.l.length c'] 25)) [(w.heap.size + 1, U, S', c'), (w.heap.size, T, S, c)] := by
  have h1 := St.start h
  have h2 := h1.push (T := U) (S := S') (c := c') ((h'.grow ((Below.refl _ w).alloc (Nat.le_refl _) _)).mono (Nat.le_refl _) (Nat.le_refl _))
  rwa [World.size_alloc] at h2
end Go.Proofs.Ythfmbeecpjeegaa
