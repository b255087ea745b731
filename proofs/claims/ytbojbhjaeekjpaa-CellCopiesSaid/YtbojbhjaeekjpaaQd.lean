/- For every capacity, every list of acts and every two acts the law CellCopies returns true and leaves what was there as it was. Its conditions: none. -/
import Derived.Test.YtbojbhjaeekjpaaRows
import Derived.Test.YtbojbhjaeekjpaaCc
import Derived.Test.YtbojbhjaeekjpaaOa
import Derived.ProofKit
import Derived.OpenShut
import Derived.Deep.Slices
import Derived.Deep.Fields
import Derived.ChangeSame
namespace Go.Proofs.Ytbojbhjaeekjpaa
open Go.ChangeShapes Go.WideShapes Go.ChangeAt Go.RowKit Go.Deep

theorem okWide_array {P : Program} {w : World} {r : Reach} {base t n : Nat} {e : TypeId} {v : Value} (ht : P.underlying t = some (.array n e)) (h : Value.okWide P w r base t v) : ∃ cs, v = .agg cs ∧ cs.size = P.cellsOf t := by
  simp only [Value.okWide, ht] at h
  obtain ⟨cs, h1, h2, _⟩ := h
  exact ⟨cs, h1, h2⟩

section
variable {H : Type} {enc : TypeId × Value → H} {W : World}
theorem act_of_cells {fuel : Nat} {c0 c1 c2 c3 : Value} {x : DataW H × List MemPlace} (h : DataW.trod enc Try.prog W 0 (fun _ => true) true fuel 40 [c0, c1, c2, c3] = some x) :
    ∃ a : ActD, c0 = .int .i64 a.what ∧ c1 = .int .i64 a.at_ ∧ c2 = .int .u64 a.x ∧ c3 = .int .u64 a.y := by
  obtain ⟨ys, n', hn', hy, hlen, hyl, hf⟩ := DataW.trod_struct Try.underlying40 h
  have k3 : Try.prog.cellsOf 3 = 1 := by kernel_rfl
  have k38 : Try.prog.cellsOf 38 = 1 := by kernel_rfl
  have hy4 : ys.length = 4 := hyl
  have g0 : DataW.trod enc Try.prog W 0 (fun _ => true) true n' 3 (List.take (Try.prog.cellsOf 3) [c0, c1, c2, c3]) = ys[0]? := hf 0 _ rfl
  have g1 : DataW.trod enc Try.prog W 0 (fun _ => true) true n' 3 (List.take (Try.prog.cellsOf 3) [c1, c2, c3]) = ys[1]? := hf 1 _ rfl
  have g2 : DataW.trod enc Try.prog W 0 (fun _ => true) true n' 38 (List.take (Try.prog.cellsOf 38) [c2, c3]) = ys[2]? := hf 2 _ rfl
  have g3 : DataW.trod enc Try.prog W 0 (fun _ => true) true n' 38 (List.take (Try.prog.cellsOf 38) [c3]) = ys[3]? := hf 3 _ rfl
  rw [k3] at g0 g1
  rw [k38] at g2 g3
  obtain ⟨z0, e0, _⟩ := DataW.trod_int Try.underlying3 (g0.trans (List.getElem?_eq_getElem (show 0 < ys.length by omega)))
  obtain ⟨z1, e1, _⟩ := DataW.trod_int Try.underlying3 (g1.trans (List.getElem?_eq_getElem (show 1 < ys.length by omega)))
  obtain ⟨z2, e2, _⟩ := DataW.trod_int Try.underlying38 (g2.trans (List.getElem?_eq_getElem (show 2 < ys.length by omega)))
  obtain ⟨z3, e3, _⟩ := DataW.trod_int Try.underlying38 (g3.trans (List.getElem?_eq_getElem (show 3 < ys.length by omega)))
  simp only [List.take_succ_cons, List.take_zero, List.cons.injEq, and_true] at e0 e1 e2 e3
  exact ⟨⟨z0, z1, z2, z3⟩, e0, e1, e2, e3⟩

theorem open_two {fuel : Nat} {cs : Array Value} {x : DataW H × List MemPlace} (h : DataW.trod enc Try.prog W 0 (fun _ => true) true fuel 54 cs.toList = some x) :
    ∃ a b : ActD, cs = #[.int .i64 a.what, .int .i64 a.at_, .int .u64 a.x, .int .u64 a.y, .int .i64 b.what, .int .i64 b.at_, .int .u64 b.x, .int .u64 b.y] := by
  obtain ⟨ys, n', hn', hy, hlen, hyl, hf⟩ := DataW.trod_array Try.underlying54 h
  have k40 : Try.prog.cellsOf 40 = 4 := by kernel_rfl
  have k54 : Try.prog.cellsOf 54 = 8 := by kernel_rfl
  rw [k54] at hlen
  obtain ⟨l⟩ := cs
  simp only at hlen hf ⊢
  match l, hlen with
  | [c0, c1, c2, c3, d0, d1, d2, d3], _ =>
    have g0 := hf 0 (by omega)
    have g1 := hf 1 (by omega)
    rw [k40] at g0 g1
    obtain ⟨a, rfl, rfl, rfl, rfl⟩ := act_of_cells (g0.trans (List.getElem?_eq_getElem (show 0 < ys.length by omega)))
    obtain ⟨b, rfl, rfl, rfl, rfl⟩ := act_of_cells (g1.trans (List.getElem?_eq_getElem (show 1 < ys.length by omega)))
    exact ⟨a, b, rfl⟩
end
end Go.Proofs.Ytbojbhjaeekjpaa
namespace Go.Proofs.Ytbojbhjaeekjpaa
open Go.ChangeShapes Go.WideShapes Go.ChangeAt Go.RowKit Go.Deep

theorem ownNoneC : ownKnob Try.prog.godebug = none := by kernel_rfl

theorem laidOutC : laidOutB Try.prog = true := by kernel_rfl

theorem copiesWalk (n : Int) (A : Option Addr) (len cap : Nat) (x0 x1 : ActD) (W : World) (hm : len ≤ maxLen) (hl : ∃ l : List ActD, l.length = len ∧ ActsArg W (.slice A len cap) l) :
    Calls Try.prog 5 #[.int .i64 n, .slice A len cap, .agg #[.int .i64 x0.what, .int .i64 x0.at_, .int .u64 x0.x, .int .u64 x0.y, .int .i64 x1.what, .int .i64 x1.at_, .int .u64 x1.x, .int .u64 x1.y]] W fun e w' => e = .returned (.bool true) ∧ Below W.heap.size W w' := by
  obtain ⟨l, rfl, ha⟩ := hl
  by_cases h : fewB l 40 = false ∨ fewB [x0, x1] 2 = false ∨ n < 1 ∨ 65536 < n
  · exact copies_bad n A cap l x0 x1 W ha hm h
  · obtain ⟨m, rfl⟩ : ∃ m : Nat, n = (m : Int) := ⟨n.toNat, by omega⟩
    have h3 : fewB l 40 = true := by
      cases hh : fewB l 40
      · exact absurd (.inl hh) h
      · rfl
    have h4 : fewB [x0, x1] 2 = true := by
      cases hh : fewB [x0, x1] 2
      · exact absurd (.inr (.inl hh)) h
      · rfl
    exact copies_good m A cap l x0 x1 W ha h3 h4 (by omega) (by omega)

set_option maxRecDepth 100000 in
theorem copiesLifted (os : Os) (started : os.Started) (H : Type) (enc : TypeId × Value → H) :
    ReturnsInHanded {} Try.checked os 5 .any (Rows.cellCopiesSpec.pre6 enc Try.prog Try.f5 Rows.cellCopiesRow.domain false) (Rows.cellCopiesSpec.post enc Try.prog Try.f5 false true false false) := by
  refine returnsInHanded_of_change (C := Try.checked) ownNoneC started (by kernel_rfl) Try.func5
    (ChangeSpec.witness6 (enc := enc) (C := Try.checked) false ⟨#[], #[.int .i64 0, .slice none 0 0, .agg #[.int .i64 0, .int .i64 0, .int .u64 0, .int .u64 0, .int .i64 0, .int .i64 0, .int .u64 0, .int .u64 0]], []⟩ 8 (by kernel_rfl) (by kernel_rfl) (by kernel_rfl) (by kernel_rfl)) ?_
  intro W base args ds gs before hval0 hW hcnd _
  have hval : ∀ (j : Nat) t v, Try.f5.params[j]? = some t → args[j]? = some v → Value.okWide Try.prog W .any base t v := hval0
  have hW' := hW
  obtain ⟨p, q, hA0, hV, rfl, hfz, hnd⟩ := hW
  have hA : DataW.TrodAll enc Try.prog W 0 (fun _ => true) true Try.f5.params.toList args.toList ds p := hA0
  rw [Try.params5] at hA hval
  obtain ⟨v0, vs0, d0, ds0, p0, q0, hargs, rfl, rfl, h0, r0⟩ := trodAll_cons hA
  obtain ⟨v1, vs1, d1, ds1, p1, q1, rfl, rfl, rfl, h1, r1⟩ := trodAll_cons r0
  obtain ⟨v2, vs2, d2, ds2, p2, q2, rfl, rfl, rfl, h2, r2⟩ := trodAll_cons r1
  obtain ⟨rfl, rfl, rfl⟩ := trodAll_nil r2
  obtain rfl : args = #[v0, v1, v2] := by cases args; simp_all
  obtain ⟨rfl, rfl⟩ := trodVars_none hV
  obtain ⟨a0, rfl, rfl, rfl, w0⟩ := open_int Try.underlying3 (hval 0 3 v0 rfl rfl) h0
  obtain ⟨A, len, cap, rfl⟩ := okWide_slice Try.underlying22 (hval 1 22 v1 rfl rfl)
  obtain ⟨cs, rfl, _⟩ := okWide_array Try.underlying54 (hval 2 54 v2 rfl rfl)
  have h1k := h1
  have h2k := h2
  obtain ⟨fuel2, hf2⟩ := h2
  obtain ⟨x0, x1, rfl⟩ := open_two (show DataW.trod enc Try.prog W 0 (fun _ => true) true fuel2 54 cs.toList = some _ from hf2)
  obtain ⟨fuel, hf⟩ := h1
  obtain ⟨hm, hl⟩ := open_acts hf
  clear hA0 hval0
  simp only [List.append_nil, List.nil_append] at hW'
  have hlt1 : ∀ x ∈ p1, x.block < W.heap.size := fun x hx => by simpa using hW'.lt x (by simp [hx])
  have hlt2 : ∀ x ∈ p2, x.block < W.heap.size := fun x hx => by simpa using hW'.lt x (by simp [hx])
  refine (copiesWalk a0 A len cap x0 x1 W hm hl).mono fun e W' ⟨he, hg⟩ => ?_
  subst he
  refine ⟨_, rfl, _, _, _, [], [] ++ (p1 ++ (p2 ++ [])), [], hW', ?_, ?_, rfl, hg.frame _, fun h => by cases h⟩
  · exact trodAll_cons_mk (shut_bool Try.underlying4 _) trodAll_mk0
  · exact trodAll_cons_mk (shut_int Try.underlying3 w0) (trodAll_cons_mk (Below.trod laidOutC (by kernel_rfl) (of_decide_eq_true (by kernel_rfl)) h1k hg hlt1) (trodAll_cons_mk (Below.trod laidOutC (by kernel_rfl) (of_decide_eq_true (by kernel_rfl)) h2k hg hlt2) trodAll_mk0))

theorem cellCopies_holds : Rows.CellCopiesSaid :=
  OpenClaim.holds_of_wide 5 Try.f5 rfl rfl rfl rfl rfl rfl rfl ⟨rfl, rfl, rfl, rfl, rfl⟩ rfl rfl rfl rfl rfl (by kernel_rfl) Try.func5 (by kernel_rfl)
    (of_decide_eq_true (by kernel_rfl)) (by unfold Func.isWrapper; rw [if_neg (of_decide_eq_false (by kernel_rfl))]; exact ⟨rfl, rfl⟩)
    (fun os started H enc _ => copiesLifted os started H enc)
#print axioms cellCopies_holds
end Go.Proofs.Ytbojbhjaeekjpaa
