/- For every number, list of words, last thread, list of turns and window the law PickHolds returns true and leaves what was there as it was. Its conditions: none. -/
import Derived.Test.YtchmoalcjbolbaaRows
import Derived.Test.YtchmoalcjbolbaaHp
import Derived.Test.YtchmoalcjbolbaaOi
namespace Go.Proofs.Ytchmoalcjbolbaa
open Go.ChangeShapes Go.WideShapes Go.ChangeAt Go.RowKit Go.Deep

theorem ownNoneH : ownKnob Try.prog.godebug = none := by kernel_rfl
theorem laidOutH : laidOutB Try.prog = true := by kernel_rfl

theorem word_of {x : Int} (h : (Lit.int .u16 x).wf = true) : 0 ≤ x ∧ x < 65536 := by
  simp [Lit.wf, IntKind.min, IntKind.max, IntKind.bits, IntKind.signed] at h
  omega
theorem open_words {H : Type} {enc : TypeId × Value → H} {W : World} {v : Value} {fuel : Nat} {x : DataW H × List MemPlace} (hf : DataW.trod enc Try.prog W 0 (fun _ => true) true fuel 54 [v] = some x) : ∃ xs, Wds W v xs := by
  obtain ⟨A, c, zs, rfl, h1, h2, h3, h4⟩ := open_row_of Try.underlying54 Try.underlying55 (by kernel_rfl) hf
  exact ⟨zs, A, c, rfl, h1, h2, fun x hx => word_of (h3 x hx), h4⟩

theorem holdsWalk (n : Int) (vc : Value) (us : List Int) (last : Int) (vl : Value) (l : List Tn) (wd : Int) (w : World) (hc : Wds w vc us) (hl : Turns w vl l) :
    Calls Try.prog 7 #[.int .i64 n, vc, .int .i64 last, vl, .int .i64 wd] w (WPost w) := by
  by_cases h : n < 1 ∨ 12 < n ∨ 40 < us.length
  · obtain ⟨A, c, rfl, h1, h2, _⟩ := hc
    exact holds_out n A us.length c last vl wd w (by unfold maxLen at h2; omega) h
  · obtain ⟨m, rfl⟩ : ∃ m : Nat, n = (m : Int) := ⟨n.toNat, by omega⟩
    exact holds_in m vc us last vl l wd w (by omega) (by omega) (by omega) hc hl

set_option maxRecDepth 100000 in
theorem holdsLifted (os : Os) (started : os.Started) (H : Type) (enc : TypeId × Value → H) :
    ReturnsInHanded {} Try.checked os 7 .any (Rows.pickHoldsSpec.pre6 enc Try.prog Try.f7 Rows.pickHoldsRow.domain false) (Rows.pickHoldsSpec.post enc Try.prog Try.f7 false true false false) := by
  refine returnsInHanded_of_change (C := Try.checked) ownNoneH started (by kernel_rfl) Try.func7
    (ChangeSpec.witness6 (enc := enc) (C := Try.checked) false ⟨#[], #[.int .i64 0, .slice none 0 0, .int .i64 0, .slice none 0 0, .int .i64 0], []⟩ 8 (by kernel_rfl) (by kernel_rfl) (by kernel_rfl) (by kernel_rfl)) ?_
  intro W base args ds gs before hval0 hW hcnd _
  have hval : ∀ (j : Nat) t v, Try.f7.params[j]? = some t → args[j]? = some v → Value.okWide Try.prog W .any base t v := hval0
  have hW' := hW
  obtain ⟨p, q, hA0, hV, rfl, hfz, hnd⟩ := hW
  have hA : DataW.TrodAll enc Try.prog W 0 (fun _ => true) true Try.f7.params.toList args.toList ds p := hA0
  rw [Try.params7] at hA hval
  obtain ⟨v0, vs0, d0, ds0, p0, q0, hargs, rfl, rfl, h0, r0⟩ := trodAll_cons hA
  obtain ⟨v1, vs1, d1, ds1, p1, q1, rfl, rfl, rfl, h1, r1⟩ := trodAll_cons r0
  obtain ⟨v2, vs2, d2, ds2, p2, q2, rfl, rfl, rfl, h2, r2⟩ := trodAll_cons r1
  obtain ⟨v3, vs3, d3, ds3, p3, q3, rfl, rfl, rfl, h3, r3⟩ := trodAll_cons r2
  obtain ⟨v4, vs4, d4, ds4, p4, q4, rfl, rfl, rfl, h4, r4⟩ := trodAll_cons r3
  obtain ⟨rfl, rfl, rfl⟩ := trodAll_nil r4
  obtain rfl : args = #[v0, v1, v2, v3, v4] := by cases args; simp_all
  obtain ⟨rfl, rfl⟩ := trodVars_none hV
  obtain ⟨a0, rfl, rfl, rfl, w0⟩ := open_int Try.underlying3 (hval 0 3 v0 rfl rfl) h0
  obtain ⟨A1, len1, cap1, rfl⟩ := okWide_slice Try.underlying54 (hval 1 54 v1 rfl rfl)
  obtain ⟨a2, rfl, rfl, rfl, w2⟩ := open_int Try.underlying3 (hval 2 3 v2 rfl rfl) h2
  obtain ⟨A3, len3, cap3, rfl⟩ := okWide_slice Try.underlying33 (hval 3 33 v3 rfl rfl)
  obtain ⟨a4, rfl, rfl, rfl, w4⟩ := open_int Try.underlying3 (hval 4 3 v4 rfl rfl) h4
  have h1k := h1
  have h3k := h3
  obtain ⟨fuel1, hf1⟩ := h1
  obtain ⟨fuel3, hf3⟩ := h3
  obtain ⟨us, hus⟩ := open_words hf1
  obtain ⟨l, hl⟩ := open_turns hf3
  clear hA0 hval0
  simp only [List.append_nil, List.nil_append] at hW'
  have hlt1 : ∀ x ∈ p1, x.block < W.heap.size := fun x hx => by
    refine hW'.lt x ?_
    first
      | exact List.mem_append_left _ hx
      | (simp; exact .inl hx)
  have hlt3 : ∀ x ∈ p3, x.block < W.heap.size := fun x hx => by
    refine hW'.lt x ?_
    first
      | exact List.mem_append_right _ hx
      | (simp; exact .inr hx)
  refine (holdsWalk a0 _ us a2 _ l a4 W hus hl).mono fun e W' ⟨he, hg⟩ => ?_
  subst he
  refine ⟨_, rfl, _, _, _, [], [] ++ (p1 ++ ([] ++ (p3 ++ ([] ++ [])))), [], hW', ?_, ?_, rfl, hg.frame _, fun h => by cases h⟩
  · exact trodAll_cons_mk (shut_bool Try.underlying4 _) trodAll_mk0
  · exact trodAll_cons_mk (shut_int Try.underlying3 w0) (trodAll_cons_mk (Below.trod laidOutH (by kernel_rfl) (of_decide_eq_true (by kernel_rfl)) h1k hg hlt1) (trodAll_cons_mk (shut_int Try.underlying3 w2) (trodAll_cons_mk (Below.trod laidOutH (by kernel_rfl) (of_decide_eq_true (by kernel_rfl)) h3k hg hlt3) (trodAll_cons_mk (shut_int Try.underlying3 w4) trodAll_mk0))))

theorem pickHolds_holds : Rows.PickHoldsSaid :=
  OpenClaim.holds_of_wide 7 Try.f7 rfl rfl rfl rfl rfl rfl rfl ⟨rfl, rfl, rfl, rfl, rfl⟩ rfl rfl rfl rfl rfl (by kernel_rfl) Try.func7 (by kernel_rfl)
    (of_decide_eq_true (by kernel_rfl)) (by unfold Func.isWrapper; rw [if_neg (of_decide_eq_false (by kernel_rfl))]; exact ⟨rfl, rfl⟩)
    (fun os started H enc _ => holdsLifted os started H enc)
#print axioms pickHolds_holds
end Go.Proofs.Ytchmoalcjbolbaa
