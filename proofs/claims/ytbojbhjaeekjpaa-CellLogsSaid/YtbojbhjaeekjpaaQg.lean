/- For every list of numbers, every number of times and every act the law CellLogs returns true and leaves what was there as it was. Its conditions: none. -/
import Derived.Test.YtbojbhjaeekjpaaRows
import Derived.Test.YtbojbhjaeekjpaaLt
import Derived.Test.YtbojbhjaeekjpaaLv
import Derived.Test.YtbojbhjaeekjpaaOa
import Derived.ProofKit
import Derived.OpenShut
import Derived.Deep.Slices
import Derived.Deep.Fields
import Derived.ChangeSame
namespace Go.Proofs.Ytbojbhjaeekjpaa
open Go.ChangeShapes Go.WideShapes Go.ChangeAt Go.RowKit Go.Deep

theorem ownNoneL : ownKnob Try.prog.godebug = none := by kernel_rfl

theorem laidOutL : laidOutB Try.prog = true := by kernel_rfl

theorem words_list (n : Nat) (p : Nat → Int → Prop) (h : ∀ i, i < n → ∃ x, p i x) : ∃ l : List Int, l.length = n ∧ ∀ i x, l[i]? = some x → p i x := by
  induction n with
  | zero => exact ⟨[], rfl, fun i x hx => by simp at hx⟩
  | succ n ih =>
    obtain ⟨l, hl, hp⟩ := ih (fun i hi => h i (by omega))
    obtain ⟨y, hy⟩ := h n (by omega)
    refine ⟨l ++ [y], by simp [hl], fun i x hx => ?_⟩
    rcases Nat.lt_or_ge i l.length with hi | hi
    · rw [List.getElem?_append_left hi] at hx
      exact hp i x hx
    · rw [List.getElem?_append_right hi] at hx
      have h1 := (List.getElem?_eq_some_iff.1 hx).1
      simp at h1
      have e : i = n := by omega
      subst e
      rw [hl] at hx
      simp at hx
      subst hx
      exact hy

section
variable {H : Type} {enc : TypeId × Value → H} {W : World}
theorem act_of_cells {fuel : Nat} {c0 c1 c2 c3 : Value} {x : DataW H × List MemPlace} (h : DataW.trod enc Try.prog W 0 (fun _ => true) true fuel 40 [c0, c1, c2, c3] = some x) :
    ∃ a : ActD, c0 = .int .i64 a.what ∧ c1 = .int .i64 a.at_ ∧ c2 = .int .u64 a.x ∧ c3 = .int .u64 a.y := by
  obtain ⟨ys, n', hn', hy, hlen, hyl, hf⟩ := DataW.trod_struct Try.underlying40 h
  have k3 : Try.prog.cellsOf 3 = 1 := by kernel_rfl
  have k38 : Try.prog.cellsOf 38 = 1 := by kernel_rfl
  have hy4 : ys.length = 4 := hyl
  have g0 : DataW.trod enc Try.prog W 0 (fun _ => true) true n' 3 (List.take (Try.prog.cellsOf 3) [c0, c1, c2, c3]) = ys[0]? := hf 0 _ rfl
  have g1 : DataW.trod enc Try.prog W 0 (fun _ => true) true n' 3 (List.take (Try.prog.cellsOf 3) [c1, c2, c3]) = ys[1]? := hf 1 _ rfl
  have g2 : DataW.trod enc Try.prog W 0 (fun _ => true) true n' 38 (List.take (Try.prog.cellsOf 38) [c2, c3]) = ys[2]? := hf 2 _ rfl
  have g3 : DataW.trod enc Try.prog W 0 (fun _ => true) true n' 38 (List.take (Try.prog.cellsOf 38) [c3]) = ys[3]? := hf 3 _ rfl
  rw [k3] at g0 g1
  rw [k38] at g2 g3
  obtain ⟨z0, e0, _⟩ := DataW.trod_int Try.underlying3 (g0.trans (List.getElem?_eq_getElem (show 0 < ys.length by omega)))
  obtain ⟨z1, e1, _⟩ := DataW.trod_int Try.underlying3 (g1.trans (List.getElem?_eq_getElem (show 1 < ys.length by omega)))
  obtain ⟨z2, e2, _⟩ := DataW.trod_int Try.underlying38 (g2.trans (List.getElem?_eq_getElem (show 2 < ys.length by omega)))
  obtain ⟨z3, e3, _⟩ := DataW.trod_int Try.underlying38 (g3.trans (List.getElem?_eq_getElem (show 3 < ys.length by omega)))
  simp only [List.take_succ_cons, List.take_zero, List.cons.injEq, and_true] at e0 e1 e2 e3
  exact ⟨⟨z0, z1, z2, z3⟩, e0, e1, e2, e3⟩

theorem open_act {fuel : Nat} {cs : Array Value} {x : DataW H × List MemPlace} (h : DataW.trod enc Try.prog W 0 (fun _ => true) true fuel 40 cs.toList = some x) :
    ∃ a : ActD, cs = #[.int .i64 a.what, .int .i64 a.at_, .int .u64 a.x, .int .u64 a.y] := by
  obtain ⟨ys, n', hn', hy, hlen, hyl, hf⟩ := DataW.trod_struct Try.underlying40 h
  have k40 : Try.prog.cellsOf 40 = 4 := by kernel_rfl
  rw [k40] at hlen
  obtain ⟨l⟩ := cs
  simp only at hlen h ⊢
  match l, hlen with
  | [c0, c1, c2, c3], _ =>
    obtain ⟨a, rfl, rfl, rfl, rfl⟩ := act_of_cells h
    exact ⟨a, rfl⟩

set_option maxRecDepth 100000 in
/-- The list of numbers, opened. -/
theorem open_words {fuel : Nat} {A : Option Addr} {len cap : Nat} {x : DataW H × List MemPlace} (h : DataW.trod enc Try.prog W 0 (fun _ => true) true fuel 29 [.slice A len cap] = some x) :
    len ≤ maxLen ∧ ∃ l : List Int, l.length = len ∧ WordsArg W (.slice A len cap) l := by
  rcases open_slice Try.underlying29 h with ⟨h0, _⟩ | ⟨a, len', cap', m, n, D, Pl, hcs, _, hl, hm, hmm, _, hi⟩
  · simp only [List.cons.injEq, Value.slice.injEq, and_true] at h0
    obtain ⟨rfl, rfl, rfl⟩ := h0
    exact ⟨Nat.zero_le _, [], rfl, _, _, rfl, fun h => absurd rfl h⟩
  · simp only [List.cons.injEq, Value.slice.injEq, and_true] at hcs
    obtain ⟨rfl, rfl, rfl⟩ := hcs
    simp only [if_true] at hmm
    subst hmm
    refine ⟨Nat.le_trans hl hm, ?_⟩
    have hC : Try.prog.cellsOf 38 = 1 := by kernel_rfl
    have each : ∀ i, i < len → ∃ x : Int, (i = 0 → a.spot = none) ∧ a.block < W.heap.size ∧ W.cell? ⟨a.block, a.off + i, none⟩ = some (.int .u64 x) := fun i hil => by
      obtain ⟨cs', hc, ht'⟩ := hi i (by omega)
      rw [hC] at hc
      obtain ⟨_, hcl, hat⟩ := World.cells?_some hc
      obtain ⟨c0, rfl⟩ : ∃ c0, cs' = [c0] := by
        match cs', hcl with
        | [c0], _ => exact ⟨c0, rfl⟩
      obtain ⟨z0, e0, _⟩ := DataW.trod_int Try.underlying38 ht'
      simp only [List.cons.injEq, and_true] at e0
      subst e0
      have t0 := hat 0 (by omega)
      have u0 := spot_none (t0.trans rfl)
      have hs : i = 0 → a.spot = none := fun e => by
        have := u0.1
        subst e
        simpa [Addr.add] using this
      rw [add_at u0.1] at t0 u0
      rw [Nat.mul_one, Nat.add_zero] at t0
      exact ⟨z0, hs, u0.2, t0⟩
    obtain ⟨l, hll, hlp⟩ := words_list len _ each
    refine ⟨l, hll, some a, _, by rw [hll], fun hne => ?_⟩
    obtain ⟨x0, hx0⟩ : ∃ x, l[0]? = some x := by
      cases l with
      | nil => exact absurd rfl hne
      | cons x t => exact ⟨x, rfl⟩
    obtain ⟨hs, hb, _⟩ := hlp 0 x0 hx0
    refine ⟨a.block, a.off, ?_, hb, fun i x hx => (hlp i x hx).2.2⟩
    obtain ⟨bb, oo, ss⟩ := a
    have hs := hs rfl
    simp only at hs
    subst hs
    rfl
end

theorem logsWalk (t : Int) (A : Option Addr) (len cap : Nat) (x : ActD) (W : World) (hm : len ≤ maxLen) (hl : ∃ l : List Int, l.length = len ∧ WordsArg W (.slice A len cap) l) :
    Calls Try.prog 4 #[.slice A len cap, .int .i64 t, .agg #[.int .i64 x.what, .int .i64 x.at_, .int .u64 x.x, .int .u64 x.y]] W fun e w' => e = .returned (.bool true) ∧ Below W.heap.size W w' := by
  by_cases h : len < 1 ∨ 40 < len ∨ t < 0 ∨ (1500 : Int).tdiv (len : Int) < t
  · exact logs_len len cap A t x W hm h
  · obtain ⟨T, rfl⟩ : ∃ T : Nat, t = (T : Int) := ⟨t.toNat, by omega⟩
    cases hf : fewB [x] 1
    · exact logs_few len cap T A x W (by omega) (by omega) (by omega) hf
    · obtain ⟨l, hll, ha⟩ := hl
      exact logs_good l len cap T hll A x W ha (by omega) (by omega) (by omega) hf

set_option maxRecDepth 100000 in
theorem logsLifted (os : Os) (started : os.Started) (H : Type) (enc : TypeId × Value → H) :
    ReturnsInHanded {} Try.checked os 4 .any (Rows.cellLogsSpec.pre6 enc Try.prog Try.f4 Rows.cellLogsRow.domain false) (Rows.cellLogsSpec.post enc Try.prog Try.f4 false true false false) := by
  refine returnsInHanded_of_change (C := Try.checked) ownNoneL started (by kernel_rfl) Try.func4
    (ChangeSpec.witness6 (enc := enc) (C := Try.checked) false ⟨#[], #[.slice none 0 0, .int .i64 0, .agg #[.int .i64 0, .int .i64 0, .int .u64 0, .int .u64 0]], []⟩ 8 (by kernel_rfl) (by kernel_rfl) (by kernel_rfl) (by kernel_rfl)) ?_
  intro W base args ds gs before hval0 hW hcnd _
  have hval : ∀ (j : Nat) t v, Try.f4.params[j]? = some t → args[j]? = some v → Value.okWide Try.prog W .any base t v := hval0
  have hW' := hW
  obtain ⟨p, q, hA0, hV, rfl, hfz, hnd⟩ := hW
  have hA : DataW.TrodAll enc Try.prog W 0 (fun _ => true) true Try.f4.params.toList args.toList ds p := hA0
  rw [Try.params4] at hA hval
  obtain ⟨v0, vs0, d0, ds0, p0, q0, hargs, rfl, rfl, h0, r0⟩ := trodAll_cons hA
  obtain ⟨v1, vs1, d1, ds1, p1, q1, rfl, rfl, rfl, h1, r1⟩ := trodAll_cons r0
  obtain ⟨v2, vs2, d2, ds2, p2, q2, rfl, rfl, rfl, h2, r2⟩ := trodAll_cons r1
  obtain ⟨rfl, rfl, rfl⟩ := trodAll_nil r2
  obtain rfl : args = #[v0, v1, v2] := by cases args; simp_all
  obtain ⟨rfl, rfl⟩ := trodVars_none hV
  obtain ⟨a1, rfl, rfl, rfl, w1⟩ := open_int Try.underlying3 (hval 1 3 v1 rfl rfl) h1
  obtain ⟨A, len, cap, rfl⟩ := okWide_slice Try.underlying29 (hval 0 29 v0 rfl rfl)
  obtain ⟨cs, rfl, _⟩ := okWide_struct Try.underlying40 (hval 2 40 v2 rfl rfl)
  have h0k := h0
  have h2k := h2
  obtain ⟨fuel2, hf2⟩ := h2
  obtain ⟨x0, rfl⟩ := open_act (show DataW.trod enc Try.prog W 0 (fun _ => true) true fuel2 40 cs.toList = some _ from hf2)
  obtain ⟨fuel, hf⟩ := h0
  obtain ⟨hm, hl⟩ := open_words hf
  clear hA0 hval0
  simp only [List.append_nil, List.nil_append] at hW'
  have hlt0 : ∀ x ∈ p0, x.block < W.heap.size := fun x hx => by simpa using hW'.lt x (by simp [hx])
  have hlt2 : ∀ x ∈ p2, x.block < W.heap.size := fun x hx => by simpa using hW'.lt x (by simp [hx])
  refine (logsWalk a1 A len cap x0 W hm hl).mono fun e W' ⟨he, hg⟩ => ?_
  subst he
  refine ⟨_, rfl, _, _, _, [], p0 ++ ([] ++ (p2 ++ [])), [], hW', ?_, ?_, rfl, hg.frame _, fun h => by cases h⟩
  · exact trodAll_cons_mk (shut_bool Try.underlying4 _) trodAll_mk0
  · exact trodAll_cons_mk (Below.trod laidOutL (by kernel_rfl) (of_decide_eq_true (by kernel_rfl)) h0k hg hlt0) (trodAll_cons_mk (shut_int Try.underlying3 w1) (trodAll_cons_mk (Below.trod laidOutL (by kernel_rfl) (of_decide_eq_true (by kernel_rfl)) h2k hg hlt2) trodAll_mk0))

theorem cellLogs_holds : Rows.CellLogsSaid :=
  OpenClaim.holds_of_wide 4 Try.f4 rfl rfl rfl rfl rfl rfl rfl ⟨rfl, rfl, rfl, rfl, rfl⟩ rfl rfl rfl rfl rfl (by kernel_rfl) Try.func4 (by kernel_rfl)
    (of_decide_eq_true (by kernel_rfl)) (by unfold Func.isWrapper; rw [if_neg (of_decide_eq_false (by kernel_rfl))]; exact ⟨rfl, rfl⟩)
    (fun os started H enc _ => logsLifted os started H enc)
#print axioms cellLogs_holds
end Go.Proofs.Ytbojbhjaeekjpaa
