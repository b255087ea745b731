/- The map of what is counted. -/
import Derived.Test.YtchmoalcjbolbaaJ
import Derived.Maps.OwnIn
import Derived.Maps.OwnSet
namespace Go.Proofs.Ytchmoalcjbolbaa
open Go.RowKit Go.Shelf Go.Sort
attribute [local go_sem] Oper.semAt_some

def datC (c : Cnt) : DataW Unit := .agg [.lit (.int .i64 (c.wt : Int)), .lit (.int .i64 (c.lg : Int)), .lit (.int .i64 (c.wn : Int)), .lit (.int .i64 (c.sn : Int))]
theorem encC_inj {c d : Cnt} (h : encC c = encC d) : c = d := by
  obtain ⟨a1, a2, a3, a4⟩ := c
  obtain ⟨b1, b2, b3, b4⟩ := d
  simp only [encC, Value.agg.injEq, Array.mk.injEq, List.cons.injEq, Value.int.injEq, true_and, and_true] at h
  simp only [Cnt.mk.injEq]
  omega
theorem datC_inj {c d : Cnt} (h : datC c = datC d) : c = d := by
  obtain ⟨a1, a2, a3, a4⟩ := c
  obtain ⟨b1, b2, b3, b4⟩ := d
  simp only [datC, DataW.agg.injEq, List.cons.injEq, DataW.lit.injEq, Lit.int.injEq, true_and, and_true] at h
  simp only [Cnt.mk.injEq]
  omega
open Classical in
/-- How an element of the map reads. -/
noncomputable def Rc (v : Value) : Option (DataW Unit × List MemPlace) := if h : ∃ c : Cnt, v = encC c then some (datC h.choose, []) else none
theorem Rc_enc (c : Cnt) : Rc (encC c) = some (datC c, []) := by
  have h : ∃ d : Cnt, encC c = encC d := ⟨c, rfl⟩
  unfold Rc
  rw [dif_pos h, encC_inj h.choose_spec.symm]
theorem Rc_inv {v : Value} {c : Cnt} {ps : List MemPlace} (h : Rc v = some (datC c, ps)) : v = encC c := by
  unfold Rc at h
  split at h
  · rename_i hc
    simp only [Option.some.injEq, Prod.mk.injEq] at h
    have e := hc.choose_spec
    rw [e, datC_inj h.1]
  · cases h

/-- What is counted of a thread. -/
def cntStep (t : Int) (c : Cnt) (e : Ev) : Cnt := if e.t = t then countOf c e.at_ e.x.took e.t else c
def cntOf (evs : List Ev) (t : Int) : Cnt := evs.foldl (cntStep t) cnt0
theorem cntOf_snoc (evs : List Ev) (e : Ev) (t : Int) : cntOf (evs ++ [e]) t = if e.t = t then countOf (cntOf evs t) e.at_ e.x.took e.t else cntOf evs t := by
  unfold cntOf
  rw [List.foldl_append]
  rfl
def metB (evs : List Ev) (t : Int) : Bool := evs.any fun e => e.t == t
theorem metB_snoc (evs : List Ev) (e : Ev) (t : Int) : metB (evs ++ [e]) t = (metB evs t || e.t == t) := by simp [metB]

theorem wf_of {x : Int} (h : W64 x) : (Lit.int .i64 x).wf = true := by
  unfold W64 at h
  simp only [Lit.wf, Bool.and_eq_true, decide_eq_true_eq]
  exact ⟨h.1, h.2⟩

theorem keyed3 : Maps.Keyed Try.prog 3 := Maps.int_keyed Try.underlying3
theorem key_of {x : Int} (h : W64 x) : keyOf Try.prog 3 (.int .i64 x) = some (.int .i64 x) := Maps.keyOf_int_mk Try.underlying3 (wf_of h)

structure CM (W : World) (b : Nat) (evs : List Ev) : Prop where
  own : ∃ D, W.ownsMap Try.prog 3 Rc b evs.length D ∧ (∀ t, W64 t → D.atKey (.int .i64 t) (datC cnt0) = datC (cntOf evs t)) ∧ ∀ t, W64 t → Maps.has D (.int .i64 t) = metB evs t
theorem CM.lt {W : World} {b : Nat} {evs : List Ev} (h : CM W b evs) : b < W.heap.size := by obtain ⟨D, h1, _⟩ := h; exact h1.lt
theorem CM.keep {W W' : World} {b : Nat} {evs : List Ev} (h : CM W b evs) (hk : W'.heap[b]? = W.heap[b]?) : CM W' b evs := by
  obtain ⟨D, ⟨es, clock, hb, F, hs, hD⟩, h2⟩ := h
  exact ⟨D, ⟨es, clock, hk.trans hb, F, hs, hD⟩, h2⟩
theorem CM.made (W : World) : CM (W.alloc (.map #[] 0)) W.heap.size [] :=
  ⟨.map [], W.ownsMap_made Try.prog 3 Rc, fun t _ => by simp [cntOf, DataW.atKey], fun t _ => by simp [Maps.has, metB]⟩
theorem CM.look {W : World} {b : Nat} {evs : List Ev} (h : CM W b evs) {t : Int} (ht : W64 t) :
    (Instr.lookup 66 (.map (some b)) (.int .i64 t) false).run Try.prog W = .ok (encC (cntOf evs t)) W := by
  obtain ⟨D, h1, h2, _⟩ := h
  obtain ⟨v, ps, hr, hv⟩ := h1.lookup (t := 66) (e := 71) (z := encC cnt0) keyed3 Try.underlying66 (Try.zeroValue71 _) (Rc_enc cnt0) (key_of ht)
  rw [h2 t ht] at hv
  rw [hr, Rc_inv hv]
theorem CM.put {W : World} {b : Nat} {evs : List Ev} (h : CM W b evs) {e : Ev} (ht : W64 e.t) (hn : evs.length < maxLen) :
    ∃ W', (Instr.mapUpdate 66 (.map (some b)) (.int .i64 e.t) (encC (countOf (cntOf evs e.t) e.at_ e.x.took e.t))).run Try.prog W = .ok () W' ∧ CM W' b (evs ++ [e]) ∧ W.grownBy W' (some b) := by
  obtain ⟨D, h1, h2, h3⟩ := h
  obtain ⟨W', hr, h4, h5⟩ := h1.update (t := 66) (e := 71) keyed3 Try.underlying66 hn (key_of ht) (Rc_enc (countOf (cntOf evs e.t) e.at_ e.x.took e.t))
  refine ⟨W', hr, ⟨_, by simpa using h4, fun t hw => ?_, fun t hw => ?_⟩, h5⟩
  · rw [cntOf_snoc]
    by_cases he : e.t = t
    · subst he
      rw [if_pos rfl, Maps.atKey_put_same h1.isMap (by trivial)]
    · rw [if_neg he, Maps.atKey_put_other (by intro hh; injection hh with _ hh; exact he hh.symm)]
      exact h2 t hw
  · rw [metB_snoc]
    by_cases he : e.t = t
    · subst he
      rw [Maps.has_put_same h1.isMap (by trivial)]
      simp
    · rw [Maps.has_put_other (by intro hh; injection hh with _ hh; exact he hh.symm), h3 t hw]
      have : (e.t == t) = false := by simp [he]
      rw [this, Bool.or_false]
end Go.Proofs.Ytchmoalcjbolbaa
