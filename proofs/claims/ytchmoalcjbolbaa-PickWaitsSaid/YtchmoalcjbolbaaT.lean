/- A region that draws its order, in a round of a range over a function, whose last operation alone writes: the plain quiet walk of the others, then the last one. -/
import Derived.Test.YtchmoalcjbolbaaHr
import Derived.Deep.QuietTactic
import Derived.Shelf.SlSortCmp.QuietGrown
namespace Go

/-- The operation, idle. -/
def Oper.idle (o : Oper) : Oper := { o with op := .move (.const (.bool false)), dst := none }

def boolLists : Nat → List (List Bool)
  | 0 => [[]]
  | n + 1 => (boolLists n).flatMap fun l => [true :: l, false :: l]
theorem mem_boolLists : ∀ (n : Nat) (l : List Bool), l.length = n → l ∈ boolLists n
  | 0, l, h => by rw [List.eq_nil_of_length_eq_zero h]; simp [boolLists]
  | n + 1, [], h => by simp at h
  | n + 1, b :: l, h => by
    refine List.mem_flatMap.2 ⟨l, mem_boolLists n l (by simpa using h), ?_⟩
    cases b <;> simp

/-- The operation m is the last one, whatever order is taken. -/
def Region.lastB (md : Region.Mode) (ops ops' : Array Oper) (m : Nat) : Bool :=
  (boolLists ops.size).all fun bs => bs.toArray.getD m true || (Region.ready md ops bs.toArray == Region.ready md ops' bs.toArray && !(Region.ready md ops bs.toArray).isEmpty &&
    (!(Region.ready md ops bs.toArray).contains m || ((Region.ready md ops (bs.toArray.setIfInBounds m true)).isEmpty && (Region.ready md ops' (bs.toArray.setIfInBounds m true)).isEmpty)))

section
variable {P : Program} {ops ops' : Array Oper} {md : Region.Mode} {C : World → Prop} {l n m : Nat} {last : Oper}

theorem lastB_spec (h : Region.lastB md ops ops' m = true) {listed : Array Bool} (hs : listed.size = ops.size) (hm : listed.getD m true = false) :
    Region.ready md ops listed = Region.ready md ops' listed ∧ Region.ready md ops listed ≠ [] ∧ (m ∈ Region.ready md ops listed → Region.ready md ops (listed.setIfInBounds m true) = [] ∧ Region.ready md ops' (listed.setIfInBounds m true) = []) := by
  have := List.all_eq_true.1 h listed.toList (mem_boolLists _ _ (by simpa using hs))
  simp only [Array.toArray_toList, hm, Bool.false_or, Bool.and_eq_true, beq_iff_eq, Bool.not_eq_true', Bool.or_eq_true, List.isEmpty_eq_false_iff, List.isEmpty_iff, List.contains_eq_mem, decide_eq_false_iff_not] at this
  obtain ⟨⟨h1, h2⟩, h3⟩ := this
  exact ⟨h1, h2, fun hmem => h3.resolve_left (fun hn => hn hmem)⟩

theorem yielded_idle (hother : ∀ i, i ≠ m → ops'[i]? = ops[i]?) (hm : ops[m]? = some last) (hm' : ops'[m]? = some last.idle) (hd : last.dst = none) (tmps : Array Value) : yielded ops' tmps = yielded ops tmps := by
  funext j
  unfold yielded
  by_cases h : j = m
  · subst h
    rw [hm, hm']
    simp [Oper.idle, hd]
  · rw [hother j h]

theorem qOp_ops (hother : ∀ i, i ≠ m → ops'[i]? = ops[i]?) (hy : ∀ tmps, yielded ops' tmps = yielded ops tmps) {i : Nat} (hi : i ≠ m) {K : Act → Prop} {a : Act} (h : qOp P ops' C i K a) : qOp P ops C i K a := by
  unfold qOp at *
  rw [hother i hi] at h
  simpa only [hy] using h

theorem wpAnyIn_last {Q1 : Act → Prop} {Q : Exit → Act → World → Prop} (hother : ∀ i, i ≠ m → ops'[i]? = ops[i]?) (hm : ops[m]? = some last) (hm' : ops'[m]? = some last.idle) (hdst : last.dst = none) (hg : last.guard = none)
    (hB : Region.lastB md ops ops' m = true) (hd : ∀ (j : Nat) o, ops[j]? = some o → ∀ c, o.op ≠ .defer c)
    (hQ : ∀ a w, C w → Q1 a → last.wpIn (Fence.wide.inRound l) n P a w (Q .normal) Q) : ∀ (fuel : Nat) (listed : Array Bool) (a : Act) (w : World), C w → listed.size = ops.size → listed.getD m true = false →
    wpAnyQ P md ops' C Q1 fuel listed a → wpAnyIn (Fence.wide.inRound l) n P md ops Q fuel listed a w
  | 0, listed, a, w, hw, hs, hl, h => by
    obtain ⟨h1, h2, _⟩ := lastB_spec hB hs hl
    exact absurd (h1.trans h.1) h2
  | fuel + 1, listed, a, w, hw, hs, hl, h => by
    obtain ⟨h1, h2, h3⟩ := lastB_spec hB hs hl
    refine ⟨fun h0 => absurd h0 h2, fun i hi => ?_⟩
    have hq := h.2 i (by rw [← h1]; exact hi)
    have hy := fun tmps => yielded_idle (last := last) hother hm hm' hdst tmps
    by_cases him : i = m
    · subst him
      have h4 := h3 hi
      have hend : Q1 a := by
        unfold qOp at hq
        simp only [hm'] at hq
        have hwd : Region.wanted last.idle (yielded ops' a.tmps) = true := by simp [Region.wanted, Oper.idle, hg]
        rw [if_pos hwd] at hq
        obtain ⟨v, _, hK⟩ := hq
        have e : a.put last.idle.dst v = a := rfl
        rw [e] at hK
        cases fuel with
        | zero => exact hK.2
        | succ f => exact hK.1 h4.2
      unfold wpOpIn
      simp only [hm]
      have hwd : Region.wanted last (yielded ops a.tmps) = true := by simp [Region.wanted, hg]
      rw [if_pos hwd]
      refine Oper.wpIn_mono (fun a' w' hn => ?_) (hQ a w hw hend)
      cases fuel with
      | zero => exact ⟨h4.1, hn⟩
      | succ f => exact ⟨fun _ => hn, fun j hj => by rw [h4.1] at hj; cases hj⟩
    · refine wpOpIn_round_of_qOp hd hw (fun a' w' hw' hK => wpAnyIn_last hother hm hm' hdst hg hB hd hQ fuel _ a' w' hw' (by simpa using hs) ?_ hK) (qOp_ops hother hy him hq)
      rw [Array.getD_eq_getD_getElem?, Array.getElem?_setIfInBounds, if_neg him, ← Array.getD_eq_getD_getElem?]
      exact hl

/-- **A region of nine operations that draws its order, in a round; the last one alone writes.** -/
theorem wpIn_region_last9 {id : Nat} {Q : Exit → Act → World → Prop} {a : Act} {w : World} {o0 o1 o2 o3 o4 o5 o6 o7 o8 : Oper} (C : World → Prop) (hmix : P.follows .mixedOrders = true)
    (hL : Region.lexB .any #[o0, o1, o2, o3, o4, o5, o6, o7, o8.idle] = true) (hB : Region.lastB .any #[o0, o1, o2, o3, o4, o5, o6, o7, o8] #[o0, o1, o2, o3, o4, o5, o6, o7, o8.idle] 8 = true)
    (hd : [o0, o1, o2, o3, o4, o5, o6, o7, o8].all Oper.noDefer = true) (hdst : o8.dst = none) (hg : o8.guard = none) (hC : C { w with drawn := w.drawn + 1 })
    (h : wpQuiet P #[o0, o1, o2, o3, o4, o5, o6, o7, o8.idle] C (fun a' => ∀ w', C w' → o8.wpIn (Fence.wide.inRound l) n P a' w' (Q .normal) Q) [o0, o1, o2, o3, o4, o5, o6, o7, o8.idle] a) :
    (Code.region id #[o0, o1, o2, o3, o4, o5, o6, o7, o8] true).wpIn (Fence.wide.inRound l) n P Q a w := by
  have hd' : ∀ (j : Nat) o, (#[o0, o1, o2, o3, o4, o5, o6, o7, o8] : Array Oper)[j]? = some o → ∀ c, o.op ≠ .defer c := fun j o ho c hc => by
    have hm : o ∈ [o0, o1, o2, o3, o4, o5, o6, o7, o8] := by
      have : (#[o0, o1, o2, o3, o4, o5, o6, o7, o8] : Array Oper)[j]? = [o0, o1, o2, o3, o4, o5, o6, o7, o8][j]? := by rw [← List.getElem?_toArray]
      rw [this] at ho
      exact List.mem_of_getElem? ho
    have := List.all_eq_true.1 hd o hm
    unfold Oper.noDefer at this
    rw [hc] at this
    cases this
  simp only [Region.lexB, Bool.and_eq_true] at hL
  refine wpIn_region_any hmix (wpAnyIn_last (Q1 := fun a' => ∀ w', C w' → o8.wpIn (Fence.wide.inRound l) n P a' w' (Q .normal) Q) (m := 8) (last := o8) (ops' := #[o0, o1, o2, o3, o4, o5, o6, o7, o8.idle]) (C := C) ?_ rfl rfl hdst hg hB hd' (fun a' w' hw' h => h w' hw') _ _ _ _ hC rfl rfl ?_)
  · intro i hi
    match i, hi with
    | 0, _ => rfl
    | 1, _ => rfl
    | 2, _ => rfl
    | 3, _ => rfl
    | 4, _ => rfl
    | 5, _ => rfl
    | 6, _ => rfl
    | 7, _ => rfl
    | 8, h => exact absurd rfl h
    | i + 9, _ => simp
  · exact wpAnyQ_lex (C := C) (md := .any) hL.1 [o0, o1, o2, o3, o4, o5, o6, o7, o8.idle] 0 (Array.replicate 9 false) a (by simp) (by simpa using hL.2) h
end
end Go
