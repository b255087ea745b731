/- SpinPlays: what a loop over Tries tells. -/
import Derived.Test.YthiaaapcbiameaaDoorIs
import Derived.OwnWalkIn
namespace Go.Proofs.YthiaaapcbiameaaDoor
open Go.RowKit Go.Shelf

/-- A cell p with a slice of bools of its own. -/
def boolsRes (p : Nat) : Res (List Bool) where
  R l W := ∃ u, Blk W p 56 #[u] ∧ Bools W u l
  ft W k := k = p ∨ ∃ u, Blk W p 56 #[u] ∧ u.ownBlock = some k
  lt := by
    rintro l W ⟨u, hb, hr⟩ k (rfl | ⟨u', hb', hk⟩)
    · exact hb.lt
    · unfold Blk at hb hb'
      rw [hb] at hb'
      simp at hb'
      subst hb'
      exact Row.lt hr k hk
  loc := by
    rintro l W W' ⟨u, hb, hr⟩ hk
    have hb' := hb.keep (hk p (.inl rfl))
    have hu : ∀ u', Blk W' p 56 #[u'] ↔ Blk W p 56 #[u'] := fun u' => by unfold Blk; rw [hk p (.inl rfl)]
    exact ⟨⟨u, hb', Row.keep hr (fun k h => hk k (.inr ⟨u, hb, h⟩))⟩, fun k => by simp only [hu]⟩
theorem boolsRes_step {p n : Nat} {l l' : List Bool} {W W' : World} {u u' : Value} (hb : Blk W p 56 #[u]) (hn : n ≤ W.heap.size) (hr' : Bools W' u' l') (hb' : Blk W' p 56 #[u])
    (hg : W.grownBy W' u.ownBlock) (hat : u'.ownBlock = u.ownBlock ∨ u'.ownBlock = some W.heap.size) : (boolsRes p).StepsN n l' W (W'.setCell ⟨p, 0, none⟩ u') := by
  have hne := Row.ne_blk hr' hb' (by decide)
  have hb2 : Blk (W'.setCell ⟨p, 0, none⟩ u') p 56 #[u'] := by simpa using hb'.set 0 u'
  refine ⟨⟨u', hb2, Row.far (p := ⟨p, 0, none⟩) hr' hne u'⟩, hg.os, hg.tape, hg.output, by simpa [World.setCell] using hg.size, fun k hk hf => ?_, fun k hk => ?_⟩
  · exact (Below.heap_setCell W' ⟨p, 0, none⟩ u' k (fun e => hf (.inl e))).trans (hg.block k (by omega) (fun e => hf (.inr ⟨u, hb, e.symm⟩)))
  · rcases hk with rfl | ⟨u2, hb3, hk⟩
    · exact .inl (.inl rfl)
    · unfold Blk at hb2 hb3
      rw [hb2] at hb3
      simp at hb3
      subst hb3
      rcases hat with e | e
      · exact .inl (.inr ⟨u, hb, e ▸ hk⟩)
      · rw [e] at hk; injection hk with hk; exact .inr (by omega)

/-- What was told so far, and what is still to tell. -/
structure TrI (j N : Int) (s0 : St) (p : List (Nat × Bool) × (Nat × St × Bool)) (l : List Bool) : Prop where
  n : p.2.1 = l.length
  le : (p.2.1 : Int) ≤ max N 0
  eq : triesSt j N.toNat s0 = if p.2.2.2 = true then (p.2.2.1, l) else ((triesSt j (N.toNat - p.2.1) p.2.2.1).1, l ++ (triesSt j (N.toNat - p.2.1) p.2.2.1).2)
theorem TrI.start {j N : Int} {s0 : St} : TrI j N s0 ([], (0, s0, false)) [] := ⟨rfl, by simp; omega, by simp⟩
theorem TrI.step {j N : Int} {s0 s s' : St} {pre : List (Nat × Bool)} {i i' k : Nat} {g g' g'' : Bool} {l : List Bool} (h : TrI j N s0 (pre, (i, s, g)) l) (hn : nextTr N j (i, s, g) = some ((k, g'), (i', s', g''))) :
    k = l.length ∧ (l.length : Int) < N ∧ TrI j N s0 (pre ++ [(k, g')], (i', s', g'')) (l ++ [g']) := by
  obtain ⟨h1, h2, h3⟩ := h
  simp only at h1 h2 h3
  unfold nextTr nextAtt at hn
  simp only at hn
  cases g with
  | true => simp at hn
  | false =>
    by_cases hc : (i : Int) < N ∧ inSt s j = true
    · rw [if_pos hc] at hn
      simp at hn
      obtain ⟨⟨rfl, rfl⟩, rfl, rfl, rfl⟩ := hn
      refine ⟨h1, by omega, by simp [h1], by simp only; omega, ?_⟩
      rw [h3]
      simp only [Bool.false_eq_true, if_false]
      rw [show N.toNat - i = (N.toNat - (i + 1)) + 1 by omega]
      conv => lhs; unfold triesSt
      rw [if_pos hc.2]
      by_cases hg : (doSt s 3 j 0 1).2.1.did = true
      · simp [hg]
      · simp at hg
        simp [hg]
    · rw [if_neg hc] at hn
      simp at hn
theorem TrI.done {j N : Int} {s0 s : St} {pre : List (Nat × Bool)} {i : Nat} {g : Bool} {l : List Bool} (h : TrI j N s0 (pre, (i, s, g)) l) (hn : nextTr N j (i, s, g) = none) : triesSt j N.toNat s0 = (s, l) := by
  obtain ⟨h1, h2, h3⟩ := h
  simp only at h1 h2 h3
  rw [h3]
  cases g with
  | true => simp
  | false =>
    unfold nextTr nextAtt at hn
    simp only [Bool.false_eq_true, if_false] at hn ⊢
    by_cases hc : (i : Int) < N ∧ inSt s j = true
    · rw [if_pos hc] at hn; simp at hn
    · rcases Nat.eq_zero_or_pos (N.toNat - i) with e | e
      · rw [e]; simp [triesSt]
      · have hi : ¬ inSt s j = true := fun e' => hc ⟨by omega, e'⟩
        obtain ⟨m, hm⟩ : ∃ m, N.toNat - i = m + 1 := ⟨N.toNat - i - 1, by omega⟩
        rw [hm]
        unfold triesSt
        rw [if_neg hi]
        simp

theorem footA_row {b k n : Nat} {s : St} {w : World} {u : Value} {xs : List Value} (h : (arena b).R s w) (hu : Row w 4 1 u n xs) (hk : u.ownBlock = some k) : ¬ footA b w k := fun hf => by
  obtain ⟨vl, vc, ha⟩ := h
  rcases hf.parts ha.blk with rfl | e | e
  · exact Row.ne_blk hu ha.blk (by decide) hk
  · exact Row.ne_row ha.last hu (by decide) k e hk
  · exact Row.ne_row ha.cells hu (by decide) k e hk

theorem Mid.pair {b : Nat} {x : ActD} {s r : St} {v : Value} {cs ds : Array Value} {w W X : World} (h : Mid b x s r v cs ds w W) {τ σ : Type} {q : Res τ} {f : σ → St} {c : Res Unit} {t : τ} {y : σ} (hp : Pair q ((arena b).comap f) c W t y X)
    {p : Nat} (hq : ∀ k, q.ft W k → k = p) (hpl : w.heap.size + 4 ≤ p) (hpo : ¬ ownR v p) : Mid b x (f y) r v cs ds w X := by
  have hz := h.sz
  have o : ∀ k, k < W.heap.size → k ≠ p → ¬ footA b W k → X.heap[k]? = W.heap[k]? ∧ ¬ footA b X k := fun k h1 h2 h3 => by
    obtain ⟨a1, _, a3⟩ := hp.old (Array.getElem?_eq_getElem h1) (fun e => h2 (hq k e)) h3
    exact ⟨a1.trans (Array.getElem?_eq_getElem h1).symm, a3⟩
  have o4 := fun k (h1 : w.heap.size ≤ k) (h2 : k < w.heap.size + 4) => o k (by omega) (by omega) (h.nf k h1 h2)
  have n0 := o 0 h.sd.lk.num.lt (by omega) h.sd.lk.nf
  refine ⟨⟨⟨hp.atr, h.sd.lk.num.keep n0.1, n0.2⟩, h.sd.ref.keep (fun k hk => (o k (h.sd.ref.lt k hk) (fun e => hpo (e ▸ hk)) (h.sd.own k hk)).1), fun k hk => (o k (h.sd.ref.lt k hk) (fun e => hpo (e ▸ hk)) (h.sd.own k hk)).2⟩, ?_, Nat.le_trans hz hp.keep.size, fun k h1 h2 => (o4 k h1 h2).2,
    h.bx.keep (o4 _ (by omega) (by omega)).1, h.rs.keep (o4 _ (by omega) (by omega)).1, h.rb.keep (o4 _ (by omega) (by omega)).1⟩
  refine ⟨hp.atr, hp.keep.os.trans h.st.os, hp.keep.tape.trans h.st.tape, hp.keep.output.trans h.st.output, Nat.le_trans h.st.size hp.keep.size, fun k h1 h2 => ?_, fun k hk => ?_⟩
  · have h3 := h.st.out h1 h2
    exact (o k (by omega) (by omega) h3.2).1.trans h3.1
  · rcases hp.rn k hk with h1 | h1
    · exact h.st.ft k h1
    · exact .inr (by omega)
/-- An append inside a round. -/
theorem wpListIn_append_row {F : Fence} {nn : Nat} {P : Program} {w : World} {ops : Array Oper} {rest : List Oper} {o : Oper} {a : Act} {Q : Exit → Act → World → Prop} (hgd : o.guard = none) (s x : Operand) (t : TypeId)
    (ho : o.op = .call { callee := .builtin .append, args := #[s, x], argTypes := #[t, t] })
    (e e' : TypeId) (i : TypeInfo) (z : Value) (size bytes : Nat) (ht : P.underlying t = some (.slice e)) (hi : P.info? e = some i) (hz : i.zero = some z)
    (hsize : i.size = size) (hby : i.bytes = bytes) (hzs : z.cells.size = size)
    (v : Value) (n : Nat) (xs : List Value) (hs : a.eval s = v) (hown : Row w e size v n xs)
    (u : Value) (m : Nat) (news : List Value) (hx : a.eval x = u) (hnew : Row w e' size u m news) (h1 : ∀ x ∈ news, x.oneCell' = true)
    (h63 : n + m ≤ maxLen) (hbytes : (n + m) * bytes ≤ 140737488355328)
    (h : ∀ v' w', Row w' e size v' (n + m) (xs ++ news) → w.grownBy w' v.ownBlock → (v'.ownBlock = v.ownBlock ∨ v'.ownBlock = some w.heap.size) → wpListIn F nn P ops Q rest (a.put o.dst v') w') : wpListIn F nn P ops Q (o :: rest) a w := by
  refine wpListIn_plain hgd fun K hK' => ?_
  obtain ⟨v', w', hrun, r1, r2, r3⟩ := run_append_row (P := P) w t o.type e e' i z size bytes ht hi hz hsize hby hzs v n xs hown u m news hnew h1 h63 hbytes
  unfold Oper.wpIn
  refine ⟨?_, ?_⟩
  · simp [Oper.about, ho, resolve, Target.leads, Sem.run_pure]
  · rw [Oper.semAt_plain F _ _ (by rw [ho]; intro c hc'; cases hc')]
    simp [execOp, ho, resolve, invoke, builtin, hs, hx, hrun, Result.andThen]
    exact hK' _ _ (h v' w' r1 r2 r3)
theorem fresh_below {b k : Nat} {s : St} {w W : World} (h : (arena b).R s w) (hB : Below w.heap.size w W) (hk : w.heap.size ≤ k) : ¬ footA b W k := fun hf => by
  have := (((arena b).loc h (fun j hj => hB.block j ((arena b).lt h j hj))).2 k).1 hf
  have := (arena b).lt h k this
  omega
theorem row_cells {w : World} {e : TypeId} {size n k : Nat} {v : Value} {xs : List Value} (h : Row w e size v n xs) (hk : v.ownBlock = some k) : ∃ o : Obj, w.heap[k]? = some o ∧ o.isCells = true := by
  rcases h.2 with ⟨rfl, _⟩ | ⟨g, cap, cur, rfl, hb, _⟩
  · simp [Value.ownBlock] at hk
  · simp [Value.ownBlock] at hk
    subst hk
    exact ⟨_, hb, rfl⟩
theorem ownR_def {w : World} {v : Value} {s : St} {D : Nat} {o : Obj} (h : RefS w v s) (ho : w.heap[D]? = some o) (hc : o.isCells = false) : ¬ ownR v D := fun hk => by
  obtain ⟨⟨vC, vL, rfl, h1, h2⟩, _, _⟩ := h
  have : ∃ o : Obj, w.heap[D]? = some o ∧ o.isCells = true := hk.parts.elim (row_cells h1) (row_cells h2)
  obtain ⟨o2, e1, e2⟩ := this
  rw [ho] at e1; cases e1; rw [hc] at e2; cases e2
theorem Mid.keep {b : Nat} {x : ActD} {s r : St} {v : Value} {cs ds : Array Value} {w W W' : World} (h : Mid b x s r v cs ds w W) {F : Nat → Prop} (K : Keep F W W') (hF : ∀ k, F k → w.heap.size + 4 ≤ k ∧ ¬ footA b W k ∧ ¬ ownR v k) : Mid b x s r v cs ds w W' := by
  have hz := h.sz
  obtain ⟨r1, r2⟩ := Res.beside (r := arena b) h.sd.lk.are K (fun k hk => (hF k hk).2.1)
  have kb : ∀ k, k < w.heap.size + 4 → W'.heap[k]? = W.heap[k]? := fun k hk => K.block k (by omega) (fun e => by have := (hF k e).1; omega)
  refine ⟨h.sd.stepP K (fun k hk => ⟨(hF k hk).2.1, (hF k hk).2.2, by have := (hF k hk).1; omega⟩), ?_, Nat.le_trans hz K.size, fun k h1 h2 hf => h.nf k h1 h2 ((r2 k).1 hf), h.bx.keep (kb _ (by omega)), h.rs.keep (kb _ (by omega)), h.rb.keep (kb _ (by omega))⟩
  exact ⟨r1, K.os.trans h.st.os, K.tape.trans h.st.tape, K.output.trans h.st.output, Nat.le_trans h.st.size K.size, fun k h1 h2 => (kb k (by omega)).trans (h.st.block k h1 h2), fun k hk => h.st.ft k ((r2 k).1 hk)⟩
theorem Mid.put {b : Nat} {x : ActD} {s r : St} {v : Value} {cs ds : Array Value} {w W : World} (h : Mid b x s r v cs ds w W) {D : Nat} (hd : W.heap[D]? = some (.deferred (some []))) (hD : w.heap.size + 4 ≤ D) : Mid b x s r v cs ds w (W.putObj D (.deferred none)) :=
  h.keep (F := fun k => k = D) ⟨rfl, rfl, rfl, by simp, fun k _ hk => World.putObj_heap_other (fun e => hk e)⟩ (by
    rintro k rfl
    exact ⟨hD, footA_not h.sd.lk.are hd rfl, ownR_def h.sd.ref hd rfl⟩)
end Go.Proofs.YthiaaapcbiameaaDoor
