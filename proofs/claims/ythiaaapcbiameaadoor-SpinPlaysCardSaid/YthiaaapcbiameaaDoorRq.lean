/- Things in the memory and their blocks (Res), what a step on one does (Steps), two beside each other (Pair); a range over an iterator that acts on one between its yields (SeqsQ, wp_rangeQ), whose body acts on another. No program is named here. -/
import Derived.Test.YthiaaapcbiameaaDoorR
import Derived.Test.YthiaaapcbiameaaDoorG
namespace Go.Proofs.YthiaaapcbiameaaDoor
open Go.RowKit

/-- Something in the memory that stands as s (R), in the blocks ft, which hang on these blocks alone. -/
structure Res (σ : Type) where
  R : σ → World → Prop
  ft : World → Nat → Prop
  lt : ∀ {s : σ} {W : World}, R s W → ∀ k, ft W k → k < W.heap.size
  loc : ∀ {s : σ} {W W' : World}, R s W → (∀ k, ft W k → W'.heap[k]? = W.heap[k]?) → R s W' ∧ ∀ k, ft W' k ↔ ft W k

/-- A step on it, of the blocks below n: nothing else of them is written, and its blocks are blocks that it had, or from n on. -/
structure Res.StepsN {σ : Type} (r : Res σ) (n : Nat) (s' : σ) (W W' : World) : Prop where
  at_ : r.R s' W'
  os : W'.os = W.os
  tape : W'.tape = W.tape
  output : W'.output = W.output
  size : W.heap.size ≤ W'.heap.size
  block : ∀ k, k < n → ¬ r.ft W k → W'.heap[k]? = W.heap[k]?
  ft : ∀ k, r.ft W' k → r.ft W k ∨ n ≤ k
abbrev Res.Steps {σ : Type} (r : Res σ) (s' : σ) (W W' : World) : Prop := r.StepsN W.heap.size s' W W'

section
variable {σ τ : Type} {r : Res σ} {s s' : σ} {W W' W'' : World}
def Res.comap (r : Res σ) (f : τ → σ) : Res τ := ⟨fun t W => r.R (f t) W, r.ft, fun h => r.lt h, fun h => r.loc h⟩
theorem Res.Steps.keep (h : r.Steps s' W W') : Keep (r.ft W) W W' := ⟨h.os, h.tape, h.output, h.size, h.block⟩
theorem Res.Steps.of (h : r.R s' W') (hk : Keep (r.ft W) W W') (hf : ∀ k, r.ft W' k → r.ft W k ∨ W.heap.size ≤ k) : r.Steps s' W W' := ⟨h, hk.os, hk.tape, hk.output, hk.size, hk.block, hf⟩
theorem Res.StepsN.trans {n : Nat} (h : r.StepsN n s' W W') {s'' : σ} {m : Nat} (hm : n ≤ m) (k : r.StepsN m s'' W' W'') : r.StepsN n s'' W W'' := by
  refine ⟨k.at_, k.os.trans h.os, k.tape.trans h.tape, k.output.trans h.output, Nat.le_trans h.size k.size, fun i hi hf => ?_, fun i hi => ?_⟩
  · refine (k.block i (by omega) (fun hf' => ?_)).trans (h.block i hi hf)
    rcases h.ft i hf' with h2 | h2
    · exact hf h2
    · omega
  · rcases k.ft i hi with h1 | h1
    · exact h.ft i h1
    · exact .inr (by omega)
theorem Res.StepsN.mono {n m : Nat} (h : r.StepsN m s' W W') (hn : n ≤ m) : r.StepsN n s' W W' := ⟨h.at_, h.os, h.tape, h.output, h.size, fun k hk => h.block k (by omega), fun k hk => (h.ft k hk).imp id (fun e => by omega)⟩
theorem Res.Steps.trans (h : r.Steps s' W W') {s'' : σ} (k : r.Steps s'' W' W'') : r.Steps s'' W W'' := Res.StepsN.trans h h.size k
/-- What others do beside it. -/
theorem Res.beside (h : r.R s W) {F : Nat → Prop} (hk : Keep F W W') (hF : ∀ k, F k → ¬ r.ft W k) : r.R s W' ∧ ∀ k, r.ft W' k ↔ r.ft W k :=
  r.loc h (fun k hk' => hk.block k (r.lt h k hk') (fun e => hF k e hk'))
theorem Res.Steps.beside (h : r.R s W) (hk : Keep (fun _ => False) W W') : r.Steps s W W' := by
  obtain ⟨h1, h2⟩ := Res.beside h hk (fun _ e => e.elim)
  exact Res.Steps.of h1 (hk.mono (fun _ e => e.elim)) (fun k hk' => .inl ((h2 k).1 hk'))
theorem Keep.none_of_below (h : Below W.heap.size W W') : Keep (fun _ => False) W W' := Keep.of_below h (fun k h1 h2 => by omega)
theorem Res.Steps.refl (h : r.R s W) : r.Steps s W W := Res.Steps.beside h (Keep.refl _ _)
theorem Res.Steps.below (h : r.R s W) (hB : Below W.heap.size W W') : r.Steps s W W' := Res.Steps.beside h (Keep.none_of_below hB)
theorem Res.StepsN.out {n : Nat} (h : r.StepsN n s' W W') {k : Nat} (hk : k < n) (hf : ¬ r.ft W k) : W'.heap[k]? = W.heap[k]? ∧ ¬ r.ft W' k := by
  refine ⟨h.block k hk hf, fun hf' => ?_⟩
  rcases h.ft k hf' with h1 | h1
  · exact hf h1
  · omega
theorem Res.fresh (h : r.R s W) {k : Nat} (hk : W.heap.size ≤ k) : ¬ r.ft W k := fun hf => by have := r.lt h k hf; omega
theorem Res.StepsN.low {n B : Nat} (h : r.StepsN n s' W W') (hB : B ≤ n) (hl : ∀ k, r.ft W k → B ≤ k) : ∀ k, r.ft W' k → B ≤ k := fun k hk => by
  rcases h.ft k hk with h1 | h1
  · exact hl k h1
  · omega
end

/-- Two things beside each other, and a third that is only read; since W0 only blocks of the first two were written, and theirs are blocks that they had, or new. -/
structure Pair {σ τ : Type} (q : Res τ) (r : Res σ) (c : Res Unit) (W0 : World) (t : τ) (s : σ) (W : World) : Prop where
  atq : q.R t W
  atr : r.R s W
  atc : c.R () W
  qr : ∀ k, q.ft W k → ¬ r.ft W k
  cq : ∀ k, c.ft W k → ¬ q.ft W k
  cr : ∀ k, c.ft W k → ¬ r.ft W k
  keep : Keep (fun k => q.ft W0 k ∨ r.ft W0 k) W0 W
  qn : ∀ k, q.ft W k → q.ft W0 k ∨ W0.heap.size ≤ k
  rn : ∀ k, r.ft W k → r.ft W0 k ∨ W0.heap.size ≤ k

section
variable {σ τ : Type} {q : Res τ} {r : Res σ} {c : Res Unit} {W0 W W' : World} {t t' : τ} {s s' : σ}
theorem Pair.start (hq : q.R t W) (hr : r.R s W) (hc : c.R () W) (h1 : ∀ k, q.ft W k → ¬ r.ft W k) (h2 : ∀ k, c.ft W k → ¬ q.ft W k) (h3 : ∀ k, c.ft W k → ¬ r.ft W k) : Pair q r c W t s W :=
  ⟨hq, hr, hc, h1, h2, h3, Keep.refl _ _, fun _ h => .inl h, fun _ h => .inl h⟩
theorem Pair.stepR (h : Pair q r c W0 t s W) (hs : r.Steps s' W W') : Pair q r c W0 t s' W' := by
  obtain ⟨q1, q2⟩ := Res.beside h.atq hs.keep (fun k hr hq => h.qr k hq hr)
  obtain ⟨c1, c2⟩ := Res.beside h.atc hs.keep (fun k hr hc => h.cr k hc hr)
  have hn : ∀ k, k < W.heap.size → ¬ r.ft W k → ¬ r.ft W' k := fun k h1 h2 => (hs.out h1 h2).2
  refine ⟨q1, hs.at_, c1, fun k hk => hn k (q.lt h.atq k ((q2 k).1 hk)) (h.qr k ((q2 k).1 hk)), fun k hk => fun e => h.cq k ((c2 k).1 hk) ((q2 k).1 e), fun k hk => hn k (c.lt h.atc k ((c2 k).1 hk)) (h.cr k ((c2 k).1 hk)),
    ⟨hs.os.trans h.keep.os, hs.tape.trans h.keep.tape, hs.output.trans h.keep.output, Nat.le_trans h.keep.size hs.size, fun k hk hf => ?_⟩, fun k hk => h.qn k ((q2 k).1 hk), fun k hk => ?_⟩
  · refine (hs.block k (Nat.lt_of_lt_of_le hk h.keep.size) (fun e => ?_)).trans (h.keep.block k hk hf)
    rcases h.rn k e with h1 | h1
    · exact hf (.inr h1)
    · omega
  · rcases hs.ft k hk with h1 | h1
    · exact h.rn k h1
    · exact .inr (Nat.le_trans h.keep.size h1)
theorem Pair.stepQ (h : Pair q r c W0 t s W) (hs : q.Steps t' W W') : Pair q r c W0 t' s W' := by
  obtain ⟨r1, r2⟩ := Res.beside h.atr hs.keep (fun k hq hr => h.qr k hq hr)
  obtain ⟨c1, c2⟩ := Res.beside h.atc hs.keep (fun k hq hc => h.cq k hc hq)
  have hn : ∀ k, k < W.heap.size → ¬ q.ft W k → ¬ q.ft W' k := fun k h1 h2 => (hs.out h1 h2).2
  refine ⟨hs.at_, r1, c1, fun k hk hr => ?_, fun k hk => hn k (c.lt h.atc k ((c2 k).1 hk)) (h.cq k ((c2 k).1 hk)), fun k hk => fun e => h.cr k ((c2 k).1 hk) ((r2 k).1 e),
    ⟨hs.os.trans h.keep.os, hs.tape.trans h.keep.tape, hs.output.trans h.keep.output, Nat.le_trans h.keep.size hs.size, fun k hk hf => ?_⟩, fun k hk => ?_, fun k hk => h.rn k ((r2 k).1 hk)⟩
  · exact hn k (r.lt h.atr k ((r2 k).1 hr)) (fun e => h.qr k e ((r2 k).1 hr)) hk
  · refine (hs.block k (Nat.lt_of_lt_of_le hk h.keep.size) (fun e => ?_)).trans (h.keep.block k hk hf)
    rcases h.qn k e with h1 | h1
    · exact hf (.inl h1)
    · omega
  · rcases hs.ft k hk with h1 | h1
    · exact h.qn k h1
    · exact .inr (Nat.le_trans h.keep.size h1)
theorem Pair.beside (h : Pair q r c W0 t s W) (hk : Keep (fun _ => False) W W') : Pair q r c W0 t s W' := h.stepQ (Res.Steps.beside h.atq hk)
theorem Pair.below (h : Pair q r c W0 t s W) (hB : Below W.heap.size W W') : Pair q r c W0 t s W' := h.stepQ (Res.Steps.below h.atq hB)
/-- What lay there at W0, and is none of theirs, lies as it lay. -/
theorem Pair.old (h : Pair q r c W0 t s W) {k : Nat} {o : Obj} (ho : W0.heap[k]? = some o) (h1 : ¬ q.ft W0 k) (h2 : ¬ r.ft W0 k) : W.heap[k]? = some o ∧ ¬ q.ft W k ∧ ¬ r.ft W k := by
  have hlt := (Array.getElem?_eq_some_iff.1 ho).1
  refine ⟨(h.keep.block k hlt (fun e => e.elim h1 h2)).trans ho, fun e => ?_, fun e => ?_⟩
  · rcases h.qn k e with h3 | h3
    · exact h1 h3
    · omega
  · rcases h.rn k e with h3 | h3
    · exact h2 h3
    · omega
/-- All that they have lies from B on. -/
theorem Pair.toBelow {B : Nat} (h : Pair q r c W0 t s W) (h1 : ∀ k, q.ft W0 k → B ≤ k) (h2 : ∀ k, r.ft W0 k → B ≤ k) (hB : B ≤ W0.heap.size) : Below B W0 W ∧ (∀ k, q.ft W k → B ≤ k) ∧ (∀ k, r.ft W k → B ≤ k) := by
  refine ⟨h.keep.below (fun k hk => hk.elim (h1 k) (h2 k)) hB, fun k hk => ?_, fun k hk => ?_⟩
  · rcases h.qn k hk with h3 | h3
    · exact h1 k h3
    · omega
  · rcases h.rn k hk with h3 | h3
    · exact h2 k h3
    · omega
theorem Pair.rebase {W1 : World} (h : Pair q r c W1 t s W) (hk : Keep (fun k => q.ft W0 k ∨ r.ft W0 k) W0 W1) (h1 : ∀ k, q.ft W1 k → q.ft W0 k ∨ W0.heap.size ≤ k) (h2 : ∀ k, r.ft W1 k → r.ft W0 k ∨ W0.heap.size ≤ k) : Pair q r c W0 t s W := by
  refine ⟨h.atq, h.atr, h.atc, h.qr, h.cq, h.cr, ⟨h.keep.os.trans hk.os, h.keep.tape.trans hk.tape, h.keep.output.trans hk.output, Nat.le_trans hk.size h.keep.size, fun k hlt hf => ?_⟩, fun k hq => ?_, fun k hr => ?_⟩
  · refine (h.keep.block k (Nat.lt_of_lt_of_le hlt hk.size) (fun e => ?_)).trans (hk.block k hlt hf)
    rcases e with e | e
    · rcases h1 k e with h3 | h3
      · exact hf (.inl h3)
      · omega
    · rcases h2 k e with h3 | h3
      · exact hf (.inr h3)
      · omega
  · rcases h.qn k hq with h3 | h3
    · exact h1 k h3
    · exact .inr (Nat.le_trans hk.size h3)
  · rcases h.rn k hr with h3 | h3
    · exact h2 k h3
    · exact .inr (Nat.le_trans hk.size h3)
end

/-- The function g with the captured values lb (c holds what they point to), from s0 on: it steps from s to s' and yields x just where next s says so, till that says no more, or a round does; I: what holds of all that was yielded and of what the loop has; Ix: where a round was the last one. -/
def SeqsQ {σ α : Type} (r : Res σ) (c : Res Unit) (P : Program) (g : Nat) (lb : Array Value) (encs : α → Array Value) (next : σ → Option (α × σ)) (s0 : σ) : Prop :=
  ∀ {τ : Type} (q : Res τ) (n l : Nat) (I Ix : List α × σ → τ → Prop) (t0 : τ) (W : World), Pair q r c W t0 s0 W → I ([], s0) t0 →
    (∀ pre s x s' t W1, I (pre, s) t → next s = some (x, s') → Pair q r c W t s' W1 → YieldAt Fence.wide (n - 1) P l (encs x) W1 fun e W' =>
      ∃ t', q.Steps t' W1 W' ∧ ((e = .returned (.bool true) ∧ I (pre ++ [x], s') t') ∨ (e = .returned (.bool false) ∧ Ix (pre ++ [x], s') t'))) →
    CallsIn Fence.wide n P g (#[.func (.yield l) #[] #[]] ++ lb) W fun e W' => (∃ v, e = .returned v) ∧ ∃ pre s' t', Pair q r c W t' s' W' ∧ ((I (pre, s') t' ∧ next s' = none) ∨ Ix (pre, s') t')

/-- How a round's body may be left. -/
def roundEndQ {σ τ α : Type} (q : Res τ) (I : List α × σ → τ → Prop) (Ix : Code → List α × σ → τ → Prop) (p : List α × σ) (n0 : Nat) (W : World) : Exit → Act → World → Prop
  | .normal, _, W' => ∃ t', q.StepsN n0 t' W W' ∧ I p t'
  | .ret, _, W' => ∃ t', q.StepsN n0 t' W W' ∧ Ix .ret p t'
  | .exit id, _, W' => ∃ t', q.StepsN n0 t' W W' ∧ Ix (.exit id) p t'
  | .goto k, _, W' => ∃ t', q.StepsN n0 t' W W' ∧ Ix (.goto k) p t'
  | .panic _, _, _ => False
  | .outgrown, _, _ => False

/-- What is owed when the assignment to the loop's variables is done: the body, from there. -/
def roundBodyQ {σ τ α : Type} (P : Program) (n l : Nat) (q : Res τ) (r : Res σ) (c : Res Unit) (w : World) (body : Code) (I : List α × σ → τ → Prop) (Ix : Code → List α × σ → τ → Prop) (p : List α × σ) (t : τ) (W : World) (a' : Act) (W' : World) : Prop :=
  Keep (fun _ => False) W W' ∧ ∀ W'', Turned W' W'' → Pair q r c w t p.2 W'' → body.wpIn (Fence.wide.inRound l) n P (roundEndQ q I Ix p W.heap.size W'') a' W''

/-- What the loop has, and its book-keeping. -/
def withRec {τ : Type} (q : Res τ) (l D : Nat) : Res (τ × Loop) where
  R t W := q.R t.1 W ∧ W.heap[l]? = some (.loop t.2) ∧ W.heap[D]? = some (.deferred (some [])) ∧ ¬ q.ft W l ∧ ¬ q.ft W D
  ft W k := q.ft W k ∨ k = l ∨ k = D
  lt := by
    rintro t W ⟨h1, h2, h3, _⟩ k (hk | rfl | rfl)
    · exact q.lt h1 k hk
    · exact (Array.getElem?_eq_some_iff.1 h2).1
    · exact (Array.getElem?_eq_some_iff.1 h3).1
  loc := by
    rintro t W W' ⟨h1, h2, h3, h4, h5⟩ hk
    obtain ⟨q1, q2⟩ := q.loc (W' := W') h1 (fun k hf => hk k (.inl hf))
    exact ⟨⟨q1, (hk l (.inr (.inl rfl))).trans h2, (hk D (.inr (.inr rfl))).trans h3, fun e => h4 ((q2 _).1 e), fun e => h5 ((q2 _).1 e)⟩, fun k => or_congr (q2 k) Iff.rfl⟩

section
variable {P : Program} {n : Nat}
/-- The statement 'for .. := range seq': the loop's variables may be boxed by the assign code. -/
theorem wp_rangeQ {σ τ α : Type} (q : Res τ) (r : Res σ) (c : Res Unit) {g : Operand} {ps : Array Tmp} {assign body : Code} {Q : Exit → Act → World → Prop} {a : Act} {w : World} (n : Nat)
    {gf : Nat} {lb : Array Value} (hg : a.eval g = .func (.func gf) #[] lb) (eg : ∀ args w, (callFunc gf args).run P w = .ok (.enter gf args) w)
    {encs : α → Array Value} {next : σ → Option (α × σ)} {s0 : σ} (hseq : SeqsQ r c P gf lb encs next s0) (hps : ∀ x, (encs x).size = ps.size)
    (I : List α × σ → τ → Prop) (Ix : Code → List α × σ → τ → Prop) (t0 : τ) (hp : Pair q r c w t0 s0 w) (h0 : I ([], s0) t0)
    (hround : ∀ (l : Nat) (pre : List α) (s : σ) (x : α) (s' : σ) (t : τ) (W : World), I (pre, s) t → next s = some (x, s') → Pair q r c w t s' W →
      assign.wpIn (Fence.wide.inRound l) n P (Exit.then (roundBodyQ P n l q r c w body I Ix (pre ++ [x], s') t W) (fun _ _ _ => False)) { tmps := (ps.zip (encs x)).foldl (fun t (p, v) => t.setIfInBounds p v) a.tmps, defers := [] } W)
    (hdone : ∀ (D : Nat) (pre : List α) (s' : σ) (t' : τ) (W : World), w.heap.size ≤ D → Pair q r c w t' s' W → I (pre, s') t' → next s' = none → W.heap[D]? = some (.deferred (some [])) → (∀ o : Obj, Pair q r c w t' s' (W.putObj D o)) → Q .normal { a with defers := { target := .collected D, args := #[] } :: a.defers } W)
    (hstop : ∀ (D : Nat) (cd : Code) (pre : List α) (s' : σ) (t' : τ) (W : World), w.heap.size ≤ D → Pair q r c w t' s' W → Ix cd (pre, s') t' → W.heap[D]? = some (.deferred (some [])) → (∀ o : Obj, Pair q r c w t' s' (W.putObj D o)) → cd.wp P Q { a with defers := { target := .collected D, args := #[] } :: a.defers } W) :
    (Code.rangeFunc g ps assign body).wp P Q a w := by
  refine wpIn_wide.1 (wpIn_rangeFunc (n := n + 1 + 1) ?_)
  intro fn hfn
  obtain ⟨rec, hrec⟩ : ∃ rec : LoopState → Option Code → Loop, rec = fun st pe => { state := st, pending := pe, fn, tmps := a.tmps, params := ps, assign, body, defers := w.heap.size } := ⟨_, rfl⟩
  obtain ⟨W1, hW1⟩ : ∃ W1, (w.alloc (.deferred (some []))).alloc (.loop (rec .ready none)) = W1 := ⟨_, rfl⟩
  have hL1 : W1.heap[w.heap.size + 1]? = some (.loop (rec .ready none)) := by
    rw [← hW1]; have := World.alloc_heap_new (w.alloc (.deferred (some []))) (.loop (rec .ready none)); rwa [World.size_alloc] at this
  have hD1 : W1.heap[w.heap.size]? = some (.deferred (some [])) := by
    rw [← hW1]; exact (Below.heap_alloc _ _ _ (by simp)).trans (World.alloc_heap_new w _)
  have hB1 : Below w.heap.size w W1 := by rw [← hW1]; exact ((Below.refl _ _).alloc (Nat.le_refl _) _).alloc (by simp) _
  have hsz2 : w.heap.size + 1 < W1.heap.size := (Array.getElem?_eq_some_iff.1 hL1).1
  obtain ⟨q1, q2⟩ := Res.beside hp.atq (Keep.none_of_below hB1) (fun _ e => e.elim)
  obtain ⟨r1, r2⟩ := Res.beside hp.atr (Keep.none_of_below hB1) (fun _ e => e.elim)
  obtain ⟨c1, c2⟩ := Res.beside hp.atc (Keep.none_of_below hB1) (fun _ e => e.elim)
  obtain ⟨qp, hqp⟩ : ∃ qp : Res (τ × Loop), qp = withRec q (w.heap.size + 1) w.heap.size := ⟨_, rfl⟩
  have qlt : ∀ k, q.ft W1 k → k < w.heap.size := fun k hk => q.lt hp.atq k ((q2 k).1 hk)
  have rlt : ∀ k, r.ft W1 k → k < w.heap.size := fun k hk => r.lt hp.atr k ((r2 k).1 hk)
  have clt : ∀ k, c.ft W1 k → k < w.heap.size := fun k hk => c.lt hp.atc k ((c2 k).1 hk)
  have hp1 : Pair qp r c W1 (t0, rec .ready none) s0 W1 := by
    subst hqp
    refine Pair.start ⟨q1, hL1, hD1, fun e => by have := qlt _ e; omega, fun e => by have := qlt _ e; omega⟩ r1 c1 (fun k hk hr => ?_) (fun k hk hq => ?_) (fun k hk hr => hp.cr k ((c2 k).1 hk) ((r2 k).1 hr))
    · have := rlt k hr
      rcases hk with hk | rfl | rfl
      · exact hp.qr k ((q2 k).1 hk) ((r2 k).1 hr)
      · omega
      · omega
    · have := clt k hk
      rcases hq with hq | rfl | rfl
      · exact hp.cq k ((c2 k).1 hk) ((q2 k).1 hq)
      · omega
      · omega
  -- the user's pair, out of the pair with the book-keeping
  have down : ∀ {t : τ} {rc : Loop} {s : σ} {W : World}, Pair qp r c W1 (t, rc) s W → Pair q r c w t s W := by
    subst hqp
    intro t rc s W h
    refine ⟨h.atq.1, h.atr, h.atc, fun k hk => h.qr k (.inl hk), fun k hk e => h.cq k hk (.inl e), h.cr,
      ⟨h.keep.os.trans hB1.os, h.keep.tape.trans hB1.tape, h.keep.output.trans hB1.output, Nat.le_trans hB1.size h.keep.size, fun k hlt hf => ?_⟩, fun k hk => ?_, fun k hk => ?_⟩
    · refine (h.keep.block k (Nat.lt_of_lt_of_le hlt hB1.size) (fun e => ?_)).trans (hB1.block k hlt)
      rcases e with (e | rfl | rfl) | e
      · exact hf (.inl ((q2 k).1 e))
      · omega
      · omega
      · exact hf (.inr ((r2 k).1 e))
    · rcases h.qn k (.inl hk) with (e | rfl | rfl) | e
      · exact .inl ((q2 k).1 e)
      · exact .inr (by omega)
      · exact .inr (by omega)
      · exact .inr (Nat.le_trans hB1.size e)
    · rcases h.rn k hk with e | e
      · exact .inl ((r2 k).1 e)
      · exact .inr (Nat.le_trans hB1.size e)
  refine ⟨w.heap.size + 1, [{ target := .collected w.heap.size, args := #[] }], W1, { target := .fn (.func gf) lb, args := #[.func (.yield (w.heap.size + 1)) #[] #[]] }, W1, gf,
    #[.func (.yield (w.heap.size + 1)) #[] #[]] ++ lb, W1, ?_, ?_, fun _ _ => trivial, ?_, (fun _ => by omega), ?_⟩
  · rw [← hW1, hrec]; exact run_enterLoop_outer _ _ _ _ _
  · simp only [resolve, hg]
    simp [go_sem]
  · simp [invoke, go_sem, eg]
  · refine (hseq qp (n + 1 + 1 - 1) (w.heap.size + 1) (fun p t => I p t.1 ∧ t.2 = rec .ready none) (fun p t => ∃ cd, Ix cd p t.1 ∧ t.2 = rec .done (some cd)) (t0, rec .ready none) W1 hp1 ⟨h0, rfl⟩ ?_).mono ?_
    · rintro pre s x s' ⟨t, rc⟩ W ⟨hi, hrc⟩ hn hpW
      simp only at hi hrc
      subst hrc
      have hpD := down hpW
      have hqW : (withRec q (w.heap.size + 1) w.heap.size).R (t, rec .ready none) W := by rw [← hqp]; exact hpW.atq
      obtain ⟨hq, hl, hd, hql, hqd⟩ := hqW
      simp only at hq hl
      have hcl : ¬ c.ft W (w.heap.size + 1) := fun e => hpW.cq _ e (by rw [hqp]; exact .inr (.inl rfl))
      have hrl : ¬ r.ft W (w.heap.size + 1) := hpW.qr _ (by rw [hqp]; exact .inr (.inl rfl))
      have hlt : w.heap.size + 1 < W.heap.size := (Array.getElem?_eq_some_iff.1 hl).1
      have hy := run_yield (P := P) (args := encs x) hl (by rw [hrec]; exact hps x)
      rw [hrec] at hy
      refine ⟨fn, _, assign, body, hy, roundIn_of_wpIn hfn (wpIn_mono (hround _ pre s x s' t W hi hn hpD) ?_)⟩
      intro e0 a' Wa h0
      cases e0 <;> try exact (h0 : False).elim
      obtain ⟨hka, hb⟩ := h0
      have hla : Wa.heap[w.heap.size + 1]? = some (.loop (rec .ready none)) := (hka.block _ hlt (fun e => e)).trans hl
      have hda : Wa.heap[w.heap.size]? = some (.deferred (some [])) := (hka.block _ (by omega) (fun e => e)).trans hd
      have hlta : w.heap.size + 1 < Wa.heap.size := (Array.getElem?_eq_some_iff.1 hla).1
      refine ⟨_, run_beginRound hla (by rw [hrec]), ?_⟩
      obtain ⟨W2, hW2⟩ : ∃ W2, W2 = Wa.putObj (w.heap.size + 1) (.loop { rec .ready none with state := .busy }) := ⟨_, rfl⟩
      have hl2 : W2.heap[w.heap.size + 1]? = some (.loop { rec .ready none with state := .busy }) := by rw [hW2]; exact World.putObj_heap_same hlta
      have o2 : ∀ k, k ≠ w.heap.size + 1 → W2.heap[k]? = Wa.heap[k]? := fun k hk => by rw [hW2]; exact World.putObj_heap_other hk
      have hk2 : Keep (fun k => k = w.heap.size + 1) W W2 := by
        rw [hW2]
        exact ⟨hka.os, hka.tape, hka.output, by simpa using hka.size, fun k hk hf => (World.putObj_heap_other hf).trans (hka.block k hk (fun e => e))⟩
      obtain ⟨a1, a2⟩ := Res.beside hq hk2 (fun k hk => hk ▸ hql)
      obtain ⟨b1, b2⟩ := Res.beside hpD.atr hk2 (fun k hk => hk ▸ hrl)
      obtain ⟨d1, d2⟩ := Res.beside hpD.atc hk2 (fun k hk => hk ▸ hcl)
      have hp2 : Pair q r c w t s' W2 := ⟨a1, b1, d1, fun k hk hr => hpD.qr k ((a2 k).1 hk) ((b2 k).1 hr), fun k hk hq => hpD.cq k ((d2 k).1 hk) ((a2 k).1 hq), fun k hk hr => hpD.cr k ((d2 k).1 hk) ((b2 k).1 hr),
        ⟨hk2.os.trans hpD.keep.os, hk2.tape.trans hpD.keep.tape, hk2.output.trans hpD.keep.output, Nat.le_trans hpD.keep.size hk2.size, fun k hk hf => (hk2.block k (Nat.lt_of_lt_of_le hk hpD.keep.size) (by omega)).trans (hpD.keep.block k hk hf)⟩,
        fun k hk => hpD.qn k ((a2 k).1 hk), fun k hk => hpD.rn k ((b2 k).1 hk)⟩
      rw [← hW2]
      refine wpIn_mono (hb W2 ⟨_, _, _, hla, rfl, hW2⟩ hp2) ?_
      have fin : ∀ (jump : Option Code) (t' : τ) (W3 : World), q.StepsN W.heap.size t' W2 W3 →
          (Instr.endRound (w.heap.size + 1) jump).run P W3 = .ok (.bool jump.isNone) (W3.putObj (w.heap.size + 1) (.loop (rec (if jump.isNone then .ready else .done) jump))) ∧
          qp.Steps (t', rec (if jump.isNone then .ready else .done) jump) W (W3.putObj (w.heap.size + 1) (.loop (rec (if jump.isNone then .ready else .done) jump))) := fun jump t' W3 hs => by
        have nl := hs.out hlt (fun e => hql ((a2 _).1 e))
        have nd := hs.out (k := w.heap.size) (by omega) (fun e => hqd ((a2 _).1 e))
        have hl3 := nl.1.trans hl2
        have hd3 : W3.heap[w.heap.size]? = some (.deferred (some [])) := nd.1.trans ((o2 _ (by omega)).trans hda)
        have hrun := run_endRound (P := P) jump hl3
        rw [hrec] at hrun ⊢
        refine ⟨hrun, ?_⟩
        obtain ⟨rc', hrc'⟩ : ∃ rc' : Loop, rc' = (fun st pe => ({ state := st, pending := pe, fn, tmps := a.tmps, params := ps, assign, body, defers := w.heap.size } : Loop)) (if jump.isNone then .ready else .done) jump := ⟨_, rfl⟩
        rw [← hrc']
        have hk4 : Keep (fun k => k = w.heap.size + 1) W3 (W3.putObj (w.heap.size + 1) (.loop rc')) := ⟨rfl, rfl, rfl, by simp, fun k _ hf => World.putObj_heap_other hf⟩
        obtain ⟨e1, e2⟩ := Res.beside hs.at_ hk4 (fun k hk => hk ▸ nl.2)
        subst hqp
        refine ⟨⟨e1, World.putObj_heap_same (Array.getElem?_eq_some_iff.1 hl3).1, (World.putObj_heap_other (by omega)).trans hd3, fun e => nl.2 ((e2 _).1 e), fun e => nd.2 ((e2 _).1 e)⟩,
          hs.os.trans hk2.os, hs.tape.trans hk2.tape, hs.output.trans hk2.output, Nat.le_trans hk2.size (Nat.le_trans hs.size hk4.size), fun k hk hf => ?_, fun k hk => ?_⟩
        · have n1 : k ≠ w.heap.size + 1 := fun e => hf (.inr (.inl e))
          exact (World.putObj_heap_other n1).trans ((hs.block k hk (fun e => hf (.inl ((a2 k).1 e)))).trans (hk2.block k hk n1))
        · rcases hk with hk | hk
          · rcases hs.ft k ((e2 k).1 hk) with h3 | h3
            · exact .inl (.inl ((a2 k).1 h3))
            · exact .inr h3
          · exact .inl (.inr hk)
      rintro e a3 W3 hp3
      cases e with
      | normal =>
        obtain ⟨t', hs, hi3⟩ := hp3
        obtain ⟨hr, hst⟩ := fin none t' W3 hs
        exact ⟨_, _, hr, _, hst, .inl ⟨rfl, hi3, rfl⟩⟩
      | ret =>
        obtain ⟨t', hs, hi3⟩ := hp3
        obtain ⟨hr, hst⟩ := fin (some .ret) t' W3 hs
        exact ⟨_, _, hr, _, hst, .inr ⟨rfl, _, hi3, rfl⟩⟩
      | exit id =>
        obtain ⟨t', hs, hi3⟩ := hp3
        obtain ⟨hr, hst⟩ := fin (some (.exit id)) t' W3 hs
        exact ⟨_, _, hr, _, hst, .inr ⟨rfl, _, hi3, rfl⟩⟩
      | goto k =>
        obtain ⟨t', hs, hi3⟩ := hp3
        obtain ⟨hr, hst⟩ := fin (some (.goto k)) t' W3 hs
        exact ⟨_, _, hr, _, hst, .inr ⟨rfl, _, hi3, rfl⟩⟩
      | panic ch => exact hp3.elim
      | outgrown => exact hp3.elim
    · rintro e W2 ⟨⟨v, rfl⟩, pre, s', ⟨t', rc⟩, hpW, hcase⟩
      have hpD := down hpW
      have hqW : (withRec q (w.heap.size + 1) w.heap.size).R (t', rc) W2 := by rw [← hqp]; exact hpW.atq
      obtain ⟨hq, hl, hd, hql, hqd⟩ := hqW
      simp only at hq hl
      have put : ∀ (W3 : World) (k0 : Nat) (o : Obj), Pair q r c w t' s' W3 → ¬ q.ft W3 k0 → ¬ r.ft W3 k0 → ¬ c.ft W3 k0 → w.heap.size ≤ k0 → Pair q r c w t' s' (W3.putObj k0 o) ∧ (∀ k, ¬ q.ft W3 k → ¬ q.ft (W3.putObj k0 o) k) ∧ (∀ k, ¬ r.ft W3 k → ¬ r.ft (W3.putObj k0 o) k) ∧ (∀ k, ¬ c.ft W3 k → ¬ c.ft (W3.putObj k0 o) k) := fun W3 k0 o hpD hq0 hr0 hc0 hk0 => by
        have hk4 : Keep (fun k => k = k0) W3 (W3.putObj k0 o) := ⟨rfl, rfl, rfl, by simp, fun k _ hf => World.putObj_heap_other hf⟩
        obtain ⟨a1, a2⟩ := Res.beside hpD.atq hk4 (fun k hk => hk ▸ hq0)
        obtain ⟨b1, b2⟩ := Res.beside hpD.atr hk4 (fun k hk => hk ▸ hr0)
        obtain ⟨d1, d2⟩ := Res.beside hpD.atc hk4 (fun k hk => hk ▸ hc0)
        exact ⟨⟨a1, b1, d1, fun k hk hr => hpD.qr k ((a2 k).1 hk) ((b2 k).1 hr), fun k hk hq => hpD.cq k ((d2 k).1 hk) ((a2 k).1 hq), fun k hk hr => hpD.cr k ((d2 k).1 hk) ((b2 k).1 hr),
          ⟨hk4.os.trans hpD.keep.os, hk4.tape.trans hpD.keep.tape, hk4.output.trans hpD.keep.output, Nat.le_trans hpD.keep.size hk4.size, fun k hk hf => (hk4.block k (Nat.lt_of_lt_of_le hk hpD.keep.size) (by omega)).trans (hpD.keep.block k hk hf)⟩,
          fun k hk => hpD.qn k ((a2 k).1 hk), fun k hk => hpD.rn k ((b2 k).1 hk)⟩, fun k h e => h ((a2 k).1 e), fun k h e => h ((b2 k).1 e), fun k h e => h ((d2 k).1 e)⟩
      have hcl : ¬ c.ft W2 (w.heap.size + 1) := fun e => hpW.cq _ e (by rw [hqp]; exact .inr (.inl rfl))
      have hrl : ¬ r.ft W2 (w.heap.size + 1) := hpW.qr _ (by rw [hqp]; exact .inr (.inl rfl))
      have hcd : ¬ c.ft W2 w.heap.size := fun e => hpW.cq _ e (by rw [hqp]; exact .inr (.inr rfl))
      have hrd : ¬ r.ft W2 w.heap.size := hpW.qr _ (by rw [hqp]; exact .inr (.inr rfl))
      have fin : ∀ rc' : Loop, Pair q r c w t' s' (W2.putObj (w.heap.size + 1) (.loop rc')) ∧ (W2.putObj (w.heap.size + 1) (.loop rc')).heap[w.heap.size]? = some (.deferred (some [])) ∧ ∀ o : Obj, Pair q r c w t' s' ((W2.putObj (w.heap.size + 1) (.loop rc')).putObj w.heap.size o) := fun rc' => by
        obtain ⟨p1, p2, p3, p4⟩ := put W2 (w.heap.size + 1) (.loop rc') hpD hql hrl hcl (by omega)
        exact ⟨p1, (World.putObj_heap_other (by omega)).trans hd, fun o => (put _ w.heap.size o p1 (p2 _ hqd) (p3 _ hrd) (p4 _ hcd) (Nat.le_refl _)).1⟩
      rcases hcase with ⟨⟨hi, hrc⟩, hn⟩ | ⟨cd, hi, hrc⟩
      · simp only at hi hrc
        subst hrc
        exact ⟨none, _, by have := run_endLoop (P := P) hl (by rw [hrec]; simp); rw [hrec] at this; exact this, hdone _ pre s' t' _ (Nat.le_refl _) (fin _).1 hi hn (fin _).2.1 (fin _).2.2⟩
      · simp only at hi hrc
        subst hrc
        exact ⟨some cd, _, by have := run_endLoop (P := P) hl (by rw [hrec]; simp); rw [hrec] at this; exact this, wpIn_wide.2 (hstop _ cd pre s' t' _ (Nat.le_refl _) (fin _).1 hi (fin _).2.1 (fin _).2.2)⟩
end
end Go.Proofs.YthiaaapcbiameaaDoor
