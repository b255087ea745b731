/- Fair. -/
import Derived.Test.YtchmoalcjbolbaaK
import Derived.RecoverIn
namespace Go.Proofs.Ytchmoalcjbolbaa
open Go.RowKit Go.Shelf Go.Sort
attribute [local go_sem] Oper.semAt_some

theorem run_index71 (a b c d : Int) (w : World) : (Instr.index 71 (.agg #[.int .i64 a, .int .i64 b, .int .i64 c, .int .i64 d]) (.int .i64 0)).run Try.prog w = .ok (.int .i64 a) w := by
  kernel_rfl
attribute [local go_sem ↓] run_index71

theorem upd_last {o : Oper} {a : Act} {w : World} {l n b : Nat} {K : Act → World → Prop} {Q : Exit → Act → World → Prop} {m x v : Operand} {evs : List Ev} {e : Ev}
    (hop : o.op = Op.mapUpdate 66 m x v) (hm : a.eval m = .map (some b)) (hx : a.eval x = .int .i64 e.t) (hv : a.eval v = encC (countOf (cntOf evs e.t) e.at_ e.x.took e.t))
    (h : CM w b evs) (ht : W64 e.t) (hn : evs.length < maxLen) (hK : ∀ w', CM w' b (evs ++ [e]) → w.grownBy w' (some b) → K (a.put o.dst undef) w') :
    o.wpIn (Fence.wide.inRound l) n Try.prog a w K Q := by
  obtain ⟨w', hrun, h1, h2⟩ := h.put (e := e) ht hn
  unfold Oper.wpIn
  refine ⟨fun _ _ => trivial, ?_⟩
  rw [show (Fence.wide.inRound l).round = some l from rfl, Oper.semAt_some l a.eval o (by rw [hop]; intro c hc; cases hc)]
  simp [execOp, hop, hm, hx, hv, hrun, Result.andThen]
  exact hK w' h1 h2

def unfairB (w : Int) (evs : List Ev) : Prop := ∃ pre e rest, evs = pre ++ e :: rest ∧ w ≤ ((cntOf (pre ++ [e]) e.t).wt : Int)
open Classical in
noncomputable def fairOf (w : Int) (l : List Tn) : Bool := decide (1 ≤ w) && (badAt l).isNone && !decide (unfairB w (evK l l.length))

def Small (l : List Tn) : Prop := l.length ≤ 1000 ∧ ∀ x ∈ l, x.runs.length ≤ 1000
theorem evK_length {l : List Tn} (h : Small l) : ∀ k, k ≤ l.length → (evK l k).length ≤ k * 1000
  | 0, _ => by simp [evK]
  | k + 1, hk => by
    obtain ⟨x, hx⟩ : ∃ x, l[k]? = some x := ⟨_, List.getElem?_eq_getElem (by omega)⟩
    rw [evK_succ hx, List.length_append]
    have h1 := evK_length h k (by omega)
    have h2 := h.2 x (List.mem_of_getElem? hx)
    have h3 : (evAt k x x.runs).length = x.runs.length := by simp [evAt]
    omega
theorem goodTo_le (l : List Tn) : goodTo l ≤ l.length := by
  unfold goodTo
  cases hb : badAt l with
  | none => exact Nat.le_refl _
  | some k =>
    unfold badAt at hb
    rw [List.findIdx?_eq_some_iff_getElem] at hb
    obtain ⟨hlt, _⟩ := hb
    simp only
    omega
theorem Turns.wf {W : World} {v : Value} {l : List Tn} (h : Turns W v l) {i : Nat} {x : Tn} (hx : l[i]? = some x) : ∀ t ∈ x.runs, W64 t := by
  obtain ⟨A, c, rfl, _⟩ := h.form
  obtain ⟨b, o, B, m, d, _, _, _, q, _⟩ := h.at_ hx
  exact q.wf
theorem countOf_le {c : Cnt} {n at_ : Nat} {k t : Int} (h : c.wt ≤ n ∧ c.lg ≤ n ∧ c.wn ≤ n) : (countOf c at_ k t).wt ≤ n + 1 ∧ (countOf c at_ k t).lg ≤ n + 1 ∧ (countOf c at_ k t).wn ≤ n + 1 := by
  unfold countOf
  split
  · simp only; omega
  · split <;> simp only <;> omega
theorem cntOf_le (t : Int) : ∀ (evs : List Ev), (cntOf evs t).wt ≤ evs.length ∧ (cntOf evs t).lg ≤ evs.length ∧ (cntOf evs t).wn ≤ evs.length := by
  intro evs
  generalize hn : evs.length = n
  induction n generalizing evs with
  | zero => rw [List.eq_nil_of_length_eq_zero hn]; simp [cntOf, cnt0]
  | succ n ih =>
    obtain ⟨pre, e, rfl⟩ : ∃ pre e, evs = pre ++ [e] := ⟨evs.dropLast, evs.getLast (by intro h; rw [h] at hn; simp at hn), (List.dropLast_concat_getLast _).symm⟩
    have h := ih pre (by simpa using hn)
    rw [cntOf_snoc]
    split
    · exact countOf_le h
    · omega
theorem CM.grown {W : World} {b : Nat} {evs : List Ev} (h : CM W b evs) (n : Nat) (os : Array Obj) : CM (grow (W.drewN n) os) b evs := by
  have hlt := h.lt
  refine h.keep ?_
  show (W.heap ++ os)[b]? = W.heap[b]?
  rw [Array.getElem?_append_left hlt]
theorem Blk.grown {W : World} {g : Nat} {t : TypeId} {cs : Array Value} (h : Blk W g t cs) (n : Nat) (os : Array Obj) : Blk (grow (W.drewN n) os) g t cs := by
  refine h.keep ?_
  show (W.heap ++ os)[g]? = W.heap[g]?
  rw [Array.getElem?_append_left h.lt]
theorem Below.grown {n : Nat} {w W : World} (h : RowKit.Below n w W) (hn : n ≤ w.heap.size) (m : Nat) (os : Array Obj) : RowKit.Below n w (grow (W.drewN m) os) :=
  ⟨h.os, h.tape, h.output, by show w.heap.size ≤ (W.heap ++ os).size; have := h.size; simp; omega, fun k hk => by
    show (W.heap ++ os)[k]? = _
    rw [Array.getElem?_append_left (by have := h.size; omega)]
    exact h.block k hk⟩
theorem Since.grown {B : Nat} {X W : World} (h : Since B X W) (m : Nat) (os : Array Obj) : Since B X (grow (W.drewN m) os) :=
  h.trans ⟨by show W.heap.size ≤ (W.heap ++ os).size; simp, fun k _ hk => by show (W.heap ++ os)[k]? = _; rw [Array.getElem?_append_left hk]⟩
theorem Since.grownBy {B b : Nat} {X W W' : World} (h : Since B X W) (hg : W.grownBy W' (some b)) (hb : b < B) : Since B X W' :=
  h.trans ⟨hg.size, fun k h1 h2 => hg.block k h2 (by intro e; injection e with e; omega)⟩

structure FI (w0 : World) (wd : Int) (f : Bool) (v : Value) (W : World) : Prop where
  b0 : Blk W w0.heap.size 3 #[.int .i64 wd]
  b1 : Blk W (w0.heap.size + 1) 4 #[.bool f]
  b3 : Blk W (w0.heap.size + 3) 66 #[.map (some (w0.heap.size + 2))]
  b4 : Blk W (w0.heap.size + 4) 33 #[v]
  bl : RowKit.Below w0.heap.size w0 W
theorem FI.keepB {w0 : World} {wd : Int} {f : Bool} {v : Value} {W W' : World} {B : Nat} (h : FI w0 wd f v W) (hk : Keep (fun k => B ≤ k) W W') (hB : w0.heap.size + 5 ≤ B) : FI w0 wd f v W' :=
  ⟨h.b0.keepB hk (by omega), h.b1.keepB hk (by omega), h.b3.keepB hk (by omega), h.b4.keepB hk (by omega), Below.keepB h.bl hk (by omega) (Nat.le_refl _)⟩
theorem FI.alloc {w0 : World} {wd : Int} {f : Bool} {v : Value} {W : World} (h : FI w0 wd f v W) (o : Obj) : FI w0 wd f v (W.alloc o) :=
  ⟨h.b0.alloc _, h.b1.alloc _, h.b3.alloc _, h.b4.alloc _, h.bl.alloc h.bl.size _⟩
theorem FI.grown {w0 : World} {wd : Int} {f : Bool} {v : Value} {W : World} (h : FI w0 wd f v W) (n : Nat) (os : Array Obj) : FI w0 wd f v (grow (W.drewN n) os) :=
  ⟨h.b0.grown _ _, h.b1.grown _ _, h.b3.grown _ _, h.b4.grown _ _, Below.grown h.bl (Nat.le_refl _) _ _⟩
theorem FI.grownBy {w0 : World} {wd : Int} {f : Bool} {v : Value} {W W' : World} (h : FI w0 wd f v W) (hg : W.grownBy W' (some (w0.heap.size + 2))) : FI w0 wd f v W' :=
  ⟨h.b0.keep (hg.block _ h.b0.lt (by simp)), h.b1.keep (hg.block _ h.b1.lt (by simp)), h.b3.keep (hg.block _ h.b3.lt (by simp)), h.b4.keep (hg.block _ h.b4.lt (by simp)),
    ⟨hg.os.trans h.bl.os, hg.tape.trans h.bl.tape, hg.output.trans h.bl.output, Nat.le_trans h.bl.size hg.size, fun k hk => (hg.block k (by have := h.bl.size; omega) (by intro e; injection e with e; omega)).trans (h.bl.block k hk)⟩⟩
theorem FI.set {w0 : World} {wd : Int} {f : Bool} {v : Value} {W : World} (h : FI w0 wd f v W) (g : Bool) : FI w0 wd g v (W.setCell ⟨w0.heap.size + 1, 0, none⟩ (.bool g)) :=
  ⟨h.b0.far (by simp) _, by simpa using h.b1.set 0 (.bool g), h.b3.far (by simp) _, h.b4.far (by simp) _, h.bl.setCell (by simp) _⟩
theorem grown_count {f : FuncId} {args : Array Value} {W : World} {n : Nat} {os : Array Obj} {v : Value} (h : Calls Try.prog f args (grow (W.drewN n) os) fun e w' => e = .returned v ∧ ∃ os', w' = grow (grow (W.drewN n) os) os') :
    Calls Try.prog f args (grow (W.drewN n) os) fun e w'' => e = .returned v ∧ ∃ p : GrownBy, w'' = grow (W.drewN p.n) p.os :=
  h.mono fun _ _ ⟨he, os', hw⟩ => ⟨he, ⟨n, os ++ os'⟩, by rw [hw, grow_grow]⟩
def FineE (wd : Int) (evs : List Ev) : Prop := ¬ unfairB wd evs

theorem FI.shut {w0 : World} {wd : Int} {f : Bool} {v : Value} {W : World} {D : Nat} (h : FI w0 wd f v W) (hD : w0.heap.size + 5 ≤ D) (hdef : W.heap[D]? = some (.deferred (some []))) :
    (W.putObj D (.deferred none)).cell? ⟨w0.heap.size + 1, 0, none⟩ = some (.bool f) ∧ RowKit.Below w0.heap.size w0 (W.putObj D (.deferred none)) := by
  have hb := h.b1.keep (w' := W.putObj D (.deferred none)) (World.putObj_heap_other (by omega))
  refine ⟨by simpa using hb.cell 0, h.bl.trans (belowK_b (w := w0) (Nat.le_refl _) _ _ _ _ (by omega) hdef rfl rfl)⟩
theorem fine_next {wd : Int} {pre : List Ev} {e : Ev} (h : FineE wd pre) (hn : ¬ wd ≤ ((cntOf (pre ++ [e]) e.t).wt : Int)) : FineE wd (pre ++ [e]) := by
  rintro ⟨p, x, r, hx, hw⟩
  rcases List.eq_nil_or_concat r with rfl | ⟨r', y, rfl⟩
  · have := List.append_inj' hx rfl
    obtain ⟨rfl, h2⟩ := this
    simp at h2
    subst h2
    exact hn hw
  · rw [List.concat_eq_append, ← List.cons_append, ← List.append_assoc] at hx
    have := List.append_inj' hx rfl
    exact h ⟨p, x, r', this.1, hw⟩

/-- A deferred closure that recovers, with calls of its own, at the fence that asks nothing. -/
theorem callsDIn_wide_of {n : Nat} {P : Program} {g : FuncId} {fn : Func} {body : Code} {xs : Array Value} {u : FrameMode} {w : World} {R : Ending → FrameMode → World → Prop}
    (hg : P.funcs[g]? = some fn) (hb : fn.body = some body)
    (h : ∀ (below : Frame) (older : List Frame), below.mode = u → body.wpS P (bodyPostS P fn below older R) { tmps := xs ++ Array.replicate (fn.ntmps - xs.size) undef, defers := [] } (below :: older) w) :
    CallsDIn Fence.wide n P g xs u w R := by
  refine ⟨trivial, fun below older hu _ => ?_⟩
  have hin : Frame.enter P g xs .deferred = ({ (default : Frame) with fn := g, kind := .deferred } : Frame).at { tmps := xs ++ Array.replicate (fn.ntmps - xs.size) undef, defers := [] } [.code body] := by
    simp [Frame.enter, Frame.at, hg, hb]
  obtain ⟨e, a1, fs, w1, hpost, harr⟩ := h below older hu { (default : Frame) with fn := g, kind := .deferred } [] rfl rfl
  rw [← hin] at harr
  cases e with
  | exit _ => exact hpost.elim
  | goto _ => exact hpost.elim
  | outgrown =>
    obtain ⟨u1, hR⟩ := hpost
    exact ⟨.outgrown, u1, w1, { (default : Frame) with fn := g, kind := .deferred }, hR, comesIn_wide.2 (harr.resolve_left (by simp)), rfl, rfl, trivial⟩
  | normal =>
    obtain ⟨hd, u1, rfl, v, hr, hR⟩ := hpost
    exact ⟨.returned v, u1, w1, _, hR, comesIn_wide.2 (Steps.trans harr (.one step_end)), rfl, rfl, rfl, hd, fn, hg, hr⟩
  | ret =>
    obtain ⟨hd, u1, rfl, v, hr, hR⟩ := hpost
    obtain ⟨todo, hs⟩ := harr
    exact ⟨.returned v, u1, w1, _, hR, comesIn_wide.2 hs, rfl, rfl, rfl, hd, fn, hg, hr⟩
  | panic chain =>
    obtain ⟨hd, u1, rfl, hR⟩ := hpost
    obtain ⟨todo, hs⟩ := harr
    exact ⟨.panicked chain, u1, w1, _, hR, comesIn_wide.2 hs, rfl, rfl, rfl, hd, fn, hg⟩

set_option maxRecDepth 100000 in
set_option maxHeartbeats 1600000 in
theorem catch35_panicking (n p : Nat) (x : Value) (k : Int) (older : List PanicEntry) (w : World) (hp : w.cell? ⟨p, 0, none⟩ = some x) (fp : w.frozen? ⟨p, 0, none⟩ = false) :
    CallsDIn Fence.wide n Try.prog 35 #[.pointer (some ⟨p, 0, none⟩)] (.panicking ({ v := .iface 77 (.int .i64 k), recovered := false } :: older)) w fun e u' w' =>
      e = .returned (.tuple #[]) ∧ u' = .panicking ({ v := .iface 77 (.int .i64 k), recovered := true } :: older) ∧ w' = w.setCell ⟨p, 0, none⟩ (.bool false) := by
  refine callsDIn_wide_of Try.func35 rfl fun c₀ cs hu => ?_
  apply wpS_seq
  apply wpS_region
  simp [wpOpsS, go_sem, recoverD, hu, Try.ntmps35, Exit.thenS]
  refine (raisedAt_at k w).mono ?_
  rintro e w' ⟨rfl, rfl⟩
  simp [go_sem]
  apply wpS_seq
  apply wpS_region
  simp [wpOpsS, go_sem, Exit.thenS]
  refine wpS_cond (t := true) (by simp [Act.eval, Array.replicate]) ?_
  simp only [if_true]
  apply wpS_region
  simp [wpOpsS, go_sem, hp, fp, bodyPostS, results, Try.results35]

set_option maxRecDepth 100000 in
set_option maxHeartbeats 1600000 in
theorem catch35_idle (n p : Nat) (w : World) :
    CallsDIn Fence.wide n Try.prog 35 #[.pointer (some ⟨p, 0, none⟩)] .returning w fun e u' w' =>
      e = .returned (.tuple #[]) ∧ u' = .returning ∧ w' = w := by
  refine callsDIn_wide_of Try.func35 rfl fun c₀ cs hu => ?_
  apply wpS_seq
  apply wpS_region
  simp [wpOpsS, go_sem, recoverD, hu, Try.ntmps35, Exit.thenS]
  refine (raisedAt_nil w).mono ?_
  rintro e w' ⟨rfl, rfl⟩
  simp [go_sem]
  apply wpS_seq
  apply wpS_region
  simp [wpOpsS, go_sem, Exit.thenS]
  refine wpS_cond (t := false) (by simp [Act.eval, Array.replicate]) ?_
  simp only [Bool.false_eq_true, if_false]
  refine wpS_of_wp (wp_skip ?_)
  cases c₀
  simp_all [bodyPostS, results, Try.results35]

theorem since_all (B : Nat) (W : World) : Since B W W := Since.refl B W

set_option maxRecDepth 100000 in
set_option maxHeartbeats 3200000 in
theorem Fair_ok (wd : Int) (v : Value) (l : List Tn) (w : World) (hl : Turns w v l) (hsm : Small l) (hw1 : 1 ≤ wd) : Calls Try.prog 18 #[.int .i64 wd, v] w fun e w' =>
    e = .returned (.bool (fairOf wd l)) ∧ RowKit.Below w.heap.size w w' := by
  obtain ⟨A, c, rfl, hc1, hc2⟩ := hl.form
  have hle := hsm.1
  have hmf : ∀ (fn : Fn) (first cap : Array Value) (w : World), (Instr.makeFunc fn first cap).run Try.prog w = .ok (.func fn first cap) w := fun _ _ _ _ => rfl
  have hmm := @run_makeMap Try.prog
  refine calls_of_wp_marks 5 Try.func18 rfl ?_
  simp only [Try.ntmps18, List.size_toArray, List.length_cons, List.length_nil, Nat.reduceAdd, Nat.reduceSub, Array.replicate_succ, Array.replicate_zero, List.push_toArray, List.append_toArray, List.nil_append, List.cons_append]
  go_wp2_with fail
  go_step3
  have hw1' : ¬ wd < 1 := by omega
  go_wp2_with fail
  go_step3
  go_wp2_with (go_at_call 36; refine (threads_any _ _ _ _).mono ?_; rintro e w' ⟨rfl, rfl⟩)
  obtain ⟨W0, hW0⟩ : ∃ W0, ((((w.alloc (.cells #[.int .i64 wd] 3)).alloc (.cells #[.bool true] 4)).alloc (.map #[] 0)).alloc (.cells #[.map (some (w.heap.size + 1 + 1))] 66)).alloc (.cells #[.slice A l.length c] 33) = W0 := ⟨_, rfl⟩
  have hsz : W0.heap.size = w.heap.size + 5 := by rw [← hW0]; simp
  have hfi : FI w wd true (.slice A l.length c) W0 := by
    rw [← hW0]
    refine ⟨((((Blk.new w _ _).alloc _).alloc _).alloc _).alloc _, ?_, ?_, ?_, ?_⟩
    · have := (((Blk.new (w.alloc (.cells #[.int .i64 wd] 3)) 4 #[.bool true]).alloc (.map #[] 0)).alloc (.cells #[.map (some (w.heap.size + 1 + 1))] 66)).alloc (.cells #[.slice A l.length c] 33)
      rwa [World.size_alloc] at this
    · have := (Blk.new (((w.alloc (.cells #[.int .i64 wd] 3)).alloc (.cells #[.bool true] 4)).alloc (.map #[] 0)) 66 #[.map (some (w.heap.size + 1 + 1))]).alloc (.cells #[.slice A l.length c] 33)
      rwa [World.size_alloc, World.size_alloc, World.size_alloc] at this
    · have := Blk.new ((((w.alloc (.cells #[.int .i64 wd] 3)).alloc (.cells #[.bool true] 4)).alloc (.map #[] 0)).alloc (.cells #[.map (some (w.heap.size + 1 + 1))] 66)) 33 #[.slice A l.length c]
      rwa [World.size_alloc, World.size_alloc, World.size_alloc, World.size_alloc] at this
    · exact (((((RowKit.Below.refl _ w).alloc (Nat.le_refl _) _).alloc (by simp) _).alloc (by simp; omega) _).alloc (by simp; omega) _).alloc (by simp; omega) _
  have hcm : CM W0 (w.heap.size + 2) [] := by
    rw [← hW0]
    have h0 := CM.made ((w.alloc (.cells #[.int .i64 wd] 3)).alloc (.cells #[.bool true] 4))
    have h1 := h0.keep (W' := ((((w.alloc (.cells #[.int .i64 wd] 3)).alloc (.cells #[.bool true] 4)).alloc (.map #[] 0)).alloc (.cells #[.map (some (w.heap.size + 1 + 1))] 66)).alloc (.cells #[.slice A l.length c] 33)) (by
      rw [Below.heap_alloc _ _ _ (by simp), Below.heap_alloc _ _ _ (by simp)])
    rwa [World.size_alloc, World.size_alloc] at h1
  rw [hW0]
  clear hW0
  refine wp_rangeE 4 rfl (enters_of Try.func46 (by kernel_rfl) rfl) (threads1_seqs l w (w.heap.size + 4) (.slice A l.length c) hl hle (by omega)) (by rintro x xa ⟨B, d, X, m, c', rfl⟩; rfl)
    (fun evs W => FI w wd true (.slice A l.length c) W ∧ CM W (w.heap.size + 2) evs ∧ FineE wd evs)
    (fun cd evs W => FI w wd false (.slice A l.length c) W ∧ cd = .exit 0 ∧ unfairB wd evs)
    (fun s X Y hs hk => ⟨hs.1.keepB hk (by omega), hs.2.1.keep (hk.block _ hs.2.1.lt (by omega)), hs.2.2⟩)
    (fun cd s X Y hs hk => ⟨hs.1.keepB hk (by omega), hs.2⟩)
    (fun pre W' hi => ⟨hi.1.b4, hi.1.bl⟩) ⟨hfi, hcm, by rintro ⟨pre, e, rest, h, _⟩; simp at h⟩
    ?round ?done ?panic ?stop
  case round =>
    rintro lp pre e rest W1 xa hszW hx ⟨hfi1, hcm1, hfe⟩ ⟨B, d, X, m, c', rfl⟩
    gi_wp2
    refine ⟨(Since.refl _ _).alloc _, ⟨hfi1.alloc _, hcm1.keep (Below.heap_alloc _ _ _ hcm1.lt), hfe⟩, ?_⟩
    rintro W2 ht ⟨hfi2, hcm2, _⟩
    have hbx := (Blk.new W1 63 #[.slice B e.x.runs.length d, .int .i64 e.x.took, .int .i64 (e.at_ : Int), .slice X m c']).keep (ht.at_ (Blk.new W1 _ _) rfl)
    have hmem : e ∈ evK l (goodTo l) := by rw [hx]; simp
    have hem := evK_mem hmem
    have hwt : W64 e.t := hl.wf hem.2.1 e.t hem.2.2
    have hat : e.at_ ≤ 1000000 := by have := goodTo_le l; have := hem.1; omega
    have hplen : pre.length + 1 ≤ 1000000 := by
      have h1 := congrArg List.length hx
      have h2 := evK_length hsm (goodTo l) (goodTo_le l)
      have h3 := goodTo_le l
      rw [List.length_append, List.length_cons] at h1
      omega
    have hcl := cntOf_le e.t pre
    have hcount := Lib.hid (fun n os => (count_ok (cntOf pre e.t) (.slice B e.x.runs.length d) e.x.took e.at_ (.slice X m c') e.t (grow (W2.drewN n) os) ⟨by omega, by omega, by omega, hat⟩))
    have hlook := fun n os => (hcm2.grown n os).look hwt
    have hb3 := fun n os => ((hfi2.b3).grown n os).cell 0
    have hx0 := fun n os => (hbx.grown n os).cell 0
    have hx1 := fun n os => (hbx.grown n os).cell 1
    have hx2 := fun n os => (hbx.grown n os).cell 2
    have hx3 := fun n os => (hbx.grown n os).cell 3
    simp at hb3 hx0 hx1 hx2 hx3
    have Hx := Lib.hid hx
    have Hfe := Lib.hid hfe
    have Hcm := Lib.hid hcm2
    have Hfi := Lib.hid hfi2
    have Hsz : W1.heap.size + 1 = W2.heap.size := by rw [ht.size]; simp
    clear ht hx hfe hmem hem hcm1 hfi1 hcm2 hfi2 hbx hcl hfi hcm
    gi_wp2
    refine wpIn_region_last9 (fun w' => ∃ p : GrownBy, w' = grow (W2.drewN p.n) p.os) (by kernel_rfl) (by kernel_rfl) (by kernel_rfl) (by kernel_rfl) rfl rfl ⟨⟨1, #[]⟩, by rw [grow_empty]; rfl⟩ ?_
    simp only [Oper.idle]
    repeat (quiet_step ((go_at_call 37; exact grown_count (hcount.out _ _))))
    refine wpQuiet_nil ?_
    rintro _ ⟨⟨nq, osq⟩, rfl⟩
    refine upd_last rfl rfl rfl rfl (Hcm.out.grown nq osq) hwt (by unfold maxLen; omega) (fun w3 hcm3 hg3 => ?_)
    have hfi3 := (Hfi.out.grown nq osq).grownBy hg3
    have hlk := hcm3.look hwt
    unfold encC at hlk
    have hsin : Since W0.heap.size W2 w3 := ((Since.refl _ W2).grown nq osq).grownBy hg3 (by omega)
    have y0 := hfi3.b0.cell 0
    have y1 := hfi3.b1.cell 0
    have y3 := hfi3.b3.cell 0
    have g1 := hfi3.b1.frozen 0
    simp at y0 y1 y3
    have Hc3 := Lib.hid hcm3
    have Hf3 := Lib.hid hfi3
    have Hs3 := Lib.hid hsin
    clear hcm3 hfi3 hsin hg3 hb3 hx0 hx1 hx2 hx3 hlook hcount
    by_cases hge : wd ≤ ((cntOf (pre ++ [e]) e.t).wt : Int)
    · have hun : unfairB wd (pre ++ [e]) := ⟨pre, e, [], by simp, hge⟩
      have Hun := Lib.hid hun
      clear hun
      gi_wp2
      exact ⟨by first | exact Hs3.out.setCell (by simp; omega) _ | (rw [← hsz]; exact Hs3.out.setCell (by simp; omega) _), Hf3.out.set false, rfl, Hun.out⟩
    · have hfn : FineE wd (pre ++ [e]) := fine_next Hfe.out hge
      have Hfn := Lib.hid hfn
      clear hfn
      gi_wp2
      exact ⟨by first | exact Hs3.out | (rw [← hsz]; exact Hs3.out), Hf3.out, Hc3.out, Hfn.out⟩
  case done =>
    rintro D W1 hbad hD ⟨hfi1, hcm1, hfe1⟩ hdef
    have y1 := hfi1.b1.cell 0
    have g1 := hfi1.b1.frozen 0
    simp at y1
    have hE : fairOf wd l = true := by
      unfold fairOf
      have hbn : badAt l = none := by
        unfold badOf at hbad
        cases hb : badAt l with
        | none => rfl
        | some k => rw [hb] at hbad; simp at hbad
      have hg : goodTo l = l.length := by unfold goodTo; rw [hbn]
      rw [hg] at hfe1
      rw [hbn]
      simp [hw1]
      exact hfe1
    have HE := Lib.hid hE
    clear hE hfe1
    go_wp2
    try rw [Exit.noGoto_ret]
    have hdef' : (W1.setCell ⟨w.heap.size + 1, 0, none⟩ (.bool true)).heap[D]? = some (.deferred (some [])) := (Below.heap_setCell _ _ _ _ (by simp; omega)).trans hdef
    obtain ⟨q1, q2⟩ := (hfi1.set true).shut (D := D) (by omega) hdef'
    refine ⟨by simp, .inl ⟨_, _, rfl, run_takeDeferred hdef', ?_⟩⟩
    refine ⟨by simp, .inr ⟨(fun h => by cases h), _, _, 35, #[.pointer (some ⟨w.heap.size + 1, 0, none⟩)], rfl, by simp [go_sem], fun _ _ => trivial, ?_⟩⟩
    refine (catch35_idle _ _ _).mono ?_
    rintro e u' w'' ⟨rfl, rfl, rfl⟩
    simp [LeavesInM, LeavesIn, settle, results, Try.results18, go_sem, q1]
    exact ⟨HE.out, q2⟩
  case panic =>
    rintro D ch W1 hbad hD ⟨hfi1, hcm1, hfe1⟩ hdef
    obtain ⟨k, hk, rfl⟩ : ∃ k, badAt l = some k ∧ wrongAt (k : Int) = ch := by
      unfold badOf at hbad
      cases hb : badAt l with
      | none => rw [hb] at hbad; simp at hbad
      | some k => rw [hb] at hbad; simp at hbad; exact ⟨k, rfl, hbad⟩
    have hE : fairOf wd l = false := by
      unfold fairOf
      rw [hk]
      simp
    have HE := Lib.hid hE
    obtain ⟨q1, q2⟩ := hfi1.shut (D := D) (by omega) hdef
    have q3 : (W1.putObj D (.deferred none)).frozen? ⟨w.heap.size + 1, 0, none⟩ = false := by
      have := (hfi1.b1.keep (w' := W1.putObj D (.deferred none)) (World.putObj_heap_other (by omega)))
      exact this.frozen 0
    have q4 : RowKit.Below w.heap.size w ((W1.putObj D (.deferred none)).setCell ⟨w.heap.size + 1, 0, none⟩ (.bool false)) := q2.setCell (by simp) _
    refine ⟨by simp, .inl ⟨_, _, rfl, run_takeDeferred hdef, ?_⟩⟩
    refine ⟨by simp, .inr ⟨(fun h => by cases h), _, _, 35, #[.pointer (some ⟨w.heap.size + 1, 0, none⟩)], rfl, by simp [go_sem], fun _ _ => trivial, ?_⟩⟩
    refine (catch35_panicking _ _ _ (k : Int) [] _ q1 q3).mono ?_
    rintro e u' w'' ⟨rfl, rfl, rfl⟩
    simp [LeavesInM, LeavesIn, settle, results, Try.results18, go_sem, q1]
    exact ⟨HE.out, q4⟩
  case stop =>
    rintro D cd pre W1 hD hpre ⟨hfi1, rfl, hun⟩ hdef
    have y1 := hfi1.b1.cell 0
    have g1 := hfi1.b1.frozen 0
    simp at y1
    have hE : fairOf wd l = false := by
      unfold fairOf
      cases hb : badAt l with
      | some k => simp
      | none =>
        have hg : goodTo l = l.length := by unfold goodTo; rw [hb]
        rw [hg] at hpre
        obtain ⟨more, hmore⟩ := hpre
        obtain ⟨p, x, r, hp, hw⟩ := hun
        have : unfairB wd (evK l l.length) := ⟨p, x, r ++ more, by rw [← hmore, hp]; simp, hw⟩
        simp [this]
    have HE := Lib.hid hE
    clear hE hun
    go_wp2
    try rw [Exit.noGoto_ret]
    have hdef' : (W1.setCell ⟨w.heap.size + 1, 0, none⟩ (.bool false)).heap[D]? = some (.deferred (some [])) := (Below.heap_setCell _ _ _ _ (by simp; omega)).trans hdef
    obtain ⟨q1, q2⟩ := (hfi1.set false).shut (D := D) (by omega) hdef'
    refine ⟨by simp, .inl ⟨_, _, rfl, run_takeDeferred hdef', ?_⟩⟩
    refine ⟨by simp, .inr ⟨(fun h => by cases h), _, _, 35, #[.pointer (some ⟨w.heap.size + 1, 0, none⟩)], rfl, by simp [go_sem], fun _ _ => trivial, ?_⟩⟩
    refine (catch35_idle _ _ _).mono ?_
    rintro e u' w'' ⟨rfl, rfl, rfl⟩
    simp [LeavesInM, LeavesIn, settle, results, Try.results18, go_sem, q1]
    exact ⟨HE.out, q2⟩

set_option maxRecDepth 100000 in
set_option maxHeartbeats 1600000 in
theorem Fair_neg (wd : Int) (A : Option Addr) (n c : Nat) (w : World) (hw1 : wd < 1) : Calls Try.prog 18 #[.int .i64 wd, .slice A n c] w fun e w' =>
    e = .returned (.bool false) ∧ RowKit.Below w.heap.size w w' := by
  have hmf : ∀ (fn : Fn) (first cap : Array Value) (w : World), (Instr.makeFunc fn first cap).run Try.prog w = .ok (.func fn first cap) w := fun _ _ _ _ => rfl
  refine calls_of_wp_marks 5 Try.func18 rfl ?_
  simp only [Try.ntmps18, List.size_toArray, List.length_cons, List.length_nil, Nat.reduceAdd, Nat.reduceSub, Array.replicate_succ, Array.replicate_zero, List.push_toArray, List.append_toArray, List.nil_append, List.cons_append]
  go_wp2_with fail
  go_step3
  go_wp2_with fail
  try rw [Exit.noGoto_ret]
  refine ⟨by simp, .inr ⟨(fun h => by cases h), _, _, 35, #[.pointer (some ⟨w.heap.size + 1, 0, none⟩)], rfl, by simp [go_sem], fun _ _ => trivial, ?_⟩⟩
  refine (catch35_idle _ _ _).mono ?_
  rintro e u' w'' ⟨rfl, rfl, rfl⟩
  simp [LeavesInM, LeavesIn, settle, results, Try.results18, go_sem]
  exact ((RowKit.Below.refl _ w).alloc (Nat.le_refl _) _).alloc (by simp) _
end Go.Proofs.Ytchmoalcjbolbaa
