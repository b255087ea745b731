/- The chapter's rows: what they are made of. -/
import Derived.Test.YthiaaapcbiameaaDoorSd
namespace Go.Proofs.YthiaaapcbiameaaDoor
open Go.RowKit Go.Shelf
attribute [local go_sem] Oper.semAt_some

/-- A block whose cells are told by t. -/
def cellRes {τ : Type} (k : Nat) (ty : TypeId) (f : τ → Array Value) : Res τ where
  R s W := Blk W k ty (f s)
  ft _ i := i = k
  lt := by rintro s W h i rfl; exact h.lt
  loc := fun h hk => ⟨h.keep (hk _ rfl), fun _ => Iff.rfl⟩

theorem footA_cells {b k : Nat} {s : St} {w : World} (h : (arena b).R s w) (hk : footA b w k) : ∃ o : Obj, w.heap[k]? = some o ∧ o.isCells = true := by
  obtain ⟨vl, vc, h⟩ := h
  have row : ∀ {e size n : Nat} {v : Value} {xs : List Value}, Row w e size v n xs → v.ownBlock = some k → ∃ o : Obj, w.heap[k]? = some o ∧ o.isCells = true := fun h hk => by
    rcases h.2 with ⟨rfl, _⟩ | ⟨g, cap, cur, rfl, hb, _⟩
    · simp [Value.ownBlock] at hk
    · simp [Value.ownBlock] at hk
      subst hk
      exact ⟨_, hb, rfl⟩
  rcases hk.parts h.blk with rfl | hk | hk
  · exact ⟨_, h.blk, rfl⟩
  · exact row h.last hk
  · exact row h.cells hk
theorem footA_not {b k : Nat} {s : St} {w : World} {o : Obj} (h : (arena b).R s w) (ho : w.heap[k]? = some o) (hc : o.isCells = false) : ¬ footA b w k := fun hf => by
  obtain ⟨x, hx, hxc⟩ := footA_cells h hf
  rw [ho] at hx; cases hx; rw [hc] at hxc; cases hxc

/-- Since w0 only blocks from B on were written; the lock's arena b stands as s, in blocks from B on. -/
structure Wk (B b : Nat) (s : St) (w0 w : World) : Prop where
  lk : Lk b s w
  below : Below B w0 w
  low : ∀ k, footA b w k → B ≤ k
section
variable {B b : Nat} {s s' : St} {w0 w w' : World}
theorem Wk.step (h : Wk B b s w0 w) (hs : (arena b).Steps s' w w') (hB : B ≤ w.heap.size) : Wk B b s' w0 w' := by
  refine ⟨h.lk.step hs, h.below.trans (hs.keep.below h.low hB), Res.StepsN.low hs hB h.low⟩
theorem Wk.andBelow (h : Wk B b s w0 w) (hB : Below w.heap.size w w') (hBs : B ≤ w.heap.size) : Wk B b s w0 w' := h.step (Res.Steps.below h.lk.are hB) hBs
theorem Wk.pair (h : Wk B b s w0 w) (hBs : B ≤ w.heap.size) {τ σ : Type} {q : Res τ} {f : σ → St} {c : Res Unit} {t : τ} {x : σ} (hp : Pair q ((arena b).comap f) c w t x w') (hq : ∀ k, q.ft w k → B ≤ k) (hq0 : ¬ q.ft w 0) : Wk B b (f x) w0 w' := by
  obtain ⟨o, ho⟩ : ∃ o, w.heap[0]? = some o := ⟨_, Array.getElem?_eq_getElem h.lk.num.lt⟩
  obtain ⟨h1, h2, h3⟩ := hp.old ho hq0 h.lk.nf
  obtain ⟨b1, b2, b3⟩ := hp.toBelow hq h.low hBs
  exact ⟨⟨hp.atr, h.lk.num.keep (h1.trans ho.symm), h3⟩, h.below.trans b1, b3⟩

theorem New_lk (m : Nat) (w : World) (hn : Num w) (h1 : 1 ≤ m) (h2 : m ≤ 65536) :
    Calls Tryd.prog 8 #[.int .i64 m] w fun e w' => ∃ b, e = .returned (.tuple #[.pointer (some ⟨b, 0, none⟩), .int .i64 0]) ∧ Wk w.heap.size b ⟨m, [], []⟩ w w' :=
  (New_do m w h1 h2).mono fun _ _ ⟨b, he, hw⟩ => ⟨b, he, ⟨arena_of hw.are, hn.below hw.toBelow, fun hf => by have := hw.are.foot.2 _ hf; have := hn.lt; omega⟩, hw.toBelow, fun k hk => hw.are.foot.2 k hk⟩
end

/-- One lock: what its cell has, and how many accesses there were. -/
structure One (v : Int) (n : Nat) (s : St) : Prop where
  cs : s.cs = [v]
  hist : s.hist.length = n
theorem One.inSt {v : Int} {n : Nat} {s : St} (h : One v n s) : inSt s 0 = true := by simp [Go.Proofs.YthiaaapcbiameaaDoor.inSt, h.cs]
theorem One.at0 {v : Int} {n : Nat} {s : St} (h : One v n s) : s.at_ 0 = v := by simp [St.at_, h.cs]
theorem One.do_ {v : Int} {n : Nat} {s : St} (h : One v n s) (op x y : Int) : One (newOf op v x y) (n + 1) (doSt s op 0 x y).1 ∧ (doSt s op 0 x y).2.1.old = v ∧ (doSt s op 0 x y).2.1.did = didOf op v x ∧ (doSt s op 0 x y).2.2 = 0 := by
  have h0 : s.at_ (0 : Int).toNat = v := h.at0
  unfold doSt
  rw [if_pos h.inSt]
  refine ⟨⟨?_, ?_⟩, h0, ?_, rfl⟩
  · simp [St.step, h.cs, accOf, h.at0]
  · simp [St.step, h.hist]
  · simp [accOf, h.at0]

/-- The arena was stepped on. -/
def Moved (b : Nat) (w w' : World) : Prop := ∃ s', (arena b).Steps s' w w'
/-- A block that is none of the arena's. -/
structure Kp (b k : Nat) (o : Obj) (w : World) : Prop where
  at_ : w.heap[k]? = some o
  nf : ¬ footA b w k
section
variable {b k : Nat} {o : Obj} {w w' : World}
theorem Kp.moved (h : Kp b k o w) (hm : Moved b w w') : Kp b k o w' := by
  obtain ⟨s', hs⟩ := hm
  have := hs.out (Array.getElem?_eq_some_iff.1 h.at_).1 h.nf
  exact ⟨this.1.trans h.at_, this.2⟩
theorem Kp.pair (h : Kp b k o w) {τ σ : Type} {q : Res τ} {f : σ → St} {c : Res Unit} {t : τ} {x : σ} (hp : Pair q ((arena b).comap f) c w t x w') (hq : ¬ q.ft w k) : Kp b k o w' := by
  obtain ⟨h1, _, h3⟩ := hp.old h.at_ hq h.nf
  exact ⟨h1, h3⟩
theorem Kp.below {s : St} (h : Kp b k o w) (hr : (arena b).R s w) (hB : Below w.heap.size w w') : Kp b k o w' := h.moved ⟨s, Res.Steps.below hr hB⟩
theorem Kp.def_ {s : St} (hr : (arena b).R s w) (h : w.heap[k]? = some (.deferred (some []))) : Kp b k (.deferred (some [])) w := ⟨h, footA_not hr h rfl⟩
end

/-- The rows' arena, and their result's cell. -/
structure Wr (B b : Nat) (v : Int) (n : Nat) (w0 w : World) : Prop where
  ex : ∃ s, Wk B b s w0 w ∧ One v n s
  rb : Blk w B 4 #[.bool false]
  nf : ¬ footA b w B
section
variable {B b n : Nat} {v : Int} {w0 w w' : World}
theorem Wr.size (h : Wr B b v n w0 w) : B ≤ w.heap.size := Nat.le_of_lt h.rb.lt
theorem Wr.step (h : Wr B b v n w0 w) {s' : St} {v' : Int} {n' : Nat} (hs : (arena b).Steps s' w w') (h1 : One v' n' s') : Wr B b v' n' w0 w' := by
  obtain ⟨s, hk, _⟩ := h.ex
  have := hs.out h.rb.lt h.nf
  exact ⟨⟨s', hk.step hs h.size, h1⟩, h.rb.keep this.1, this.2⟩
theorem Wr.andBelow (h : Wr B b v n w0 w) (hB : Below w.heap.size w w') : Wr B b v n w0 w' := by
  obtain ⟨s, hk, h1⟩ := h.ex
  exact h.step (Res.Steps.below hk.lk.are hB) h1
theorem Wr.num (h : Wr B b v n w0 w) : Num w := by obtain ⟨s, hk, h1⟩ := h.ex; exact hk.lk.num
theorem Wr.toBelow (h : Wr B b v n w0 w) : Below B w0 w := by obtain ⟨s, hk, h1⟩ := h.ex; exact hk.below
theorem held_wr (h : Wr B b v n w0 w) (hn : n < 1000) : Calls Tryd.prog 18 #[.pointer (some ⟨b, 0, none⟩), .int .i64 0] w fun e w' => e = .returned (.tuple #[.bool (v != 0), .int .i64 0]) ∧ Wr B b v (n + 1) w0 w' ∧ Moved b w w' := by
  obtain ⟨s, hk, h1⟩ := h.ex
  obtain ⟨d1, d2, d3, d4⟩ := h1.do_ 1 0 0
  refine (spinHeld_ok 0 hk.lk (by rw [h1.hist]; omega)).mono ?_
  rintro e w1 ⟨rfl, hst⟩
  rw [d2, d4]
  exact ⟨rfl, h.step hst d1, _, hst⟩
theorem try_wr (h : Wr B b v n w0 w) (hn : n < 1000) : Calls Tryd.prog 14 #[.pointer (some ⟨b, 0, none⟩), .int .i64 0] w fun e w' => e = .returned (.tuple #[.bool (v == 0), .int .i64 0]) ∧ Wr B b (if (v == 0) = true then 1 else v) (n + 1) w0 w' ∧ Moved b w w' := by
  obtain ⟨s, hk, h1⟩ := h.ex
  obtain ⟨d1, d2, d3, d4⟩ := h1.do_ 3 0 1
  refine (spinTry_ok 0 hk.lk (by rw [h1.hist]; omega)).mono ?_
  rintro e w1 ⟨rfl, hst⟩
  rw [d3, d4]
  exact ⟨rfl, h.step hst d1, _, hst⟩
theorem free_wr (h : Wr B b v n w0 w) (hn : n < 1000) : Calls Tryd.prog 17 #[.pointer (some ⟨b, 0, none⟩), .int .i64 0] w fun e w' => e = .returned (.int .i64 (if (v == 1) = true then 0 else 30)) ∧ Wr B b (if (v == 1) = true then 0 else v) (n + 1) w0 w' ∧ Moved b w w' := by
  obtain ⟨s, hk, h1⟩ := h.ex
  obtain ⟨d1, d2, d3, d4⟩ := h1.do_ 3 1 0
  refine (spinFree_ok 0 hk.lk (by rw [h1.hist]; omega)).mono ?_
  rintro e w1 ⟨rfl, hst⟩
  refine ⟨?_, h.step hst d1, _, hst⟩
  have h0 : s.at_ (0 : Int).toNat = v := h1.at0
  simp only [freeErr, if_pos h1.inSt, h0]
theorem try_out_wr (h : Wr B b v n w0 w) (hn : n < 1000) : Calls Tryd.prog 14 #[.pointer (some ⟨b, 0, none⟩), .int .i64 9] w fun e w' => e = .returned (.tuple #[.bool false, .int .i64 4]) ∧ Wr B b v n w0 w' ∧ Moved b w w' := by
  obtain ⟨s, hk, h1⟩ := h.ex
  have hd : doSt s 3 9 0 1 = (s, zeroAcc, 4) := by unfold doSt; rw [if_neg (by simp [inSt, h1.cs])]
  refine (spinTry_ok 9 hk.lk (by rw [h1.hist]; omega)).mono ?_
  rintro e w1 ⟨rfl, hst⟩
  rw [hd] at hst ⊢
  exact ⟨rfl, h.step hst h1, _, hst⟩
theorem new_wr (hn : Num w) : Calls Tryd.prog 8 #[.int .i64 4] (w.alloc (.cells #[.bool false] 4)) fun e w' => ∃ b s, e = .returned (.tuple #[.pointer (some ⟨b, 0, none⟩), .int .i64 0]) ∧ s = ⟨4, [], []⟩ ∧ Wk w.heap.size b s w w' ∧ Blk w' w.heap.size 4 #[.bool false] ∧ ¬ footA b w' w.heap.size := by
  have hB : Below w.heap.size w (w.alloc (.cells #[.bool false] 4)) := (Below.refl _ _).alloc (Nat.le_refl _) _
  refine (New_lk 4 _ (hn.below hB) (by decide) (by decide)).mono ?_
  rintro e w' ⟨b, rfl, hk⟩
  have hl : ∀ k, footA b w' k → w.heap.size + 1 ≤ k := fun k hf => by have := hk.low k hf; simpa using this
  refine ⟨b, _, rfl, rfl, ⟨hk.lk, hB.trans (hk.below.mono (by simp)), fun k hf => by have := hl k hf; omega⟩, (Blk.new w _ _).keep (hk.below.block _ (by simp)), fun hf => by have := hl _ hf; omega⟩
theorem snew_wr {s : St} (hk : Wk B b s w0 w) (hs : s = ⟨4, [], []⟩) (hb : Blk w B 4 #[.bool false]) (hf : ¬ footA b w B) : Calls Tryd.prog 13 #[.pointer (some ⟨b, 0, none⟩)] w fun e w' => e = .returned (.tuple #[.int .i64 0, .int .i64 0]) ∧ Wr B b 0 0 w0 w' := by
  subst hs
  refine (spinNew_ok hk.lk).mono ?_
  rintro e w1 ⟨rfl, hst⟩
  have := hst.out hb.lt hf
  exact ⟨rfl, ⟨_, hk.step hst (Nat.le_of_lt hb.lt), ⟨rfl, rfl⟩⟩, hb.keep this.1, this.2⟩
end

theorem eql_nilSeq (cs : Array Value) (W : World) : (binOp BinOp.eql 46 (.func (.func 35) #[] cs) .nilFunc).run Tryd.prog W = .ok (.bool false) W := by kernel_rfl

/-- The pair at a loop over Tries of lock 0: q is the loop's own. -/
theorem pair_tries {τ : Type} {q : Res τ} {t0 : τ} {B b N : Nat} {most : Int} {w0 w : World} {s : St} (hk : Wk B b s w0 w) (hc : CapTr most 0 (.pointer (some ⟨b, 0, none⟩)) N (N + 1) (N + 1 + 1) w) (hq : q.R t0 w)
    (hqn : ∀ k, q.ft w k → k ≠ 0 ∧ k ≠ N ∧ k ≠ N + 1 ∧ k ≠ N + 1 + 1) (hqf : ∀ k, q.ft w k → ¬ footA b w k) (hcf : ∀ k, N ≤ k → k ≤ N + 2 → ¬ footA b w k) :
    Pair q ((arena b).comap (fun t : Nat × St × Bool => t.2.1)) (capTr most 0 (.pointer (some ⟨b, 0, none⟩)) N (N + 1) (N + 1 + 1)) w t0 (0, s, false) w := by
  refine Pair.start hq hk.lk.are hc hqf (fun k hk' hf => ?_) (fun k hk' => ?_)
  · obtain ⟨h1, h2, h3, h4⟩ := hqn k hf
    rcases hk' with h | h | h | h
    · exact h2 h
    · exact h3 h
    · exact h4 h
    · exact h1 h
  · rcases hk' with rfl | rfl | rfl | rfl
    · exact hcf _ (by omega) (by omega)
    · exact hcf _ (by omega) (by omega)
    · exact hcf _ (by omega) (by omega)
    · exact hk.lk.nf

theorem Wr.pair {B b n : Nat} {v : Int} {w0 w w' : World} (h : Wr B b v n w0 w) {τ σ : Type} {q : Res τ} {f : σ → St} {c : Res Unit} {t : τ} {x : σ} (hp : Pair q ((arena b).comap f) c w t x w') (hq : ∀ k, q.ft w k → B < k)
    {v' : Int} {n' : Nat} (h1 : One v' n' (f x)) : Wr B b v' n' w0 w' := by
  obtain ⟨s, hk, _⟩ := h.ex
  have hB : B ≤ w.heap.size := Nat.le_of_lt h.rb.lt
  obtain ⟨o1, o2, o3⟩ := hp.old (show w.heap[B]? = some _ from h.rb) (fun e => by have := hq _ e; omega) h.nf
  exact ⟨⟨_, hk.pair hB hp (fun k e => Nat.le_of_lt (hq k e)) (fun e => by have := hq _ e; omega), h1⟩, o1, o3⟩

/-- Behind the call of Tries, and what was laid since. -/
theorem tries_ready {B b n : Nat} {v : Int} {w0 w W : World} (h : Wr B b v n w0 w) (most : Int) (hW : Below (w.heap.size + 3) (((w.alloc (.cells #[.pointer (some ⟨b, 0, none⟩)] 24)).alloc (.cells #[.int .i64 0] 3)).alloc (.cells #[.int .i64 most] 3)) W) :
    CapTr most 0 (.pointer (some ⟨b, 0, none⟩)) w.heap.size (w.heap.size + 1) (w.heap.size + 1 + 1) W ∧ Wr B b v n w0 W ∧ (∀ k, w.heap.size ≤ k → ¬ footA b W k) ∧ w.heap.size + 3 ≤ W.heap.size := by
  have hsz : (((w.alloc (.cells #[.pointer (some ⟨b, 0, none⟩)] 24)).alloc (.cells #[.int .i64 0] 3)).alloc (.cells #[.int .i64 most] 3)).heap.size = w.heap.size + 3 := by simp
  have hB3 : Below w.heap.size w (((w.alloc (.cells #[.pointer (some ⟨b, 0, none⟩)] 24)).alloc (.cells #[.int .i64 0] 3)).alloc (.cells #[.int .i64 most] 3)) := (((Below.refl _ _).alloc (Nat.le_refl _) _).alloc (by simp) _).alloc (by simp; omega) _
  have hc := capTr_made (.pointer (some ⟨b, 0, none⟩)) 0 most w h.num
  have hc' := (capTr most 0 (.pointer (some ⟨b, 0, none⟩)) w.heap.size (w.heap.size + 1) (w.heap.size + 1 + 1)).loc (s := ()) (W' := W) hc (fun k hk => hW.block k (by
    have := (capTr most 0 (.pointer (some ⟨b, 0, none⟩)) w.heap.size (w.heap.size + 1) (w.heap.size + 1 + 1)).lt (s := ()) hc k hk
    omega))
  have hBW : Below w.heap.size w W := hB3.trans (hW.mono (by omega))
  obtain ⟨s, hk, _⟩ := h.ex
  have hf := ((arena b).loc (W' := W) hk.lk.are (fun k hk' => hBW.block k ((arena b).lt hk.lk.are k hk'))).2
  exact ⟨hc'.1, h.andBelow hBW, fun k hk' e => by have := (arena b).lt hk.lk.are k ((hf k).1 e); omega, by have := hW.size; omega⟩

theorem nextTr_one {v most : Int} {n i : Nat} {s : St} (h : One v n s) : nextTr most 0 (i, s, false) = if (i : Int) < most then some ((i, v == 0), (i + 1, (doSt s 3 0 0 1).1, v == 0)) else none := by
  unfold nextTr nextAtt
  rw [if_neg (by simp)]
  have hd : (doSt s 3 0 0 1).2.1.did = (v == 0) := (h.do_ 3 0 1).2.2.1
  by_cases hi : (i : Int) < most
  · rw [if_pos hi]
    simp only [h.inSt, hi, and_self, if_true, Option.map_some, hd]
  · rw [if_neg hi]
    simp [hi]
theorem blk_put {W : World} {k l : Nat} {ty : TypeId} {cs : Array Value} {o o' : Obj} (h : Blk W k ty cs) (hl : W.heap[l]? = some o) (hc : o.isCells = false) : Blk (W.putObj l o') k ty cs := by
  refine h.keep (World.putObj_heap_other (fun e => ?_))
  subst e
  rw [show W.heap[k]? = some _ from h] at hl
  cases hl; cases hc
theorem below_put {B : Nat} {w W : World} {l : Nat} {o' : Obj} (h : Below B w W) (hl : B ≤ l) : Below B w (W.putObj l o') :=
  h.trans ⟨rfl, rfl, rfl, by simp, fun k hk => World.putObj_heap_other (by omega)⟩
/-- A cell is written anew. -/
theorem cellRes_set {τ : Type} {k : Nat} {ty : TypeId} {f : τ → Array Value} {t t' : τ} {W : World} {n : Nat} (h : Blk W k ty (f t)) (i : Nat) (u : Value) (he : (f t).setIfInBounds i u = f t') : (cellRes k ty f).StepsN n t' W (W.setCell ⟨k, i, none⟩ u) := by
  refine ⟨?_, rfl, rfl, rfl, by simp [World.setCell], fun j _ hj => Below.heap_setCell _ _ _ _ hj, fun j hj => .inl hj⟩
  show Blk _ _ _ (f t')
  rw [← he]
  exact h.set i u
end Go.Proofs.YthiaaapcbiameaaDoor
