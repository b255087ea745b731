/- SpinTries: what it is made of. -/
import Derived.Test.YthiaaapcbiameaaDoorSf
import Derived.Test.YthiaaapcbiameaaDoorHr
import Derived.Test.YthiaaapcbiameaaDoorOp
namespace Go.Proofs.YthiaaapcbiameaaDoor
open Go.RowKit Go.Shelf
attribute [local go_sem] Oper.semAt_some

/-- The law's cells and its lock. -/
structure Tw (B b ga : Nat) (held : Bool) (many v : Int) (n : Nat) (w0 w : World) : Prop where
  ex : ∃ s, Wk B b s w0 w ∧ One v n s
  c0 : Kp b B (.cells #[.bool held] 4 (0, 0)) w
  c1 : Kp b (B + 1) (.cells #[.int .i64 many] 3 (0, 0)) w
  c2 : Kp b (B + 1 + 1) (.cells #[.bool false] 4 (0, 0)) w
  ca : Kp b ga (.cells #[.pointer (some ⟨b, 0, none⟩)] 24 (0, 0)) w
section
variable {B b ga n n' : Nat} {held : Bool} {many v v' : Int} {w0 w w' : World}
theorem Tw.size (h : Tw B b ga held many v n w0 w) : B + 2 < w.heap.size := (Array.getElem?_eq_some_iff.1 h.c2.at_).1
theorem Tw.step (h : Tw B b ga held many v n w0 w) {s' : St} (hs : (arena b).Steps s' w w') (h1 : One v' n' s') : Tw B b ga held many v' n' w0 w' := by
  obtain ⟨s, hk, _⟩ := h.ex
  have hm : Moved b w w' := ⟨_, hs⟩
  exact ⟨⟨s', hk.step hs (by have := h.size; omega), h1⟩, h.c0.moved hm, h.c1.moved hm, h.c2.moved hm, h.ca.moved hm⟩
theorem Tw.andBelow (h : Tw B b ga held many v n w0 w) (hB : Below w.heap.size w w') : Tw B b ga held many v n w0 w' ∧ Moved b w w' := by
  obtain ⟨s, hk, h1⟩ := h.ex
  have := Res.Steps.below hk.lk.are hB
  exact ⟨h.step this h1, _, this⟩
theorem Tw.num (h : Tw B b ga held many v n w0 w) : Num w := by obtain ⟨s, hk, _⟩ := h.ex; exact hk.lk.num
theorem Tw.toBelow (h : Tw B b ga held many v n w0 w) : Below B w0 w := by obtain ⟨s, hk, _⟩ := h.ex; exact hk.below
theorem Tw.pair (h : Tw B b ga held many v n w0 w) {τ σ : Type} {q : Res τ} {f : σ → St} {c : Res Unit} {t : τ} {x : σ} (hp : Pair q ((arena b).comap f) c w t x w') (hq : ∀ k, q.ft w k → B + 2 < k ∧ k ≠ ga) (h1 : One v' n' (f x)) : Tw B b ga held many v' n' w0 w' := by
  obtain ⟨s, hk, _⟩ := h.ex
  have hne : ∀ k, k ≤ B + 2 ∨ k = ga → ¬ q.ft w k := fun k hk' e => by have := hq k e; omega
  exact ⟨⟨_, hk.pair (by have := h.size; omega) hp (fun k e => by have := hq k e; omega) (hne 0 (by omega)), h1⟩, h.c0.pair hp (hne _ (by omega)), h.c1.pair hp (hne _ (by omega)), h.c2.pair hp (hne _ (by omega)), h.ca.pair hp (hne _ (.inr rfl))⟩
theorem Tw.cells (h : Tw B b ga held many v n w0 w) : w.cell? ⟨B, 0, none⟩ = some (.bool held) ∧ w.cell? ⟨B + 1, 0, none⟩ = some (.int .i64 many) ∧ w.cell? ⟨B + 1 + 1, 0, none⟩ = some (.bool false) ∧ w.frozen? ⟨B + 1 + 1, 0, none⟩ = false ∧ w.cell? ⟨ga, 0, none⟩ = some (.pointer (some ⟨b, 0, none⟩)) := by
  have h0 := (show Blk w B 4 _ from h.c0.at_).cell 0
  have h1 := (show Blk w (B + 1) 3 _ from h.c1.at_).cell 0
  have h2 := (show Blk w (B + 1 + 1) 4 _ from h.c2.at_).cell 0
  have h3 := (show Blk w ga 24 _ from h.ca.at_).cell 0
  simp at h0 h1 h2 h3
  exact ⟨h0, h1, h2, (show Blk w (B + 1 + 1) 4 _ from h.c2.at_).frozen 0, h3⟩
theorem Tw.res (h : Tw B b ga held many v n w0 w) : ∃ s, (arena b).R s w ∧ One v n s := by obtain ⟨s, hk, h1⟩ := h.ex; exact ⟨s, hk.lk.are, h1⟩
theorem try_tw (h : Tw B b ga held many v n w0 w) (hn : n < 1000) : Calls Tryd.prog 14 #[.pointer (some ⟨b, 0, none⟩), .int .i64 0] w fun e w' => e = .returned (.tuple #[.bool (v == 0), .int .i64 0]) ∧ Tw B b ga held many (if (v == 0) = true then 1 else v) (n + 1) w0 w' ∧ Moved b w w' := by
  obtain ⟨s, hk, h1⟩ := h.ex
  obtain ⟨d1, d2, d3, d4⟩ := h1.do_ 3 0 1
  refine (spinTry_ok 0 hk.lk (by rw [h1.hist]; omega)).mono ?_
  rintro e w1 ⟨rfl, hst⟩
  rw [d3, d4]
  exact ⟨rfl, h.step hst d1, _, hst⟩
theorem free_tw (h : Tw B b ga held many v n w0 w) (hn : n < 1000) : Calls Tryd.prog 17 #[.pointer (some ⟨b, 0, none⟩), .int .i64 0] w fun e w' => e = .returned (.int .i64 (if (v == 1) = true then 0 else 30)) ∧ Tw B b ga held many (if (v == 1) = true then 0 else v) (n + 1) w0 w' ∧ Moved b w w' := by
  obtain ⟨s, hk, h1⟩ := h.ex
  obtain ⟨d1, d2, d3, d4⟩ := h1.do_ 3 1 0
  refine (spinFree_ok 0 hk.lk (by rw [h1.hist]; omega)).mono ?_
  rintro e w1 ⟨rfl, hst⟩
  refine ⟨?_, h.step hst d1, _, hst⟩
  have h0 : s.at_ (0 : Int).toNat = v := h1.at0
  simp only [freeErr, if_pos h1.inSt, h0]
theorem count_tw (h : Tw B b ga held many v n w0 w) : Calls Tryd.prog 16 #[.pointer (some ⟨b, 0, none⟩)] w fun e w' => e = .returned (.int .u64 (n : Int)) ∧ w = w' := by
  obtain ⟨s, hk, h1⟩ := h.ex
  have := Count_are hk.lk.are
  rwa [h1.hist] at this
theorem count_one {s : St} (hr : (arena b).R s w) (h1 : One v n s) (m : Nat) : Calls Tryd.prog 16 #[.pointer (some ⟨b, 0, none⟩)] (w.drewN m) fun e w' => e = .returned (.int .u64 (n : Int)) ∧ ∃ k, w' = w.drewN k := by
  have := Count_are (Are.drewN hr m)
  rw [h1.hist] at this
  exact this.mono fun _ _ ⟨he, hw⟩ => ⟨he, m, hw.symm⟩
/-- The boxes, the arena, its cell, its lock. -/
theorem tw_start {w1 w2 w3 : World} {s1 : St} (hw1 : ((w.alloc (.cells #[.bool held] 4)).alloc (.cells #[.int .i64 many] 3)).alloc (.cells #[.bool false] 4) = w1) (hk : Wk w1.heap.size b ⟨1, [], []⟩ w1 w2)
    (hst : (arena b).Steps s1 (w2.alloc (.cells #[.pointer (some ⟨b, 0, none⟩)] 24)) w3) (hs : s1 = (allocSt ⟨1, [], []⟩ 1).1) : Tw w.heap.size b w2.heap.size held many 0 0 w w3 := by
  subst hs
  have hB1 : Below w.heap.size w w1 := by rw [← hw1]; exact (((Below.refl _ _).alloc (Nat.le_refl _) _).alloc (by simp) _).alloc (by simp; omega) _
  have hsz : w1.heap.size = w.heap.size + 3 := by rw [← hw1]; simp
  have b0 : Blk w1 w.heap.size 4 #[.bool held] := by rw [← hw1]; exact ((Blk.new w _ _).alloc _).alloc _
  have b1 : Blk w1 (w.heap.size + 1) 3 #[.int .i64 many] := by
    rw [← hw1]
    have := (Blk.new (w.alloc (.cells #[.bool held] 4)) 3 #[.int .i64 many]).alloc (.cells #[.bool false] 4)
    rwa [World.size_alloc] at this
  have b2 : Blk w1 (w.heap.size + 1 + 1) 4 #[.bool false] := by
    rw [← hw1]
    have := Blk.new ((w.alloc (.cells #[.bool held] 4)).alloc (.cells #[.int .i64 many] 3)) 4 #[.bool false]
    rwa [World.size_alloc, World.size_alloc] at this
  have hBa : Below w2.heap.size w2 (w2.alloc (.cells #[.pointer (some ⟨b, 0, none⟩)] 24)) := (Below.refl _ _).alloc (Nat.le_refl _) _
  have hk3 := hk.andBelow hBa hk.below.size
  have hft := ((arena b).loc (W' := w2.alloc (.cells #[.pointer (some ⟨b, 0, none⟩)] 24)) hk.lk.are (fun k hk' => hBa.block k ((arena b).lt hk.lk.are k hk'))).2
  have hm : Moved b (w2.alloc (.cells #[.pointer (some ⟨b, 0, none⟩)] 24)) w3 := ⟨_, hst⟩
  have kp : ∀ {k : Nat} {ty : TypeId} {cs : Array Value}, Blk w1 k ty cs → Kp b k (.cells cs ty (0, 0)) w3 := fun h =>
    Kp.moved ⟨hBa.block _ (by have := h.lt; have := hk.below.size; omega) |>.trans ((hk.below.block _ h.lt).trans h), fun e => by have := hk3.low _ e; have := h.lt; omega⟩ hm
  have hws : Wk w.heap.size b ⟨1, [], []⟩ w (w2.alloc (.cells #[.pointer (some ⟨b, 0, none⟩)] 24)) := ⟨hk3.lk, hB1.trans (hk3.below.mono (by omega)), fun k hk' => by have := hk3.low k hk'; omega⟩
  have hz : w2.heap.size ≤ (w2.alloc (.cells #[.pointer (some ⟨b, 0, none⟩)] 24)).heap.size := by simp
  exact ⟨⟨_, hws.step hst (by have := hk.below.size; omega), ⟨rfl, rfl⟩⟩, kp b0, kp b1, kp b2, Kp.moved ⟨Blk.new w2 _ _, fun e => Nat.lt_irrefl _ ((arena b).lt hk.lk.are _ ((hft _).1 e))⟩ hm⟩
end

/-- Behind the call of Tries, and what was laid since. -/
theorem tries_ready2 {B b : Nat} {s : St} {w0 w W : World} (hk : Wk B b s w0 w) (hBs : B ≤ w.heap.size) (most : Int) (hW : Below (w.heap.size + 3) (((w.alloc (.cells #[.pointer (some ⟨b, 0, none⟩)] 24)).alloc (.cells #[.int .i64 0] 3)).alloc (.cells #[.int .i64 most] 3)) W) :
    CapTr most 0 (.pointer (some ⟨b, 0, none⟩)) w.heap.size (w.heap.size + 1) (w.heap.size + 1 + 1) W ∧ Below w.heap.size w W ∧ (∀ k, w.heap.size ≤ k → ¬ footA b W k) ∧ w.heap.size + 3 ≤ W.heap.size := by
  have hsz : (((w.alloc (.cells #[.pointer (some ⟨b, 0, none⟩)] 24)).alloc (.cells #[.int .i64 0] 3)).alloc (.cells #[.int .i64 most] 3)).heap.size = w.heap.size + 3 := by simp
  have hB3 : Below w.heap.size w (((w.alloc (.cells #[.pointer (some ⟨b, 0, none⟩)] 24)).alloc (.cells #[.int .i64 0] 3)).alloc (.cells #[.int .i64 most] 3)) := (((Below.refl _ _).alloc (Nat.le_refl _) _).alloc (by simp) _).alloc (by simp; omega) _
  have hc := capTr_made (.pointer (some ⟨b, 0, none⟩)) 0 most w hk.lk.num
  have hc' := (capTr most 0 (.pointer (some ⟨b, 0, none⟩)) w.heap.size (w.heap.size + 1) (w.heap.size + 1 + 1)).loc (s := ()) (W' := W) hc (fun k hk' => hW.block k (by
    have := (capTr most 0 (.pointer (some ⟨b, 0, none⟩)) w.heap.size (w.heap.size + 1) (w.heap.size + 1 + 1)).lt (s := ()) hc k hk'
    omega))
  have hBW : Below w.heap.size w W := hB3.trans (hW.mono (by omega))
  have hf := ((arena b).loc (W' := W) hk.lk.are (fun k hk' => hBW.block k ((arena b).lt hk.lk.are k hk'))).2
  exact ⟨hc'.1, hBW, fun k hk' e => by have := (arena b).lt hk.lk.are k ((hf k).1 e); omega, by have := hW.size; omega⟩
theorem cellRes_set_drewN {τ : Type} {k : Nat} {ty : TypeId} {f : τ → Array Value} {t t' : τ} {W : World} {n : Nat} (h : Blk W k ty (f t)) (i : Nat) (u : Value) (he : (f t).setIfInBounds i u = f t') (m : Nat) : (cellRes k ty f).StepsN n t' W ((W.setCell ⟨k, i, none⟩ u).drewN m) := by
  have := cellRes_set (n := n) h i u he
  exact ⟨this.at_, this.os, this.tape, this.output, this.size, this.block, this.ft⟩

theorem Kp.setFar {b k g : Nat} {o : Obj} {s : St} {w : World} (h : Kp b k o w) (hr : (arena b).R s w) (hne : k ≠ g) (hg : ¬ footA b w g) (u : Value) : Kp b k o (w.setCell ⟨g, 0, none⟩ u) := by
  have hkp : Keep (fun i => i = g) w (w.setCell ⟨g, 0, none⟩ u) := (Keep.refl (fun i => i = g) w).setCell (p := ⟨g, 0, none⟩) (.inl rfl) _
  obtain ⟨r1, r2⟩ := Res.beside hr hkp (fun i hi => hi ▸ hg)
  exact ⟨(hkp.block k (Array.getElem?_eq_some_iff.1 h.at_).1 hne).trans h.at_, fun e => h.nf ((r2 _).1 e)⟩
theorem Tw.setFar {B b ga n g : Nat} {held : Bool} {many v : Int} {w0 w : World} (h : Tw B b ga held many v n w0 w) (hg1 : B + 2 < g) (hg2 : g ≠ ga) (hg : ¬ footA b w g) (u : Value) : Tw B b ga held many v n w0 (w.setCell ⟨g, 0, none⟩ u) := by
  obtain ⟨s, hk, h1⟩ := h.ex
  have hkp : Keep (fun i => i = g) w (w.setCell ⟨g, 0, none⟩ u) := (Keep.refl (fun i => i = g) w).setCell (p := ⟨g, 0, none⟩) (.inl rfl) _
  obtain ⟨r1, r2⟩ := Res.beside hk.lk.are hkp (fun i hi => hi ▸ hg)
  exact ⟨⟨s, ⟨⟨r1, hk.lk.num.keep (hkp.block 0 hk.lk.num.lt (by omega)), fun e => hk.lk.nf ((r2 _).1 e)⟩, hk.below.setCell (p := ⟨g, 0, none⟩) (by simp only; omega) _, fun i hi => hk.low i ((r2 i).1 hi)⟩, h1⟩,
    h.c0.setFar hk.lk.are (by omega) hg u, h.c1.setFar hk.lk.are (by omega) hg u, h.c2.setFar hk.lk.are (by omega) hg u, h.ca.setFar hk.lk.are (Ne.symm hg2) hg u⟩
/-- The second loop: a free lock. -/
def SecI (n0 : Nat) (p : List (Nat × Bool) × (Nat × St × Bool)) (n : Nat) : Prop := (p.2.1 = 0 ∧ p.2.2.2 = false ∧ One 0 n0 p.2.2.1 ∧ n = 0) ∨ (p.2.2.2 = true ∧ One 1 (n0 + 1) p.2.2.1 ∧ n = 1)
def SecJ (n0 : Nat) (most : Int) (p : List (Nat × Bool) × (Nat × St × Bool)) (n : Nat) : Prop := SecI n0 p n ∧ (p.2.2.2 = true → 0 < most)
theorem SecI.next {n0 : Nat} {most : Int} {pre : List (Nat × Bool)} {i n : Nat} {s : St} {g : Bool} {x : Nat × Bool} {s' : Nat × St × Bool} (h : SecI n0 (pre, i, s, g) n) (hn : nextTr most 0 (i, s, g) = some (x, s')) : n = 0 ∧ x = (0, true) ∧ SecI n0 (pre ++ [x], s') 1 := by
  rcases h with ⟨h1, h2, ho, h3⟩ | ⟨h2, _⟩
  · simp only at h1 h2 ho
    subst h1; subst h2
    rw [nextTr_one ho] at hn
    by_cases hm : ((0 : Nat) : Int) < most
    · rw [if_pos hm] at hn
      simp only [Option.some.injEq, Prod.mk.injEq] at hn
      obtain ⟨rfl, rfl⟩ := hn
      exact ⟨h3, rfl, .inr ⟨rfl, (ho.do_ 3 0 1).1, rfl⟩⟩
    · rw [if_neg hm] at hn; cases hn
  · simp only at h2
    subst h2
    rw [nextTr_won] at hn; cases hn
theorem SecI.done {n0 : Nat} {most : Int} {pre : List (Nat × Bool)} {i n : Nat} {s : St} {g : Bool} (h : SecI n0 (pre, i, s, g) n) (hn : nextTr most 0 (i, s, g) = none) (hm : 0 < most) : n = 1 ∧ One 1 (n0 + 1) s := by
  rcases h with ⟨h1, h2, ho, h3⟩ | ⟨h2, ho, h3⟩
  · simp only at h1 h2 ho
    subst h1; subst h2
    rw [nextTr_one ho, if_pos (by omega)] at hn
    cases hn
  · exact ⟨h3, ho⟩
theorem SecI.none_ {n0 : Nat} {pre : List (Nat × Bool)} {i n : Nat} {s : St} {g : Bool} (h : SecI n0 (pre, i, s, g) n) (hg : g = false) : n = 0 ∧ One 0 n0 s := by
  rcases h with ⟨h1, h2, ho, h3⟩ | ⟨h2, ho, h3⟩
  · exact ⟨h3, ho⟩
  · simp only at h2; rw [hg] at h2; cases h2

/-- How many tries are made. -/
def wantN (held : Bool) (most many : Int) : Int := if 0 < most then (if held = true then min most (max 1 many) else 1) else 0
/-- Between two rounds. -/
structure TryI (held : Bool) (h0 : Nat) (most many : Int) (p : List (Nat × Bool) × (Nat × St × Bool)) (n : Nat) : Prop where
  cnt : n = p.2.1
  st : (p.2.2.2 = false ∧ One (if held = true then 1 else 0) (h0 + p.2.1) p.2.2.1 ∧ (held = false → p.2.1 = 0)) ∨ (p.2.2.2 = true ∧ held = false ∧ p.2.1 = 1 ∧ One 1 (h0 + 1) p.2.2.1)
  le : (p.2.1 : Int) ≤ max most 0
  few : p.2.1 = 0 ∨ (p.2.1 : Int) < many
/-- Where it is left. -/
structure TryX (held : Bool) (h0 : Nat) (most many : Int) (cd : Code) (p : List (Nat × Bool) × (Nat × St × Bool)) (n : Nat) : Prop where
  cd : cd = .exit 0
  cnt : n = p.2.1
  o : One 1 (h0 + p.2.1) p.2.2.1
  one : held = false → p.2.1 = 1
  le : (p.2.1 : Int) ≤ most
  few : (p.2.1 : Int) = max 1 many
/-- Behind the loop. -/
structure TryE (held : Bool) (h0 : Nat) (most many : Int) (s : St) (n : Nat) : Prop where
  want : (n : Int) = wantN held most many
  o : One (if n = 0 then (if held = true then 1 else 0) else 1) (h0 + n) s
theorem TryI.done {held : Bool} {h0 : Nat} {most many : Int} {pre : List (Nat × Bool)} {i n : Nat} {s : St} {g : Bool} (h : TryI held h0 most many (pre, i, s, g) n) (hn : nextTr most 0 (i, s, g) = none) : TryE held h0 most many s n := by
  obtain ⟨h1, h2, h3, h4⟩ := h
  simp only at h1 h2 h3 h4
  subst h1
  rcases h2 with ⟨rfl, ho, hz⟩ | ⟨rfl, rfl, rfl, ho⟩
  · rw [nextTr_one ho] at hn
    have hi : ¬ (n : Int) < most := fun e => by rw [if_pos e] at hn; cases hn
    cases held
    · have := hz rfl
      subst this
      exact ⟨by unfold wantN; rw [if_neg (by omega)]; rfl, ho⟩
    · refine ⟨?_, by simpa using ho⟩
      unfold wantN
      by_cases hm : 0 < most
      · rw [if_pos hm]; simp only [if_true]; omega
      · rw [if_neg hm]; omega
  · refine ⟨?_, by simpa using ho⟩
    unfold wantN
    rw [if_pos (by omega)]
    simp
theorem TryX.done {held : Bool} {h0 : Nat} {most many : Int} {cd : Code} {pre : List (Nat × Bool)} {i n : Nat} {s : St} {g : Bool} (h : TryX held h0 most many cd (pre, i, s, g) n) : TryE held h0 most many s n := by
  obtain ⟨_, h1, ho, h2, h3, h4⟩ := h
  simp only at h1 ho h2 h3 h4
  subst h1
  have hp : n ≠ 0 := by omega
  refine ⟨?_, by rw [if_neg hp]; exact ho⟩
  unfold wantN
  rw [if_pos (by omega)]
  cases held
  · have := h2 rfl; subst this; simp
  · simp only [if_true]; omega
end Go.Proofs.YthiaaapcbiameaaDoor
