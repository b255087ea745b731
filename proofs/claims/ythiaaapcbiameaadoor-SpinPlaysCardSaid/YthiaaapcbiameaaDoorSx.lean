/- SpinPlays: a lock's arena and the document's beside it. -/
import Derived.Test.YthiaaapcbiameaaDoorBo
import Derived.Test.YthiaaapcbiameaaDoorSe
namespace Go.Proofs.YthiaaapcbiameaaDoor
open Go.RowKit Go.Shelf

/-- The arena b stands as s, the document's value v as r, in blocks of their own. -/
structure Sd (b : Nat) (s r : St) (v : Value) (w : World) : Prop where
  lk : Lk b s w
  ref : RefS w v r
  own : ∀ k, ownR v k → ¬ footA b w k
section
variable {b : Nat} {s s' r r' : St} {v v' : Value} {w w' : World}
theorem Sd.stepA (h : Sd b s r v w) (hs : (arena b).Steps s' w w') : Sd b s' r v w' :=
  ⟨h.lk.step hs, h.ref.keep (fun k hk => (hs.out (h.ref.lt k hk) (h.own k hk)).1), fun k hk => (hs.out (h.ref.lt k hk) (h.own k hk)).2⟩
theorem Sd.below (h : Sd b s r v w) (hB : Below w.heap.size w w') : Sd b s r v w' := h.stepA (Res.Steps.below h.lk.are hB)
theorem Sd.stepR (h : Sd b s r v w) (hr : RefS w' v' r') (hB : Below w.heap.size w w') (ho : ∀ k, ownR v' k → ownR v k ∨ w.heap.size ≤ k) : Sd b s r' v' w' := by
  have hst : (arena b).Steps s w w' := Res.Steps.below h.lk.are hB
  refine ⟨h.lk.step hst, hr, fun k hk hf => ?_⟩
  rcases ho k hk with h1 | h1
  · exact (hst.out (h.ref.lt k h1) (h.own k h1)).2 hf
  · have hk' : ∀ j, footA b w j → w'.heap[j]? = w.heap[j]? := fun j hj => hB.block j ((arena b).lt h.lk.are j hj)
    have := (((arena b).loc h.lk.are hk').2 k).1 hf
    have := (arena b).lt h.lk.are k this
    omega
/-- A block of the call's own is written. -/
theorem Sd.stepP (h : Sd b s r v w) {F : Nat → Prop} (hk : Keep F w w') (hF : ∀ k, F k → ¬ footA b w k ∧ ¬ ownR v k ∧ k ≠ 0) : Sd b s r v w' := by
  obtain ⟨h1, h2⟩ := Res.beside (r := arena b) h.lk.are hk (fun k hf => (hF k hf).1)
  refine ⟨⟨h1, ?_, ?_⟩, h.ref.keep (fun k hk' => hk.block k (h.ref.lt k hk') (fun e => (hF k e).2.1 hk')), fun k hk' hf => h.own k hk' ((h2 k).1 hf)⟩
  · exact h.lk.num.keep (hk.block 0 h.lk.num.lt (fun e => (hF 0 e).2.2 rfl))
  · exact fun hf => h.lk.nf ((h2 0).1 hf)
end

structure ActD where
  what : Int
  at_ : Int
  n : Int
def ActD.val (x : ActD) : Value := .agg #[.int .i64 x.what, .int .i64 x.at_, .int .i64 x.n]

/-- What a call leaves. -/
def ActPost (b : Nat) (s' : St) (w : World) (e : Ending) (w' : World) : Prop :=
  ∃ v', e = .returned (.tuple #[v', .bool true]) ∧ Sd b s' s' v' w' ∧ (arena b).Steps s' w w'
/-- Between the steps of a call that began at w: the call's own boxes stand behind w. -/
structure Mid (b : Nat) (x : ActD) (s r : St) (v : Value) (cs ds : Array Value) (w W : World) : Prop where
  sd : Sd b s r v W
  st : (arena b).Steps s w W
  sz : w.heap.size + 4 ≤ W.heap.size
  nf : ∀ k, w.heap.size ≤ k → k < w.heap.size + 4 → ¬ footA b W k
  bx : Blk W (w.heap.size + 1) 35 #[.int .i64 x.what, .int .i64 x.at_, .int .i64 x.n]
  rs : Blk W (w.heap.size + 1 + 1) 31 cs
  rb : Blk W (w.heap.size + 1 + 1 + 1) 4 ds
section
variable {b : Nat} {x : ActD} {s s' r r' : St} {v v' : Value} {cs ds : Array Value} {w W W' : World}
theorem Mid.startG (h : Sd b s r v w) (cs0 cs1 ds1 : Array Value) :
    Mid b x s r v cs1 ds1 w ((((w.alloc (.cells cs0 31)).alloc (.cells #[.int .i64 x.what, .int .i64 x.at_, .int .i64 x.n] 35)).alloc (.cells cs1 31)).alloc (.cells ds1 4)) := by
  have B : Below w.heap.size w ((((w.alloc (.cells cs0 31)).alloc (.cells #[.int .i64 x.what, .int .i64 x.at_, .int .i64 x.n] 35)).alloc (.cells cs1 31)).alloc (.cells ds1 4)) :=
    ((((Below.refl _ _).alloc (Nat.le_refl _) _).alloc (by simp) _).alloc (by simp; omega) _).alloc (by simp; omega) _
  refine ⟨h.below B, Res.Steps.below h.lk.are B, by simp, fun k h1 h2 hf => ?_, ?_, ?_, ?_⟩
  · have hk' : ∀ j, footA b w j → _ := fun j hj => B.block j ((arena b).lt h.lk.are j hj)
    have := (((arena b).loc h.lk.are hk').2 k).1 hf
    have := (arena b).lt h.lk.are k this
    omega
  · have := ((Blk.new (w.alloc (.cells cs0 31)) 35 #[.int .i64 x.what, .int .i64 x.at_, .int .i64 x.n]).alloc (.cells cs1 31)).alloc (.cells ds1 4)
    rwa [World.size_alloc] at this
  · have := (Blk.new ((w.alloc (.cells cs0 31)).alloc (.cells #[.int .i64 x.what, .int .i64 x.at_, .int .i64 x.n] 35)) 31 cs1).alloc (.cells ds1 4)
    rwa [World.size_alloc, World.size_alloc] at this
  · have := Blk.new (((w.alloc (.cells cs0 31)).alloc (.cells #[.int .i64 x.what, .int .i64 x.at_, .int .i64 x.n] 35)).alloc (.cells cs1 31)) 4 ds1
    rwa [World.size_alloc, World.size_alloc, World.size_alloc] at this
theorem Mid.start {v0 : Value} (h : Sd b s r v w) (cs0 : Array Value) :
    Mid b x s r v #[.slice none 0 0, .int .i64 0, .slice none 0 0] #[.bool false] w ((((w.alloc (.cells cs0 31)).alloc (.cells #[.int .i64 x.what, .int .i64 x.at_, .int .i64 x.n] 35)).alloc (.cells #[.slice none 0 0, .int .i64 0, .slice none 0 0] 31)).alloc (.cells #[.bool false] 4)) := Mid.startG h cs0 _ _
theorem Mid.step (h : Mid b x s r v cs ds w W) (hs : (arena b).Steps s' W W') : Mid b x s' r v cs ds w W' := by
  have hz := h.sz
  have o := fun k h1 h2 => hs.out (k := k) (by omega) (h.nf k h1 h2)
  exact ⟨h.sd.stepA hs, h.st.trans hs, Nat.le_trans h.sz hs.size, fun k h1 h2 => (o k h1 h2).2, h.bx.keep (o _ (by omega) (by omega)).1, h.rs.keep (o _ (by omega) (by omega)).1, h.rb.keep (o _ (by omega) (by omega)).1⟩
theorem Mid.below (h : Mid b x s r v cs ds w W) (hB : Below W.heap.size W W') : Mid b x s r v cs ds w W' := h.step (Res.Steps.below h.sd.lk.are hB)
theorem Mid.ref (h : Mid b x s r v cs ds w W) (hr : RefS W' v' r') (hB : Below W.heap.size W W') (ho : ∀ k, ownR v' k → ownR v k ∨ W.heap.size ≤ k) : Mid b x s r' v' cs ds w W' :=
  { h.below hB with sd := h.sd.stepR hr hB ho }
theorem Mid.set3 (h : Mid b x s r v cs ds w W) {a0 a1 a2 : Value} (hc : cs = #[a0, a1, a2]) (y0 y1 y2 : Value) :
    Mid b x s r v #[y0, y1, y2] ds w (((W.setCell ⟨w.heap.size + 1 + 1, 0, none⟩ y0).setCell ⟨w.heap.size + 1 + 1, 1, none⟩ y1).setCell ⟨w.heap.size + 1 + 1, 2, none⟩ y2) := by
  subst hc
  have hz := h.sz
  have K := Keep.three W (w.heap.size + 1 + 1) y0 y1 y2
  obtain ⟨r1, r2⟩ := Res.beside (r := arena b) h.sd.lk.are K (by rintro k rfl; exact h.nf _ (by omega) (by omega))
  refine ⟨h.sd.stepP K ?_, ?_, Nat.le_trans hz K.size, fun k h1 h2 hf => h.nf k h1 h2 ((r2 k).1 hf), h.bx.keep (K.block _ h.bx.lt (by omega)), blk_three h.rs, h.rb.keep (K.block _ h.rb.lt (by omega))⟩
  · rintro k rfl
    exact ⟨h.nf _ (by omega) (by omega), fun e => ownR_ne h.sd.ref h.rs e, by omega⟩
  · refine ⟨r1, K.os.trans h.st.os, K.tape.trans h.st.tape, K.output.trans h.st.output, Nat.le_trans h.st.size K.size, fun k h1 h2 => (K.block k (by omega) (by omega)).trans (h.st.block k h1 h2), fun k hk => h.st.ft k ((r2 k).1 hk)⟩
theorem Mid.setb (h : Mid b x s r v cs ds w W) {a0 : Value} (hc : ds = #[a0]) (y0 : Value) :
    Mid b x s r v cs #[y0] w (W.setCell ⟨w.heap.size + 1 + 1 + 1, 0, none⟩ y0) := by
  subst hc
  have hz := h.sz
  have K : Keep (fun k => k = w.heap.size + 1 + 1 + 1) W (W.setCell ⟨w.heap.size + 1 + 1 + 1, 0, none⟩ y0) := (Keep.refl (fun k => k = w.heap.size + 1 + 1 + 1) W).setCell (p := ⟨w.heap.size + 1 + 1 + 1, 0, none⟩) (.inl rfl) y0
  obtain ⟨r1, r2⟩ := Res.beside (r := arena b) h.sd.lk.are K (by rintro k rfl; exact h.nf _ (by omega) (by omega))
  refine ⟨h.sd.stepP K ?_, ?_, by simpa [World.setCell] using hz, fun k h1 h2 hf => h.nf k h1 h2 ((r2 k).1 hf), h.bx.keep (K.block _ h.bx.lt (by omega)), h.rs.keep (K.block _ h.rs.lt (by omega)), by simpa using h.rb.set 0 y0⟩
  · rintro k rfl
    refine ⟨h.nf _ (by omega) (by omega), fun e => ?_, by omega⟩
    obtain ⟨⟨vC, vL, rfl, hc, hl⟩, _, _⟩ := h.sd.ref
    rcases e.parts with e' | e'
    · exact hc.ne_blk h.rb (by decide) e'
    · exact hl.ne_blk h.rb (by decide) e'
  · refine ⟨r1, K.os.trans h.st.os, K.tape.trans h.st.tape, K.output.trans h.st.output, Nat.le_trans h.st.size K.size, fun k h1 h2 => (K.block k (by omega) (by omega)).trans (h.st.block k h1 h2), fun k hk => h.st.ft k ((r2 k).1 hk)⟩
theorem Mid.post (h : Mid b x s s v cs ds w W) : ActPost b s w (.returned (.tuple #[v, .bool true])) W := ⟨v, rfl, h.sd, h.st⟩
end
end Go.Proofs.YthiaaapcbiameaaDoor
