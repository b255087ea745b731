/- The law CellPlays: its walk. -/
import Derived.Test.YtbojbhjaeekjpaaIs
import Derived.Test.YtbojbhjaeekjpaaAd
namespace Go.Proofs.Ytbojbhjaeekjpaa
open Go.RowKit Go.Shelf
attribute [local go_sem] Oper.semAt_some

theorem Side.move {F : Nat → Prop} {w w' : World} {b : Nat} {s r : St} {v : Value} (h : Side F w b s v r) (hk : ∀ k, k < w.heap.size → (F k ∨ ownR v k) → w'.heap[k]? = w.heap[k]?) (hs : w.heap.size ≤ w'.heap.size) :
    Side (upF F w.heap.size w'.heap.size) w' b s v r :=
  ⟨(h.are.mono (G := upF F w.heap.size w'.heap.size) (fun _ hk hf => .inl ⟨hf, hk⟩)).keep (fun k h1 h2 => hk k h1 (.inl (by rcases h2 with ⟨hf, _⟩ | h2; exact hf; omega))), fun _ hk => .inr hk,
    h.ref.keep (fun k e => hk k (h.ref.lt k e) (.inr e)), fun k e hf => by
      have hl := h.ref.lt k e
      rcases hf with ⟨hf, _⟩ | hf
      · exact h.own k e hf
      · omega⟩
theorem Side.below {F : Nat → Prop} {w w' : World} {b : Nat} {s r : St} {v : Value} (h : Side F w b s v r) (hB : Below w.heap.size w w') : Side (upF F w.heap.size w'.heap.size) w' b s v r :=
  h.move (fun k hk _ => hB.block k hk) hB.size

set_option maxRecDepth 100000 in
set_option maxHeartbeats 1600000 in
theorem plays_few (n : Int) (A : Option Addr) (c : Nat) (l : List ActD) (w : World) (ha : ActsArg w (.slice A l.length c) l) (hl : l.length ≤ maxLen) (hf : fewB l 60 = false) :
    Calls Try.prog 3 #[.int .i64 n, .slice A l.length c] w fun e w' => e = .returned (.bool true) ∧ Below w.heap.size w w' := by
  have hfew := few_ok l A c 60 w ha hl
  rw [hf] at hfew
  have hw := works_any w
  unfold maxLen at hl
  clear ha
  go_enter Try.func3, Try.ntmps3
  go_wp2_with (first
    | (go_at_call 8; refine hfew.mono ?_; rintro e w' ⟨rfl, rfl⟩)
    | (go_at_call 9; refine hw.mono ?_; rintro e w1 ⟨rfl, hB⟩))
  go_ret
  exact ⟨rfl, hB⟩

set_option maxRecDepth 100000 in
set_option maxHeartbeats 1600000 in
theorem plays_none (n : Int) (A : Option Addr) (c : Nat) (l : List ActD) (w : World) (ha : ActsArg w (.slice A l.length c) l) (hl : l.length ≤ maxLen) (hf : fewB l 60 = true) (hn : n < 1 ∨ 65536 < n) :
    Calls Try.prog 3 #[.int .i64 n, .slice A l.length c] w fun e w' => e = .returned (.bool true) ∧ Below w.heap.size w w' := by
  have hfew := few_ok l A c 60 w ha hl
  rw [hf] at hfew
  unfold maxLen at hl
  clear ha
  have hN := New_err n w hn
  have hR := fun w => refNew_err n w hn
  clear hn
  go_enter Try.func3, Try.ntmps3
  go_wp2_with (first
    | (go_at_call 8; refine hfew.mono ?_; rintro e w' ⟨rfl, rfl⟩)
    | (go_at_call 10; refine hN.mono ?_; rintro e w1 ⟨rfl, hB1⟩)
    | (go_at_call 11; refine (hR _).mono ?_; rintro e w2 ⟨v', rfl, hr, hB2, hno⟩; obtain ⟨A1, c1, A2, c2, rfl⟩ := hr.form)
    | (go_at_call 12; refine (num_any _ _).mono ?_; rintro e w' ⟨rfl, rfl⟩))
  have B2 : Below w.heap.size w (w2.alloc (.cells #[.slice A1 (St.mk 0 [] []).cs.length c1, .int .i64 (St.mk 0 [] []).most, .slice A2 (St.mk 0 [] []).hist.length c2] 32)) :=
    (hB1.trans (hB2.mono hB1.size)).alloc (hB1.trans (hB2.mono hB1.size)).size _
  clear hB1 hB2 hr hno hfew hN
  clear hR
  revert B2
  generalize (w2.alloc (.cells #[.slice A1 (St.mk 0 [] []).cs.length c1, .int .i64 (St.mk 0 [] []).most, .slice A2 (St.mk 0 [] []).hist.length c2] 32)) = wA
  intro B2
  go_loopw [9] (fun i wr => i = .int .i64 0 ∧ wr = wA) (fun _ _ => 0)
  case atStart => exact ⟨rfl, rfl⟩
  case round =>
    obtain ⟨rfl, rfl⟩ := hrel
    by_cases h0 : (0 : Int) < (l.length : Int)
    · go_wp2_with (go_at_call 9; refine (works_any _).mono ?_; rintro e w9 ⟨rfl, hB9⟩)
      go_ret
      exact ⟨rfl, B2.trans (hB9.mono B2.size)⟩
    · go_wp2_with (go_at_call 9; refine (works_any _).mono ?_; rintro e w9 ⟨rfl, hB9⟩)
      go_ret
      exact ⟨rfl, B2.trans (hB9.mono B2.size)⟩

/-- Between two rounds: the two arenas stand side by side, the document's in the call's own box too. -/
structure Pinv (w : World) (g : Nat) (wr : World) (b : Nat) (s : St) (F : Nat → Prop) (A : Option Addr) (c : Nat) (A' : Option Addr) (c' : Nat) : Prop where
  side : Side F wr b s (.agg #[.slice A s.cs.length c, .int .i64 s.most, .slice A' s.hist.length c']) s
  box : Blk wr g 32 #[.slice A s.cs.length c, .int .i64 s.most, .slice A' s.hist.length c']
  nb : ¬ F g
  low : Below w.heap.size w wr
  nl : ∀ k, k < w.heap.size → ¬ F k
  gl : w.heap.size ≤ g

def PactPost (F : Nat → Prop) (n : Nat) (W : World) (s' : St) (e : Ending) (w3 : World) : Prop :=
  ∃ b3 F3 A4 c4 A4' c4', e = .returned (.tuple #[.pointer (some ⟨b3, 0, none⟩), .agg #[.slice A4 s'.cs.length c4, .int .i64 s'.most, .slice A4' s'.hist.length c4'], .bool true]) ∧
    Side F3 w3 b3 s' (.agg #[.slice A4 s'.cs.length c4, .int .i64 s'.most, .slice A4' s'.hist.length c4']) s' ∧ Keep (upF F n W.heap.size) W w3 ∧ (∀ k, k < W.heap.size → ¬ upF F n W.heap.size k → ¬ F3 k)

theorem Pinv.act {w wr W : World} {g b : Nat} {s : St} {F : Nat → Prop} {A A' : Option Addr} {c c' : Nat} (hp : Pinv w g wr b s F A c A' c') (x : ActD) (hh : s.hist.length < 1000000000) (hW : Below wr.heap.size wr W) :
    Calls Try.prog 13 #[.pointer (some ⟨b, 0, none⟩), .agg #[.slice A s.cs.length c, .int .i64 s.most, .slice A' s.hist.length c'], .agg #[.int .i64 x.what, .int .i64 x.at_, .int .u64 x.x, .int .u64 x.y]] W (PactPost F wr.heap.size W (actSt s x)) := by
  refine (act_ok x (hp.side.below hW) hh).mono ?_
  rintro e w3 ⟨b3, v3, F3, rfl, hS3, hK3, hF3, _⟩
  obtain ⟨A4, c4, A4', c4', rfl⟩ := hS3.ref.form
  exact ⟨b3, F3, A4, c4, A4', c4', rfl, hS3, hK3, fun k hk hn hf => hn (hF3 k hk hf)⟩

/-- Behind the call: what it told lies in the block p. -/
structure Pmid (w : World) (g p : Nat) (wr : World) (b : Nat) (s : St) (F : Nat → Prop) (A : Option Addr) (c : Nat) (A' : Option Addr) (c' : Nat) (x y z : Value) : Prop where
  side : Side F wr b s (.agg #[.slice A s.cs.length c, .int .i64 s.most, .slice A' s.hist.length c']) s
  new : Blk wr p 32 #[.slice A s.cs.length c, .int .i64 s.most, .slice A' s.hist.length c']
  box : Blk wr g 32 #[x, y, z]
  np : ¬ F p
  nb : ¬ F g
  ne : g ≠ p
  low : Below w.heap.size w wr
  nl : ∀ k, k < w.heap.size → ¬ F k
  gl : w.heap.size ≤ g

theorem Pinv.mid {w wr W w3 : World} {g b b3 : Nat} {s s' : St} {F F3 : Nat → Prop} {A A' A4 A4' : Option Addr} {c c' c4 c4' : Nat} (hp : Pinv w g wr b s F A c A' c') (hW : Below wr.heap.size wr W)
    (hS : Side F3 w3 b3 s' (.agg #[.slice A4 s'.cs.length c4, .int .i64 s'.most, .slice A4' s'.hist.length c4']) s') (hK : Keep (upF F wr.heap.size W.heap.size) W w3) (hF : ∀ k, k < W.heap.size → ¬ upF F wr.heap.size W.heap.size k → ¬ F3 k) :
    Blk w3 g 32 #[.slice A s.cs.length c, .int .i64 s.most, .slice A' s.hist.length c'] ∧ ¬ F3 g ∧ Below w.heap.size w w3 ∧ (∀ k, k < w.heap.size → ¬ F3 k) ∧ g < wr.heap.size ∧ wr.heap.size ≤ W.heap.size ∧ W.heap.size ≤ w3.heap.size := by
  have hg := hp.box.lt
  have hs := hW.size
  have hl := hp.low.size
  have nu : ∀ k, k < wr.heap.size → ¬ F k → ¬ upF F wr.heap.size W.heap.size k := fun k h1 h2 => by
    rintro (⟨h3, _⟩ | h3)
    · exact h2 h3
    · omega
  refine ⟨(hp.box.keep (hW.block g hg)).keep (hK.block g (by omega) (nu g hg hp.nb)), hF g (by omega) (nu g hg hp.nb), ?_, fun k hk => hF k (by omega) (nu k (by omega) (hp.nl k hk)), hg, hs, hK.size⟩
  refine (hp.low.trans (hW.mono hl)).trans (hK.below (B := w.heap.size) (fun k hf => ?_) (by omega))
  rcases hf with ⟨hf, _⟩ | hf
  · exact Nat.le_of_not_lt (fun h => hp.nl k h hf)
  · omega

theorem ownR_ne {w : World} {v : Value} {s : St} {p : Nat} {cs : Array Value} (h : RefS w v s) (hb : Blk w p 32 cs) : ¬ ownR v p := by
  obtain ⟨⟨vC, vL, rfl, hc, hl⟩, _, _⟩ := h
  intro hk
  rcases hk.parts with e | e
  · exact hc.ne_blk hb (by decide) e
  · exact hl.ne_blk hb (by decide) e

theorem Side.three {F : Nat → Prop} {w : World} {b p : Nat} {s r : St} {v x y z : Value} {cs : Array Value} (h : Side F w b s v r) (hb : Blk w p 32 cs) (hp : ¬ F p) :
    Side F (((w.setCell ⟨p, 0, none⟩ x).setCell ⟨p, 1, none⟩ y).setCell ⟨p, 2, none⟩ z) b s v r := by
  have hK := Keep.three w p x y z
  refine ⟨h.are.keep (fun k hk hf => hK.block k hk (fun e => hp (e ▸ hf))), fun k hk => h.hF k (by rw [size_three] at hk; exact hk), h.ref.keep (fun k hk => hK.block k (h.ref.lt k hk) (fun e => ownR_ne h.ref hb (e ▸ hk))), h.own⟩

theorem Pmid.ofSet {w w3 : World} {g p b : Nat} {s : St} {F : Nat → Prop} {A A' : Option Addr} {c c' : Nat} {x y z : Value} {a0 a1 a2 : Value} (hS : Side F w3 b s (.agg #[.slice A s.cs.length c, .int .i64 s.most, .slice A' s.hist.length c']) s)
    (pb : Blk w3 p 32 #[a0, a1, a2]) (nFp : ¬ F p) (bx : Blk w3 g 32 #[x, y, z]) (ne : g ≠ p) (nb : ¬ F g) (low : Below w.heap.size w w3) (nl : ∀ k, k < w.heap.size → ¬ F k) (gl : w.heap.size ≤ g) (pl : w.heap.size ≤ p) :
    Pmid w g p (((w3.setCell ⟨p, 0, none⟩ (.slice A s.cs.length c)).setCell ⟨p, 1, none⟩ (.int .i64 s.most)).setCell ⟨p, 2, none⟩ (.slice A' s.hist.length c')) b s F A c A' c' x y z :=
  ⟨hS.three pb nFp, by
    have := ((pb.set 0 (.slice A s.cs.length c)).set 1 (.int .i64 s.most)).set 2 (.slice A' s.hist.length c')
    simpa using this, ((bx.far (p := ⟨p, 0, none⟩) ne _).far (p := ⟨p, 1, none⟩) ne _).far (p := ⟨p, 2, none⟩) ne _, nFp, nb, ne, ((low.setCell (p := ⟨p, 0, none⟩) pl _).setCell (p := ⟨p, 1, none⟩) pl _).setCell (p := ⟨p, 2, none⟩) pl _, nl, gl⟩

theorem Pmid.ofAlloc {w w3 : World} {g b : Nat} {s : St} {F : Nat → Prop} {A A' : Option Addr} {c c' : Nat} {x y z : Value} (hS : Side F w3 b s (.agg #[.slice A s.cs.length c, .int .i64 s.most, .slice A' s.hist.length c']) s)
    (bx : Blk w3 g 32 #[x, y, z]) (nb : ¬ F g) (low : Below w.heap.size w w3) (nl : ∀ k, k < w.heap.size → ¬ F k) (gl : w.heap.size ≤ g) :
    Pmid w g w3.heap.size (w3.alloc (.cells #[.slice A s.cs.length c, .int .i64 s.most, .slice A' s.hist.length c'] 32)) b s (upF F w3.heap.size (w3.alloc (.cells #[.slice A s.cs.length c, .int .i64 s.most, .slice A' s.hist.length c'] 32)).heap.size) A c A' c' x y z := by
  have hg := bx.lt
  have hs := low.size
  refine ⟨hS.below ((Below.refl _ _).alloc (Nat.le_refl _) _), Blk.new w3 32 _, bx.alloc _, ?_, ?_, by omega, low.alloc hs _, ?_, gl⟩
  · rintro (⟨_, h⟩ | h)
    · omega
    · rw [World.size_alloc] at h; omega
  · rintro (⟨h, _⟩ | h)
    · exact nb h
    · rw [World.size_alloc] at h; omega
  · rintro k hk (⟨h, _⟩ | h)
    · exact nl k hk h
    · rw [World.size_alloc] at h; omega

theorem Pmid.done {w wr : World} {g p b : Nat} {s : St} {F : Nat → Prop} {A A' : Option Addr} {c c' : Nat} {x y z : Value} (h : Pmid w g p wr b s F A c A' c' x y z) :
    Pinv w g (((wr.setCell ⟨g, 0, none⟩ (.slice A s.cs.length c)).setCell ⟨g, 1, none⟩ (.int .i64 s.most)).setCell ⟨g, 2, none⟩ (.slice A' s.hist.length c')) b s F A c A' c' :=
  ⟨h.side.three h.box h.nb, by
    have := ((h.box.set 0 (.slice A s.cs.length c)).set 1 (.int .i64 s.most)).set 2 (.slice A' s.hist.length c')
    simpa using this, h.nb, ((h.low.setCell (p := ⟨g, 0, none⟩) h.gl _).setCell (p := ⟨g, 1, none⟩) h.gl _).setCell (p := ⟨g, 2, none⟩) h.gl _, h.nl, h.gl⟩

theorem Pinv.below {w wr w' : World} {g b : Nat} {s : St} {F : Nat → Prop} {A A' : Option Addr} {c c' : Nat} (h : Pinv w g wr b s F A c A' c') (hB : Below wr.heap.size wr w') : Pinv w g w' b s (upF F wr.heap.size w'.heap.size) A c A' c' := by
  have hg := h.box.lt
  have hs := hB.size
  have hl := h.low.size
  refine ⟨h.side.below hB, h.box.keep (hB.block _ hg), ?_, h.low.trans (hB.mono hl), ?_, h.gl⟩
  · rintro (⟨h', _⟩ | h')
    · exact h.nb h'
    · omega
  · rintro k hk (⟨h', _⟩ | h')
    · exact h.nl k hk h'
    · omega

theorem Pinv.start {w w1 w2 : World} {b m : Nat} {A1 A2 : Option Addr} {c1 c2 : Nat} {o : Obj} (ho : o = .cells #[.slice A1 0 c1, .int .i64 m, .slice A2 0 c2] 32) (a1 : WS (fun k => w.heap.size ≤ k) w w1 b ⟨m, [], []⟩) (hr : RefS w2 (.agg #[.slice A1 0 c1, .int .i64 m, .slice A2 0 c2]) ⟨m, [], []⟩)
    (hB : Below w1.heap.size w1 w2) (hno : ∀ k, ¬ ownR (.agg #[.slice A1 0 c1, .int .i64 m, .slice A2 0 c2]) k) :
    Pinv w w2.heap.size (w2.alloc o) b ⟨m, [], []⟩ (upF (fun k => w.heap.size ≤ k) w1.heap.size (w2.alloc o).heap.size) A1 c1 A2 c2 := by
  subst ho
  have hB1 := a1.toBelow
  have hs1 := hB1.size
  have hs2 := hB.size
  refine ⟨⟨(a1.are.mono (G := upF (fun k => w.heap.size ≤ k) w1.heap.size (w2.alloc (.cells #[.slice A1 0 c1, .int .i64 m, .slice A2 0 c2] 32)).heap.size) (fun k hk hf => .inl ⟨hf, hk⟩)).keep (fun k hk _ => (Below.heap_alloc _ _ _ (by omega)).trans (hB.block k hk)), fun _ hk => .inr hk, hr.alloc _, fun k hk => absurd hk (hno k)⟩, Blk.new w2 32 _, ?_, ?_, ?_, by omega⟩
  · rintro (⟨_, h⟩ | h)
    · omega
    · rw [World.size_alloc] at h; omega
  · exact (hB1.trans (hB.mono hs1)).alloc (by omega) _
  · rintro k hk (⟨h, _⟩ | h)
    · omega
    · rw [World.size_alloc] at h; omega

set_option maxRecDepth 100000 in
set_option maxHeartbeats 3200000 in
theorem plays_good (m : Nat) (A : Option Addr) (c : Nat) (l : List ActD) (w : World) (ha : ActsArg w (.slice A l.length c) l) (hf : fewB l 60 = true) (h1 : 1 ≤ m) (h2 : m ≤ 65536) :
    Calls Try.prog 3 #[.int .i64 m, .slice A l.length c] w fun e w' => e = .returned (.bool true) ∧ Below w.heap.size w w' := by
  have hl : l.length ≤ 60 := by
    unfold fewB at hf
    simp at hf
    exact hf.2
  have hfew := few_ok l A c 60 w ha (by unfold maxLen; omega)
  rw [hf] at hfew
  have hl60 : (l.length : Int) ≤ 60 := by omega
  go_enter Try.func3, Try.ntmps3
  go_wp2_with (first
    | (go_at_call 8; refine hfew.mono ?_; rintro e w' ⟨rfl, rfl⟩)
    | (go_at_call 10; refine (New_do m w h1 h2).mono ?_; rintro e w1 ⟨b, rfl, a1⟩)
    | (go_at_call 11; refine (refNew_ok m _ h1 h2).mono ?_; rintro e w2 ⟨v', rfl, hr, hB2, hno⟩; obtain ⟨A1, c1, A2, c2, rfl⟩ := hr.form)
    | (go_at_call 12; refine (num_any _ _).mono ?_; rintro e w' ⟨rfl, rfl⟩))
  have hst := Pinv.start rfl a1 hr hB2 hno
  clear hr hB2 hno a1 hfew
  obtain ⟨g, hg⟩ : ∃ g, g = w2.heap.size := ⟨_, rfl⟩
  rw [← hg] at hst ⊢
  clear hg
  go_loopw [5, 9] (fun a i wr => ∃ (k b' : Nat) (s : St) (F : Nat → Prop) (A : Option Addr) (c : Nat) (A' : Option Addr) (c' : Nat), k ≤ l.length ∧ a = .pointer (some ⟨b', 0, none⟩) ∧ i = .int .i64 (k : Int) ∧ s.hist.length ≤ k ∧ Pinv w g wr b' s F A c A' c') (fun _ i _ => l.length - (intOf i).toNat)
  case atStart => exact ⟨0, b, _, _, _, _, _, _, Nat.zero_le _, rfl, rfl, Nat.le_refl _, hst⟩
  case round =>
    obtain ⟨k, b', s, F, A3, c3, A3', c3', hk, rfl, rfl, hhk, hp⟩ := hrel
    clear hst
    have bx := hp.box
    have y0 := bx.cell 0
    have y1 := bx.cell 1
    have y2 := bx.cell 2
    simp at y0 y1 y2
    by_cases hlt : k < l.length
    · have hltI : (k : Int) < (l.length : Int) := by omega
      have hk0 : (0 : Int) ≤ (k : Int) := by omega
      obtain ⟨x, hx⟩ : ∃ x, l[k]? = some x := ⟨_, List.getElem?_eq_getElem hlt⟩
      obtain ⟨A', c', hv, hA⟩ := ha
      obtain ⟨bl, off, rfl, hbl, hcl⟩ := hA (by intro e; rw [e] at hlt; simp at hlt)
      simp only [Value.slice.injEq] at hv
      obtain ⟨rfl, _, rfl⟩ := hv
      obtain ⟨q0, q1, q2, q3⟩ := hcl k x hx
      have kp : ∀ W, Below w.heap.size w W → W.cell? ⟨bl, off + k * 4, none⟩ = some (.int .i64 x.what) ∧ W.cell? ⟨bl, off + k * 4 + 1, none⟩ = some (.int .i64 x.at_) ∧ W.cell? ⟨bl, off + k * 4 + 2, none⟩ = some (.int .u64 x.x) ∧ W.cell? ⟨bl, off + k * 4 + 3, none⟩ = some (.int .u64 x.y) := fun W hB => by
        have h : ∀ o, W.cell? ⟨bl, o, none⟩ = w.cell? ⟨bl, o, none⟩ := fun o => hB.cell (p := ⟨bl, o, none⟩) hbl
        rw [h, h, h, h]
        exact ⟨q0, q1, q2, q3⟩
      obtain ⟨l0, l1, l2, l3⟩ := kp _ hp.low
      clear hcl q0 q1 q2 q3 hx
      have hhs : s.hist.length < 1000000000 := by omega
      have BD : Below wr.heap.size wr wr.drew := (Below.refl _ _).drew
      have BN : Below wr.heap.size wr (wr.alloc (.cells #[.slice none 0 0, .int .i64 0, .slice none 0 0] 32)).drew := ((Below.refl _ _).alloc (Nat.le_refl _) _).drew
      obtain ⟨n0, n1, n2, n3⟩ := kp _ (hp.low.trans (BN.mono hp.low.size))
      have w0 := ((bx.alloc (.cells #[.slice none 0 0, .int .i64 0, .slice none 0 0] 32)).drew).cell 0
      have w1' := ((bx.alloc (.cells #[.slice none 0 0, .int .i64 0, .slice none 0 0] 32)).drew).cell 1
      have w2' := ((bx.alloc (.cells #[.slice none 0 0, .int .i64 0, .slice none 0 0] 32)).drew).cell 2
      simp only [List.getElem?_toArray, List.getElem?_cons_zero, List.getElem?_cons_succ] at w0 w1' w2'
      have nn1 : wr.heap.size ≠ g := by have := bx.lt; omega
      have nn2 : wr.heap.size ≠ bl := by have := hp.low.size; omega
      go_wp2_with fail
      go_region_held3 (fun w' => w'.cell? ⟨g, 0, none⟩ = some (.slice A3 s.cs.length c3) ∧ w'.cell? ⟨g, 1, none⟩ = some (.int .i64 s.most) ∧ w'.cell? ⟨g, 2, none⟩ = some (.slice A3' s.hist.length c3') ∧ w'.cell? ⟨bl, off + k * 4, none⟩ = some (.int .i64 x.what) ∧ w'.cell? ⟨bl, off + k * 4 + 1, none⟩ = some (.int .i64 x.at_) ∧ w'.cell? ⟨bl, off + k * 4 + 2, none⟩ = some (.int .u64 x.x) ∧ w'.cell? ⟨bl, off + k * 4 + 3, none⟩ = some (.int .u64 x.y))
        (first
          | with_reducible exact ⟨y0, y1, y2, l0, l1, l2, l3⟩
          | with_reducible exact ⟨w0, w1', w2', n0, n1, n2, n3⟩
          | with_reducible exact ⟨u0, u1, u2, m0, m1, m2, m3⟩
          | ((refine ⟨?_, ?_, ?_, ?_, ?_, ?_, ?_⟩ <;> (repeat (rw [World.cell?_setCell_far _ _ _ _ (by with_reducible first | exact nn1 | exact nn2)]))) <;> with_reducible (first | exact u0 | exact u1 | exact u2 | exact m0 | exact m1 | exact m2 | exact m3))
          | go_keep)
        ((first
        | (go_at_call 13
           refine (hp.act x hhs BD).mono ?_
           rintro e w3 ⟨b3, F3, A4, c4, A4', c4', rfl, hS3, hK3, hF3⟩
           obtain ⟨bx3, nF3, low3, nl3, gl3, ls3, lt3⟩ := hp.mid BD hS3 hK3 hF3
           obtain ⟨m0, m1, m2, m3⟩ := kp _ low3
           have u0 := bx3.cell 0
           have u1 := bx3.cell 1
           have u2 := bx3.cell 2
           simp at u0 u1 u2)
        | (go_at_call 13
           refine (hp.act x hhs BN).mono ?_
           rintro e w3 ⟨b3, F3, A4, c4, A4', c4', rfl, hS3, hK3, hF3⟩
           obtain ⟨bx3, nF3, low3, nl3, gl3, ls3, lt3⟩ := hp.mid BN hS3 hK3 hF3
           obtain ⟨m0, m1, m2, m3⟩ := kp _ low3
           have u0 := bx3.cell 0
           have u1 := bx3.cell 1
           have u2 := bx3.cell 2
           have pb3 := (Blk.new wr 32 #[.slice none 0 0, .int .i64 0, .slice none 0 0]).drew.keep (hK3.block _ (by show wr.heap.size < (wr.alloc _).heap.size; simp) (by
             rintro (⟨_, h⟩ | h)
             · omega
             · exact absurd h (by show ¬ (wr.alloc _).heap.size ≤ _; simp)))
           have nFp := hF3 wr.heap.size (by show wr.heap.size < (wr.alloc _).heap.size; simp) (by
             rintro (⟨_, h⟩ | h)
             · omega
             · exact absurd h (by show ¬ (wr.alloc _).heap.size ≤ _; simp))
           have f0 := pb3.cell 0
           have f1 := pb3.cell 1
           have f2 := pb3.cell 2
           have f3 := pb3.frozen 0
           have f4 := pb3.frozen 1
           have f5 := pb3.frozen 2
           simp at u0 u1 u2 f0 f1 f2)))
      all_goals
        rename_i hHeld
        clear hHeld
        first
          | (obtain ⟨F5, p, wF, hpe, hwf, hq⟩ : ∃ F5 p wF, p = wr.heap.size ∧ wF = (((w3.setCell ⟨wr.heap.size, 0, none⟩ (.slice A4 (actSt s x).cs.length c4)).setCell ⟨wr.heap.size, 1, none⟩ (.int .i64 (actSt s x).most)).setCell ⟨wr.heap.size, 2, none⟩ (.slice A4' (actSt s x).hist.length c4')) ∧ Pmid w g p wF b3 (actSt s x) F5 A4 c4 A4' c4' (.slice A3 s.cs.length c3) (.int .i64 s.most) (.slice A3' s.hist.length c3') :=
               ⟨_, _, _, rfl, rfl, Pmid.ofSet hS3 pb3 nFp bx3 (fun e => nn1 e.symm) nF3 low3 nl3 hp.gl hp.low.size⟩
             rw [← hwf, ← hpe])
          | (obtain ⟨F5, p, wF, hpe, hwf, hq⟩ : ∃ F5 p wF, p = w3.heap.size ∧ wF = (w3.alloc (.cells #[.slice A4 (actSt s x).cs.length c4, .int .i64 (actSt s x).most, .slice A4' (actSt s x).hist.length c4'] 32)) ∧ Pmid w g p wF b3 (actSt s x) F5 A4 c4 A4' c4' (.slice A3 s.cs.length c3) (.int .i64 s.most) (.slice A3' s.hist.length c3') :=
               ⟨_, _, _, rfl, rfl, Pmid.ofAlloc hS3 bx3 nF3 low3 nl3 hp.gl⟩
             rw [← hwf, ← hpe])
        clear hpe hwf hS3 bx3 nF3 low3 nl3 gl3 ls3 lt3 u0 u1 u2 m0 m1 m2 m3 hF3 hK3 n0 n1 n2 n3 w0 w1' w2' y0 y1 y2 l0 l1 l2 l3 bx kp nn1 nn2 BD BN hp
        have hlen := (actSt_len s x).1
        revert hq hlen
        generalize actSt s x = s'
        intro hq hlen
        have p0 := hq.new.cell 0
        have p1 := hq.new.cell 1
        have p2 := hq.new.cell 2
        have g0 := hq.box.cell 0
        have g1 := hq.box.cell 1
        have g2 := hq.box.cell 2
        have gf0 := hq.box.frozen 0
        have gf1 := hq.box.frozen 1
        have gf2 := hq.box.frozen 2
        simp at p0 p1 p2 g0 g1 g2
        have hne := hq.ne
        go_wp2_with fail
        go_region_held3 (fun w' => w'.cell? ⟨p, 0, none⟩ = some (.slice A4 s'.cs.length c4) ∧ w'.cell? ⟨p, 1, none⟩ = some (.int .i64 s'.most) ∧ w'.cell? ⟨p, 2, none⟩ = some (.slice A4' s'.hist.length c4'))
          (first
            | with_reducible exact ⟨p0, p1, p2⟩
            | ((refine ⟨?_, ?_, ?_⟩ <;> (repeat (rw [World.cell?_setCell_far _ _ _ _ (by with_reducible exact hne)]))) <;> with_reducible (first | exact p0 | exact p1 | exact p2))
            | go_keep)
          (fail)
        rename_i hHeld
        clear hHeld
        obtain ⟨F6, wG, hwg, hv⟩ : ∃ F6 wG, wG = (((wF.setCell ⟨g, 0, none⟩ (.slice A4 s'.cs.length c4)).setCell ⟨g, 1, none⟩ (.int .i64 s'.most)).setCell ⟨g, 2, none⟩ (.slice A4' s'.hist.length c4')).drew ∧ Pinv w g wG b3 s' F6 A4 c4 A4' c4' := ⟨_, _, rfl, hq.done.below (Below.refl _ _).drew⟩
        rw [← hwg]
        clear hwg hq p0 p1 p2 g0 g1 g2 gf0 gf1 gf2 hne
        have his := is_ok (k % 4) (by omega) wG hv.side (by omega)
        have hmod : (k : Int).tmod 4 = ((k % 4 : Nat) : Int) := by rw [Int.tmod_eq_emod_of_nonneg hk0]; omega
        rw [← hmod] at his
        have hwm : IntKind.i64.wrap ((k : Int).tmod 4) = (k : Int).tmod 4 := IntWalk.i64_in _ (by omega)
        clear hmod
        have b0 := hv.box.cell 0
        have b1 := hv.box.cell 1
        have b2 := hv.box.cell 2
        simp at b0 b1 b2
        go_wp2_with (go_at_call 14; refine his.mono ?_; rintro e wH ⟨rfl, hBH⟩)
        exact ⟨⟨k + 1, b3, s', _, A4, c4, A4', c4', by omega, rfl, by go_num, by omega, hv.below hBH⟩, by simp [intOf]; omega⟩
    · have hgeI : ¬ (k : Int) < (l.length : Int) := by omega
      have his := is_ok 9999 (by omega) wr hp.side (by omega)
      have hl0 := hp.low
      clear hp
      go_wp2_with (first
        | (go_at_call 14; refine his.mono ?_; rintro e wH ⟨rfl, hBH⟩)
        | (go_at_call 9; refine (works_any _).mono ?_; rintro e w9 ⟨rfl, hB9⟩))
      go_ret
      exact ⟨rfl, (hl0.trans (hBH.mono hl0.size)).trans (hB9.mono (Nat.le_trans hl0.size hBH.size))⟩
end Go.Proofs.Ytbojbhjaeekjpaa
