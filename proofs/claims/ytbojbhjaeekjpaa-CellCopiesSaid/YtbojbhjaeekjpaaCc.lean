/- The law CellCopies: the program's Same; two arenas that go on apart; its walk. -/
import Derived.Test.YtbojbhjaeekjpaaEq
import Derived.Test.YtbojbhjaeekjpaaPl
namespace Go.Proofs.Ytbojbhjaeekjpaa
open Go.RowKit
attribute [local go_sem] Oper.semAt_some

set_option maxRecDepth 100000 in
set_option maxHeartbeats 1600000 in
theorem same_ok {F G : Nat → Prop} {a c : Nat} {s t : St} (w : World) (h : Are F w a s) (k : Are G w c t) :
    Calls Try.prog 21 #[.pointer (some ⟨a, 0, none⟩), .pointer (some ⟨c, 0, none⟩)] w fun e w' => e = .returned (.bool (decide (s.most = t.most ∧ s.cs = t.cs))) ∧ ∃ n, w' = w.drewN n := by
  have he1 := exists_are h
  have he2 := exists_are k
  obtain ⟨vl, vc, hA⟩ := h
  obtain ⟨ul, uc, kA⟩ := k
  obtain ⟨A, c1, rfl, _, _⟩ := hA.cells.form
  obtain ⟨B, c2, rfl, _, _⟩ := kA.cells.form
  have hq : ∀ n, Calls Try.prog 39 #[.slice A s.cs.length c1, .slice B t.cs.length c2] (w.drewN n) fun e w' => e = .returned (.bool (decide (s.cs = t.cs))) ∧ ∃ m, w' = w.drewN m := fun n =>
    (equal_ok (w.drewN n) (hA.cells.drewN n) (kA.cells.drewN n)).mono fun e w' ⟨he, m, hw⟩ => ⟨he, n + m, by rw [hw, World.drewN_drewN]⟩
  have m1 := hA.blk.cell 3
  have m2 := kA.blk.cell 3
  have d1 := hA.blk.cell 2
  have d2 := kA.blk.cell 2
  simp at m1 m2 d1 d2
  have H := Lib.hid hq
  clear hq hA kA
  by_cases hm : s.most = t.most
  · have hmI : ((s.most : Int) == (t.most : Int)) = true := by simp [hm]
    have e : decide (s.most = t.most ∧ s.cs = t.cs) = decide (s.cs = t.cs) := by simp [hm]
    rw [e]
    clear hm e
    go_enter Try.func21, Try.ntmps21
    go_wp2_with (first
      | (go_at_call_of 31 (Value.pointer (some ⟨a, 0, none⟩)); refine he1.mono ?_; rintro e w' ⟨rfl, rfl⟩)
      | (go_at_call_of 31 (Value.pointer (some ⟨c, 0, none⟩)); refine he2.mono ?_; rintro e w' ⟨rfl, rfl⟩))
    go_quiet ((go_at_call 39; exact H.out _))
    go_wp2_with fail
    go_ret
    exact ⟨rfl, _, rfl⟩
  · have hmI : ((s.most : Int) == (t.most : Int)) = false := by simp; omega
    have e : decide (s.most = t.most ∧ s.cs = t.cs) = false := by simp [hm]
    rw [e]
    clear hm e
    go_enter Try.func21, Try.ntmps21
    go_wp2_with (first
      | (go_at_call_of 31 (Value.pointer (some ⟨a, 0, none⟩)); refine he1.mono ?_; rintro e w' ⟨rfl, rfl⟩)
      | (go_at_call_of 31 (Value.pointer (some ⟨c, 0, none⟩)); refine he2.mono ?_; rintro e w' ⟨rfl, rfl⟩))
    go_quiet ((go_at_call 39; exact H.out _))
    go_wp2_with fail
    go_ret
    exact ⟨rfl, _, rfl⟩
end Go.Proofs.Ytbojbhjaeekjpaa
namespace Go.Proofs.Ytbojbhjaeekjpaa
open Go.RowKit

/-- Two arenas that go on apart, each with the document's, which lies in a block of the call's own too. -/
structure Quad (w W : World) (a : Nat) (s1 : St) (X : Option Addr) (xc : Nat) (X' : Option Addr) (xc' p : Nat) (c : Nat) (s2 : St) (Y : Option Addr) (yc : Nat) (Y' : Option Addr) (yc' q : Nat) : Prop where
  sa : ∃ F, Side F W a s1 (.agg #[.slice X s1.cs.length xc, .int .i64 s1.most, .slice X' s1.hist.length xc']) s1
  sc : ∃ G, Side G W c s2 (.agg #[.slice Y s2.cs.length yc, .int .i64 s2.most, .slice Y' s2.hist.length yc']) s2
  bx : Blk W p 32 #[.slice X s1.cs.length xc, .int .i64 s1.most, .slice X' s1.hist.length xc']
  by_ : Blk W q 32 #[.slice Y s2.cs.length yc, .int .i64 s2.most, .slice Y' s2.hist.length yc']
  low : Below w.heap.size w W

theorem Quad.below {w W W' : World} {a c p q xc xc' yc yc' : Nat} {s1 s2 : St} {X X' Y Y' : Option Addr} (h : Quad w W a s1 X xc X' xc' p c s2 Y yc Y' yc' q) (hB : Below W.heap.size W W') :
    Quad w W' a s1 X xc X' xc' p c s2 Y yc Y' yc' q := by
  obtain ⟨F, hF⟩ := h.sa
  obtain ⟨G, hG⟩ := h.sc
  exact ⟨⟨_, hF.below hB⟩, ⟨_, hG.below hB⟩, h.bx.keep (hB.block _ h.bx.lt), h.by_.keep (hB.block _ h.by_.lt), h.low.trans (hB.mono h.low.size)⟩

/-- The copy has been made: the blocks of the copy are those from n on. -/
structure Duo (w : World) (g n : Nat) (W : World) (a c : Nat) (s : St) (F : Nat → Prop) (A : Option Addr) (ca : Nat) (A' : Option Addr) (ca' : Nat) : Prop where
  pa : Pinv w g W a s F A ca A' ca'
  ac : Are (fun k => n ≤ k ∧ k < W.heap.size) W c s
  nF : ∀ k, n ≤ k → k < W.heap.size → ¬ F k
  own : ∀ k, ownR (.agg #[.slice A s.cs.length ca, .int .i64 s.most, .slice A' s.hist.length ca']) k → k < n
  gn : g < n

theorem Duo.start {w wr W : World} {g a c : Nat} {s : St} {F : Nat → Prop} {A A' : Option Addr} {ca ca' : Nat} (hp : Pinv w g wr a s F A ca A' ca') (hc : Are (fun k => wr.heap.size ≤ k) W c s) (hB : Below wr.heap.size wr W) :
    Duo w g wr.heap.size W a c s (upF F wr.heap.size W.heap.size) A ca A' ca' :=
  ⟨hp.below hB, hc.mono (fun _ hk hf => ⟨hf, hk⟩), fun k h1 h2 => by
    rintro (⟨_, h⟩ | h) <;> omega, hp.side.ref.lt, hp.box.lt⟩

/-- One act on the elder, then a new block: the copy stands as it stood. -/
theorem Duo.act {w W w3 : World} {g n a c a' : Nat} {s s1 : St} {F F3 : Nat → Prop} {A A' X X' : Option Addr} {ca ca' xc xc' : Nat} (h : Duo w g n W a c s F A ca A' ca')
    (hS : Side F3 w3 a' s1 (.agg #[.slice X s1.cs.length xc, .int .i64 s1.most, .slice X' s1.hist.length xc']) s1) (hK : Keep F W w3) (o : Obj) :
    Side (upF (fun k => n ≤ k ∧ k < W.heap.size) W.heap.size (w3.alloc o).heap.size) (w3.alloc o) c s (.agg #[.slice A s.cs.length ca, .int .i64 s.most, .slice A' s.hist.length ca']) s ∧
    Blk (w3.alloc o) g 32 #[.slice A s.cs.length ca, .int .i64 s.most, .slice A' s.hist.length ca'] ∧ Below w.heap.size w (w3.alloc o) := by
  have hs := hK.size
  have hl := h.pa.low.size
  have sz : (w3.alloc o).heap.size = w3.heap.size + 1 := by simp
  have low3 : Below w.heap.size w w3 := h.pa.low.trans (hK.below (B := w.heap.size) (fun k hf => Nat.le_of_not_lt (fun e => h.pa.nl k e hf)) hl)
  have kp : ∀ k, k < W.heap.size → ¬ F k → (w3.alloc o).heap[k]? = W.heap[k]? := fun k h1 h2 => (Below.heap_alloc _ _ _ (by omega)).trans (hK.block k h1 h2)
  refine ⟨⟨(h.ac.mono (G := upF (fun k => n ≤ k ∧ k < W.heap.size) W.heap.size (w3.alloc o).heap.size) (fun k hk hf => .inl ⟨hf, hk⟩)).keep (fun k hk hf => ?_), fun k hk => .inr hk, h.pa.side.ref.keep (fun k hk => ?_), fun k hk hf => ?_⟩, h.pa.box.keep (kp g h.pa.box.lt h.pa.nb), low3.alloc low3.size o⟩
  · rcases hf with ⟨⟨h1, _⟩, _⟩ | hf
    · exact kp k hk (h.nF k h1 hk)
    · omega
  · exact kp k (h.pa.side.ref.lt k hk) (h.pa.side.own k hk)
  · have hn := h.own k hk
    rcases hf with ⟨⟨h1, _⟩, _⟩ | hf
    · omega
    · have := h.pa.side.ref.lt k hk
      omega

/-- Then one act on the copy, and a new block. -/
theorem Duo.act2 {w W w3 w5 : World} {g n a c a' c' : Nat} {s s1 s2 : St} {F F3 G5 : Nat → Prop} {A A' X X' Y Y' : Option Addr} {ca ca' xc xc' yc yc' : Nat} (h : Duo w g n W a c s F A ca A' ca')
    (hS : Side F3 w3 a' s1 (.agg #[.slice X s1.cs.length xc, .int .i64 s1.most, .slice X' s1.hist.length xc']) s1) (hK : Keep F W w3) (hF : ∀ k, k < W.heap.size → F3 k → F k)
    (ho : ∀ k, ownR (.agg #[.slice X s1.cs.length xc, .int .i64 s1.most, .slice X' s1.hist.length xc']) k → ownR (.agg #[.slice A s.cs.length ca, .int .i64 s.most, .slice A' s.hist.length ca']) k ∨ W.heap.size ≤ k)
    {o : Obj} (hoo : o = .cells #[.slice X s1.cs.length xc, .int .i64 s1.most, .slice X' s1.hist.length xc'] 32)
    (hS2 : Side G5 w5 c' s2 (.agg #[.slice Y s2.cs.length yc, .int .i64 s2.most, .slice Y' s2.hist.length yc']) s2) (hK2 : Keep (upF (fun k => n ≤ k ∧ k < W.heap.size) W.heap.size (w3.alloc o).heap.size) (w3.alloc o) w5)
    {o2 : Obj} (hoo2 : o2 = .cells #[.slice Y s2.cs.length yc, .int .i64 s2.most, .slice Y' s2.hist.length yc'] 32) :
    Quad w (w5.alloc o2) a' s1 X xc X' xc' w3.heap.size c' s2 Y yc Y' yc' w5.heap.size := by
  subst hoo hoo2
  have hs := hK.size
  have hl := h.pa.low.size
  obtain ⟨_, _, low4⟩ := h.act hS hK (.cells #[.slice X s1.cs.length xc, .int .i64 s1.most, .slice X' s1.hist.length xc'] 32)
  have sz : (w3.alloc (.cells #[.slice X s1.cs.length xc, .int .i64 s1.most, .slice X' s1.hist.length xc'] 32)).heap.size = w3.heap.size + 1 := by simp
  have hs2 := hK2.size
  have low5 : Below w.heap.size w w5 := low4.trans (hK2.below (B := w.heap.size) (fun k hf => by
    rcases hf with ⟨⟨h1, _⟩, _⟩ | hf
    · have := h.pa.gl; have := h.gn; omega
    · omega) low4.size)
  have nk : ∀ k, k < w3.heap.size → ¬ (n ≤ k ∧ k < W.heap.size) → (w5.alloc (.cells #[.slice Y s2.cs.length yc, .int .i64 s2.most, .slice Y' s2.hist.length yc'] 32)).heap[k]? = w3.heap[k]? := fun k h1 h2 =>
    (Below.heap_alloc _ _ _ (by omega)).trans ((hK2.block k (by omega) (by
      rintro (⟨h3, _⟩ | h3)
      · exact h2 h3
      · omega)).trans (Below.heap_alloc _ _ _ h1))
  refine ⟨⟨_, hS.move (w' := w5.alloc (.cells #[.slice Y s2.cs.length yc, .int .i64 s2.most, .slice Y' s2.hist.length yc'] 32)) (fun k hk hf => nk k hk (fun hr => ?_)) (by rw [World.size_alloc]; omega)⟩, ⟨_, hS2.below ((Below.refl _ _).alloc (Nat.le_refl _) _)⟩, ?_, Blk.new w5 32 _, low5.alloc low5.size _⟩
  · rcases hf with hf | hf
    · exact h.nF k hr.1 hr.2 (hF k hr.2 hf)
    · rcases ho k hf with e | e
      · have := h.own k e; omega
      · omega
  · refine ((Blk.new w3 32 #[.slice X s1.cs.length xc, .int .i64 s1.most, .slice X' s1.hist.length xc']).keep (hK2.block _ (by omega) ?_)).alloc _
    rintro (⟨⟨_, h3⟩, _⟩ | h3)
    · omega
    · omega
end Go.Proofs.Ytbojbhjaeekjpaa
namespace Go.Proofs.Ytbojbhjaeekjpaa
open Go.RowKit Go.Shelf
attribute [local go_sem] Oper.semAt_some

theorem ActsArg.below {w w' : World} {v : Value} {l : List ActD} (h : ActsArg w v l) (hB : Below w.heap.size w w') : ActsArg w' v l := by
  obtain ⟨A, c, rfl, h⟩ := h
  refine ⟨A, c, rfl, fun hne => ?_⟩
  obtain ⟨b, off, rfl, hb, hc⟩ := h hne
  refine ⟨b, off, rfl, Nat.lt_of_lt_of_le hb hB.size, fun i x hx => ?_⟩
  have e : ∀ o, w'.cell? ⟨b, o, none⟩ = w.cell? ⟨b, o, none⟩ := fun o => hB.cell (p := ⟨b, o, none⟩) hb
  rw [e, e, e, e]
  exact hc i x hx

def twoObj (x0 x1 : ActD) : Obj := .cells #[.int .i64 x0.what, .int .i64 x0.at_, .int .u64 x0.x, .int .u64 x0.y, .int .i64 x1.what, .int .i64 x1.at_, .int .u64 x1.x, .int .u64 x1.y] 54

theorem acts_two (w : World) (x0 x1 : ActD) : ActsArg (w.alloc (twoObj x0 x1)) (.slice (some ⟨w.heap.size, 0, none⟩) 2 2) [x0, x1] := by
  have hb : Blk (w.alloc (twoObj x0 x1)) w.heap.size 54 #[.int .i64 x0.what, .int .i64 x0.at_, .int .u64 x0.x, .int .u64 x0.y, .int .i64 x1.what, .int .i64 x1.at_, .int .u64 x1.x, .int .u64 x1.y] := Blk.new w 54 _
  refine ⟨_, _, rfl, fun _ => ⟨w.heap.size, 0, rfl, by simp, fun i x hx => ?_⟩⟩
  match i, hx with
  | 0, hx =>
    simp at hx; subst hx
    exact ⟨hb.cell 0, hb.cell 1, hb.cell 2, hb.cell 3⟩
  | 1, hx =>
    simp at hx; subst hx
    exact ⟨hb.cell 4, hb.cell 5, hb.cell 6, hb.cell 7⟩
  | i + 2, hx => simp at hx

theorem Pinv.stored {w w3 : World} {g b : Nat} {s : St} {F : Nat → Prop} {A A' : Option Addr} {c c' : Nat} {x y z : Value} (hS : Side F w3 b s (.agg #[.slice A s.cs.length c, .int .i64 s.most, .slice A' s.hist.length c']) s)
    (bx : Blk w3 g 32 #[x, y, z]) (nb : ¬ F g) (low : Below w.heap.size w w3) (nl : ∀ k, k < w.heap.size → ¬ F k) (gl : w.heap.size ≤ g) :
    Pinv w g (((w3.setCell ⟨g, 0, none⟩ (.slice A s.cs.length c)).setCell ⟨g, 1, none⟩ (.int .i64 s.most)).setCell ⟨g, 2, none⟩ (.slice A' s.hist.length c')) b s F A c A' c' :=
  ⟨hS.three bx nb, by
    have := ((bx.set 0 (.slice A s.cs.length c)).set 1 (.int .i64 s.most)).set 2 (.slice A' s.hist.length c')
    simpa using this, nb, ((low.setCell (p := ⟨g, 0, none⟩) gl _).setCell (p := ⟨g, 1, none⟩) gl _).setCell (p := ⟨g, 2, none⟩) gl _, nl, gl⟩

set_option maxRecDepth 100000 in
set_option maxHeartbeats 1600000 in
theorem copies_bad (n : Int) (A : Option Addr) (c : Nat) (l : List ActD) (x0 x1 : ActD) (w : World) (ha : ActsArg w (.slice A l.length c) l) (hl : l.length ≤ maxLen) (h : fewB l 40 = false ∨ fewB [x0, x1] 2 = false ∨ n < 1 ∨ 65536 < n) :
    Calls Try.prog 5 #[.int .i64 n, .slice A l.length c, .agg #[.int .i64 x0.what, .int .i64 x0.at_, .int .u64 x0.x, .int .u64 x0.y, .int .i64 x1.what, .int .i64 x1.at_, .int .u64 x1.x, .int .u64 x1.y]] w fun e w' => e = .returned (.bool true) ∧ Below w.heap.size w w' := by
  have B0 : Below w.heap.size w (w.alloc (.cells #[.int .i64 x0.what, .int .i64 x0.at_, .int .u64 x0.x, .int .u64 x0.y, .int .i64 x1.what, .int .i64 x1.at_, .int .u64 x1.x, .int .u64 x1.y] 54)) := (Below.refl _ _).alloc (Nat.le_refl _) _
  have f1 := few_ok l A c 40 (w.alloc (.cells #[.int .i64 x0.what, .int .i64 x0.at_, .int .u64 x0.x, .int .u64 x0.y, .int .i64 x1.what, .int .i64 x1.at_, .int .u64 x1.x, .int .u64 x1.y] 54)) (ha.below B0) hl
  have f2 : Calls Try.prog 8 #[.slice (some ⟨w.heap.size, 0, none⟩) 2 2, .int .i64 2] (w.alloc (.cells #[.int .i64 x0.what, .int .i64 x0.at_, .int .u64 x0.x, .int .u64 x0.y, .int .i64 x1.what, .int .i64 x1.at_, .int .u64 x1.x, .int .u64 x1.y] 54)) fun e w' => e = .returned (.bool (fewB [x0, x1] 2)) ∧ (w.alloc (.cells #[.int .i64 x0.what, .int .i64 x0.at_, .int .u64 x0.x, .int .u64 x0.y, .int .i64 x1.what, .int .i64 x1.at_, .int .u64 x1.x, .int .u64 x1.y] 54)) = w' :=
    few_ok [x0, x1] (some ⟨w.heap.size, 0, none⟩) 2 2 _ (acts_two w x0 x1) (by simp [maxLen])
  unfold maxLen at hl
  clear ha
  by_cases c1 : fewB l 40 = true
  · by_cases c2 : fewB [x0, x1] 2 = true
    · have h' : n < 1 ∨ 65536 < n := by
        rcases h with h | h | h
        · rw [c1] at h; cases h
        · rw [c2] at h; cases h
        · exact h
      rw [c1] at f1
      rw [c2] at f2
      clear h c1 c2
      by_cases n1 : n < 1
      · clear h'
        go_enter Try.func5, Try.ntmps5
        go_wp2_with (first
          | (go_at_call_of 8 (Value.int .i64 40); refine f1.mono ?_; rintro e w' ⟨rfl, rfl⟩)
          | (go_at_call_of 8 (Value.int .i64 2); refine f2.mono ?_; rintro e w' ⟨rfl, rfl⟩)
          | (go_at_call 9; refine (works_any _).mono ?_; rintro e w1 ⟨rfl, hB⟩))
        go_ret
        exact ⟨rfl, B0.trans (hB.mono B0.size)⟩
      · have n2 : 65536 < n := by omega
        have n3 : 1 ≤ n := by omega
        clear h' n1
        go_enter Try.func5, Try.ntmps5
        go_wp2_with (first
          | (go_at_call_of 8 (Value.int .i64 40); refine f1.mono ?_; rintro e w' ⟨rfl, rfl⟩)
          | (go_at_call_of 8 (Value.int .i64 2); refine f2.mono ?_; rintro e w' ⟨rfl, rfl⟩)
          | (go_at_call 9; refine (works_any _).mono ?_; rintro e w1 ⟨rfl, hB⟩))
        go_ret
        exact ⟨rfl, B0.trans (hB.mono B0.size)⟩
    · have c2' : fewB [x0, x1] 2 = false := by simpa using c2
      rw [c1] at f1
      rw [c2'] at f2
      clear h c1 c2 c2'
      go_enter Try.func5, Try.ntmps5
      go_wp2_with (first
        | (go_at_call_of 8 (Value.int .i64 40); refine f1.mono ?_; rintro e w' ⟨rfl, rfl⟩)
        | (go_at_call_of 8 (Value.int .i64 2); refine f2.mono ?_; rintro e w' ⟨rfl, rfl⟩)
        | (go_at_call 9; refine (works_any _).mono ?_; rintro e w1 ⟨rfl, hB⟩))
      go_ret
      exact ⟨rfl, B0.trans (hB.mono B0.size)⟩
  · have c1' : fewB l 40 = false := by simpa using c1
    rw [c1'] at f1
    clear h c1 c1' f2
    go_enter Try.func5, Try.ntmps5
    go_wp2_with (first
      | (go_at_call_of 8 (Value.int .i64 40); refine f1.mono ?_; rintro e w' ⟨rfl, rfl⟩)
      | (go_at_call 9; refine (works_any _).mono ?_; rintro e w1 ⟨rfl, hB⟩))
    go_ret
    exact ⟨rfl, B0.trans (hB.mono B0.size)⟩
end Go.Proofs.Ytbojbhjaeekjpaa
namespace Go.Proofs.Ytbojbhjaeekjpaa
open Go.RowKit Go.Shelf
attribute [local go_sem] Oper.semAt_some

set_option maxRecDepth 100000 in
set_option maxHeartbeats 3200000 in
theorem copies_good (m : Nat) (A : Option Addr) (c : Nat) (l : List ActD) (x0 x1 : ActD) (w : World) (ha : ActsArg w (.slice A l.length c) l) (hf : fewB l 40 = true) (hf2 : fewB [x0, x1] 2 = true) (h1 : 1 ≤ m) (h2 : m ≤ 65536) :
    Calls Try.prog 5 #[.int .i64 m, .slice A l.length c, .agg #[.int .i64 x0.what, .int .i64 x0.at_, .int .u64 x0.x, .int .u64 x0.y, .int .i64 x1.what, .int .i64 x1.at_, .int .u64 x1.x, .int .u64 x1.y]] w fun e w' => e = .returned (.bool true) ∧ Below w.heap.size w w' := by
  have hl : l.length ≤ 40 := by
    unfold fewB at hf
    simp at hf
    exact hf.2
  have hl40 : (l.length : Int) ≤ 40 := by omega
  have m1 : (1 : Int) ≤ (m : Int) := by omega
  have m2 : (m : Int) ≤ 65536 := by omega
  have B0 : Below w.heap.size w (w.alloc (.cells #[.int .i64 x0.what, .int .i64 x0.at_, .int .u64 x0.x, .int .u64 x0.y, .int .i64 x1.what, .int .i64 x1.at_, .int .u64 x1.x, .int .u64 x1.y] 54)) := (Below.refl _ _).alloc (Nat.le_refl _) _
  have ha0 := ha.below B0
  have f1 := few_ok l A c 40 (w.alloc (.cells #[.int .i64 x0.what, .int .i64 x0.at_, .int .u64 x0.x, .int .u64 x0.y, .int .i64 x1.what, .int .i64 x1.at_, .int .u64 x1.x, .int .u64 x1.y] 54)) ha0 (by unfold maxLen; omega)
  have f2 : Calls Try.prog 8 #[.slice (some ⟨w.heap.size, 0, none⟩) 2 2, .int .i64 2] (w.alloc (.cells #[.int .i64 x0.what, .int .i64 x0.at_, .int .u64 x0.x, .int .u64 x0.y, .int .i64 x1.what, .int .i64 x1.at_, .int .u64 x1.x, .int .u64 x1.y] 54)) fun e w' => e = .returned (.bool (fewB [x0, x1] 2)) ∧ (w.alloc (.cells #[.int .i64 x0.what, .int .i64 x0.at_, .int .u64 x0.x, .int .u64 x0.y, .int .i64 x1.what, .int .i64 x1.at_, .int .u64 x1.x, .int .u64 x1.y] 54)) = w' :=
    few_ok [x0, x1] (some ⟨w.heap.size, 0, none⟩) 2 2 _ (acts_two w x0 x1) (by simp [maxLen])
  rw [hf] at f1
  rw [hf2] at f2
  have tb : Blk (w.alloc (.cells #[.int .i64 x0.what, .int .i64 x0.at_, .int .u64 x0.x, .int .u64 x0.y, .int .i64 x1.what, .int .i64 x1.at_, .int .u64 x1.x, .int .u64 x1.y] 54)) w.heap.size 54 #[.int .i64 x0.what, .int .i64 x0.at_, .int .u64 x0.x, .int .u64 x0.y, .int .i64 x1.what, .int .i64 x1.at_, .int .u64 x1.x, .int .u64 x1.y] := Blk.new w 54 _
  clear ha hf hf2
  go_enter Try.func5, Try.ntmps5
  go_wp2_with (first
    | (go_at_call_of 8 (Value.int .i64 40); refine f1.mono ?_; rintro e w' ⟨rfl, rfl⟩)
    | (go_at_call_of 8 (Value.int .i64 2); refine f2.mono ?_; rintro e w' ⟨rfl, rfl⟩)
    | (go_at_call 10; refine (New_do m _ h1 h2).mono ?_; rintro e w1 ⟨b, rfl, a1⟩)
    | (go_at_call 11; refine (refNew_ok m _ h1 h2).mono ?_; rintro e w2 ⟨v', rfl, hr, hB2, hno⟩; obtain ⟨A1, c1, A2, c2, rfl⟩ := hr.form))
  have hst := Pinv.start rfl a1 hr hB2 hno
  obtain ⟨w0, hw0⟩ : ∃ w0, w0 = w.alloc (.cells #[.int .i64 x0.what, .int .i64 x0.at_, .int .u64 x0.x, .int .u64 x0.y, .int .i64 x1.what, .int .i64 x1.at_, .int .u64 x1.x, .int .u64 x1.y] 54) := ⟨_, rfl⟩
  rw [← hw0] at hst B0 ha0 tb
  clear hr hB2 hno a1 f1 f2 hw0
  obtain ⟨g, hg⟩ : ∃ g, g = w2.heap.size := ⟨_, rfl⟩
  rw [← hg] at hst ⊢
  clear hg
  go_loopw [7, 11] (fun a i wr => ∃ (k b' : Nat) (s : St) (F : Nat → Prop) (A : Option Addr) (c : Nat) (A' : Option Addr) (c' : Nat), k ≤ l.length ∧ a = .pointer (some ⟨b', 0, none⟩) ∧ i = .int .i64 (k : Int) ∧ s.hist.length ≤ k ∧ s.most = m ∧ Pinv w0 g wr b' s F A c A' c') (fun _ i _ => l.length - (intOf i).toNat)
  case atStart => exact ⟨0, b, _, _, _, _, _, _, Nat.zero_le _, rfl, rfl, Nat.le_refl _, rfl, hst⟩
  case round =>
    obtain ⟨k, b', s, F, A3, c3, A3', c3', hk, rfl, rfl, hhk, hsm, hp⟩ := hrel
    have Hsm := Lib.hid hsm
    clear hst hsm
    have bx := hp.box
    have y0 := bx.cell 0
    have y1 := bx.cell 1
    have y2 := bx.cell 2
    simp at y0 y1 y2
    by_cases hlt : k < l.length
    · have hltI : (k : Int) < (l.length : Int) := by omega
      have hk0 : (0 : Int) ≤ (k : Int) := by omega
      obtain ⟨x, hx⟩ : ∃ x, l[k]? = some x := ⟨_, List.getElem?_eq_getElem hlt⟩
      obtain ⟨A', c', hv, hA⟩ := ha0
      obtain ⟨bl, off, rfl, hbl, hcl⟩ := hA (by intro e; rw [e] at hlt; simp at hlt)
      simp only [Value.slice.injEq] at hv
      obtain ⟨rfl, _, rfl⟩ := hv
      obtain ⟨q0, q1, q2, q3⟩ := hcl k x hx
      have h : ∀ o, wr.cell? ⟨bl, o, none⟩ = w0.cell? ⟨bl, o, none⟩ := fun o => hp.low.cell (p := ⟨bl, o, none⟩) hbl
      rw [← h] at q0 q1 q2 q3
      have hhs : s.hist.length < 1000000000 := by omega
      have BD : Below wr.heap.size wr wr.drew := (Below.refl _ _).drew
      clear hcl h hx
      go_wp2_with fail
      go_region_with (first
        | (go_at_call 13
           refine (hp.act x hhs BD).mono ?_
           rintro e w3 ⟨b3, F3, A4, c4, A4', c4', rfl, hS3, hK3, hF3⟩
           obtain ⟨bx3, nF3, low3, nl3, gl3, ls3, lt3⟩ := hp.mid BD hS3 hK3 hF3
           have u0 := bx3.cell 0
           have u1 := bx3.cell 1
           have u2 := bx3.cell 2
           have u3 := bx3.frozen 0
           have u4 := bx3.frozen 1
           have u5 := bx3.frozen 2
           simp at u0 u1 u2))
      all_goals
        have hv := Pinv.stored hS3 bx3 nF3 low3 nl3 hp.gl
        clear u0 u1 u2 u3 u4 u5 bx3 nF3 low3 nl3 gl3 ls3 lt3 hS3 hK3 hF3 q0 q1 q2 q3 y0 y1 y2 bx hp
        go_wp2_with fail
        have hlen := (actSt_len s x).1
        exact ⟨⟨k + 1, b3, actSt s x, _, A4, c4, A4', c4', by omega, rfl, by go_num, by omega, (actSt_len s x).2.trans Hsm.out, hv⟩, by simp [intOf]; omega⟩
    · have hgeI : ¬ (k : Int) < (l.length : Int) := by omega
      have hs40 : s.hist.length ≤ 40 := by omega
      clear hhk hl hl40 ha0
      go_wp2_with (first
        | (go_at_call 19
           refine (Copy_ok wr hp.side.are).mono ?_
           rintro e wc ⟨cc, rfl, hcc, hBc⟩
           have hD := Duo.start hp hcc hBc
           have tbc := tb.keep (hD.pa.low.block _ tb.lt)
           have gc0 := hD.pa.box.cell 0
           have gc1 := hD.pa.box.cell 1
           have gc2 := hD.pa.box.cell 2
           have tc0 := tbc.cell 0
           have tc1 := tbc.cell 1
           have tc2 := tbc.cell 2
           have tc3 := tbc.cell 3
           simp at gc0 gc1 gc2 tc0 tc1 tc2 tc3)
        | (go_at_call_of 13 (Value.pointer (some ⟨b', 0, none⟩))
           refine (act_ok x0 hD.pa.side (by omega)).mono ?_
           rintro e w3 ⟨a', v3, F3, rfl, hS3, hK3, hF3, ho3⟩
           obtain ⟨X, xc, X', xc', rfl⟩ := hS3.ref.form
           obtain ⟨hSc, gb4, low4⟩ := hD.act hS3 hK3 (.cells #[.slice X (actSt s x0).cs.length xc, .int .i64 (actSt s x0).most, .slice X' (actSt s x0).hist.length xc'] 32)
           have tb4 := tb.keep (low4.block _ tb.lt)
           have gd0 := gb4.cell 0
           have gd1 := gb4.cell 1
           have gd2 := gb4.cell 2
           have td0 := tb4.cell 4
           have td1 := tb4.cell 5
           have td2 := tb4.cell 6
           have td3 := tb4.cell 7
           simp at gd0 gd1 gd2 td0 td1 td2 td3)
        | (go_at_call_of 13 (Value.pointer (some ⟨cc, 0, none⟩))
           refine (act_ok x1 hSc (by omega)).mono ?_
           rintro e w5 ⟨c', v5, G5, rfl, hS5, hK5, hF5, ho5⟩
           obtain ⟨Y, yc, Y', yc', rfl⟩ := hS5.ref.form
           have hQ := hD.act2 hS3 hK3 hF3 ho3 rfl hS5 hK5 (o2 := .cells #[.slice Y (actSt s x1).cs.length yc, .int .i64 (actSt s x1).most, .slice Y' (actSt s x1).hist.length yc'] 32) rfl
           have p0 := hQ.bx.cell 0
           have p1 := hQ.bx.cell 1
           have p2 := hQ.bx.cell 2
           have r0 := hQ.by_.cell 0
           have r1 := hQ.by_.cell 1
           have r2 := hQ.by_.cell 2
           simp at p0 p1 p2 r0 r1 r2))
      clear p0 p1 p2 r0 r1 r2 hS5 hK5 hF5 ho5 hSc gb4 low4 tb4 gd0 gd1 gd2 td0 td1 td2 td3 hS3 hK3 hF3 ho3 hcc hBc hD tbc gc0 gc1 gc2 tc0 tc1 tc2 tc3 y0 y1 y2 bx hp tb
      have k1 : (actSt s x0).hist.length ≤ 1024 := by have := (actSt_len s x0).1; omega
      have k2 : (actSt s x1).hist.length ≤ 1024 := by have := (actSt_len s x1).1; omega
      have e1 := Lib.hid ((actSt_len s x0).2.trans Hsm.out)
      have e2 := Lib.hid ((actSt_len s x1).2.trans Hsm.out)
      obtain ⟨w6, hw6⟩ : ∃ w6, w6 = w5.alloc (.cells #[.slice Y (actSt s x1).cs.length yc, .int .i64 (actSt s x1).most, .slice Y' (actSt s x1).hist.length yc'] 32) := ⟨_, rfl⟩
      rw [← hw6] at hQ ⊢
      clear hw6
      obtain ⟨p, hpe⟩ : ∃ p, p = w3.heap.size := ⟨_, rfl⟩
      rw [← hpe] at hQ ⊢
      clear hpe
      obtain ⟨q, hqe⟩ : ∃ q, q = w5.heap.size := ⟨_, rfl⟩
      rw [← hqe] at hQ ⊢
      clear hqe
      revert k1 k2 e1 e2 hQ
      generalize actSt s x0 = s1
      generalize actSt s x1 = s2
      intro k1 k2 e1 e2 hQ
      obtain ⟨Fa, hFa⟩ := hQ.sa
      obtain ⟨Gc, hGc⟩ := hQ.sc
      obtain ⟨sm, hsm⟩ : ∃ sm, sm = decide (s1.most = s2.most ∧ s1.cs = s2.cs) := ⟨_, rfl⟩
      have hrS := refSame w6 hFa.ref hGc.ref
      rw [← hsm] at hrS
      have hm3 : (1 : Int) + (m : Int).tmod 65536 = ((m % 65536 + 1 : Nat) : Int) := by rw [Int.tmod_eq_emod_of_nonneg (by omega)]; omega
      have hN : ∀ w, Calls Try.prog 10 #[.int .i64 (1 + (m : Int).tmod 65536)] w fun e w' => ∃ b, e = .returned (.tuple #[.pointer (some ⟨b, 0, none⟩), .int .i64 0]) ∧ WS (fun k => w.heap.size ≤ k) w w' b ⟨m % 65536 + 1, [], []⟩ := fun w => by
        rw [hm3]; exact New_do _ w (by omega) (by omega)
      have hw1 : IntKind.i64.wrap ((m : Int).tmod 65536) = (m : Int).tmod 65536 := IntWalk.i64_in _ (by omega)
      have hw2 : IntKind.i64.wrap (1 + (m : Int).tmod 65536) = 1 + (m : Int).tmod 65536 := IntWalk.i64_in _ (by omega)
      have hsame1 : ∀ {F G : Nat → Prop} (W : World), Are F W a' s1 → Are G W c' s2 → Calls Try.prog 21 #[.pointer (some ⟨a', 0, none⟩), .pointer (some ⟨c', 0, none⟩)] W fun e w' => e = .returned (.bool sm) ∧ ∃ n, w' = W.drewN n := fun W h1 h2 => by
        rw [hsm]; exact same_ok W h1 h2
      have hsame2 : ∀ {F G : Nat → Prop} (W : World), Are F W a' s1 → Are G W c' s2 → Calls Try.prog 21 #[.pointer (some ⟨c', 0, none⟩), .pointer (some ⟨a', 0, none⟩)] W fun e w' => e = .returned (.bool sm) ∧ ∃ n, w' = W.drewN n := fun W h1 h2 => by
        have e : sm = decide (s2.most = s1.most ∧ s2.cs = s1.cs) := by rw [hsm]; simp [eq_comm]
        rw [e]; exact same_ok W h2 h1
      have hsame3 : ∀ {F G : Nat → Prop} (W : World) (o : Nat), Are F W a' s1 → Are G W o ⟨m % 65536 + 1, [], []⟩ → Calls Try.prog 21 #[.pointer (some ⟨a', 0, none⟩), .pointer (some ⟨o, 0, none⟩)] W fun e w' => e = .returned (.bool false) ∧ ∃ n, w' = W.drewN n := fun W o h1 h2 => by
        have e : decide (s1.most = (St.mk (m % 65536 + 1) [] []).most ∧ s1.cs = (St.mk (m % 65536 + 1) [] []).cs) = false := by
          have := e1.out
          simp; intro h; omega
        have := same_ok W h1 h2
        rw [e] at this
        exact this
      have bel : ∀ (W W' : World), (∃ n, W' = W.drewN n) → Below W.heap.size W W' := fun W W' ⟨n, h⟩ => by rw [h]; exact below_drewN (Below.refl _ _) n
      clear hFa hGc hm3
      have hLow := hQ.low
      have Hs := Lib.hid hsm
      clear hsm e1 e2 Hsm
      go_wp2_with (first
        | (go_at_call 20
           refine hrS.mono ?_
           rintro e w7 ⟨rfl, hB7⟩
           have hQ7 := hQ.below hB7)
        | (go_at_call 10
           refine (hN _).mono ?_
           rintro e w8 ⟨o, rfl, ao⟩
           have hQ8 := hQ7.below ao.toBelow
           obtain ⟨Fa8, hFa8⟩ := hQ8.sa
           have p0 := hQ8.bx.cell 0
           have p1 := hQ8.bx.cell 1
           have p2 := hQ8.bx.cell 2
           simp at p0 p1 p2)
        | (go_at_call 12; refine (num_any _ _).mono ?_; rintro e w' ⟨rfl, rfl⟩)
        | (go_at_call_of 14 (Value.pointer (some ⟨a', 0, none⟩))
           refine (is_ok 9999 (by omega) _ hFa8 k1).mono ?_
           rintro e w9 ⟨rfl, hB9⟩
           have hQ9 := hQ8.below hB9
           have ao9 := ao.are.below hB9
           obtain ⟨Gc9, hGc9⟩ := hQ9.sc
           have r0 := hQ9.by_.cell 0
           have r1 := hQ9.by_.cell 1
           have r2 := hQ9.by_.cell 2
           simp at r0 r1 r2)
        | (go_at_call_of 14 (Value.pointer (some ⟨c', 0, none⟩))
           refine (is_ok 9999 (by omega) _ hGc9 k2).mono ?_
           rintro e w10 ⟨rfl, hB10⟩
           have hQ10 := hQ9.below hB10
           have ao10 := ao9.below hB10
           obtain ⟨F10, hF10⟩ := hQ10.sa
           obtain ⟨G10, hG10⟩ := hQ10.sc)
        | (go_at_call_of 21 (Value.pointer (some ⟨o, 0, none⟩))
           refine (hsame3 _ o (hF12.are) ao12).mono ?_
           rintro e w13 ⟨rfl, hw13⟩
           have hQ13 := hQ12.below (bel _ _ hw13)
           clear hw13)
        | (have := ao11
           go_at_call 21
           refine (hsame2 _ hF11.are hG11.are).mono ?_
           rintro e w12 ⟨rfl, hw12⟩
           have hQ12 := hQ11.below (bel _ _ hw12)
           have ao12 := ao11.below (bel _ _ hw12)
           clear hw12
           obtain ⟨F12, hF12⟩ := hQ12.sa)
        | (go_at_call 21
           refine (hsame1 _ hF10.are hG10.are).mono ?_
           rintro e w11 ⟨rfl, hw11⟩
           have hQ11 := hQ10.below (bel _ _ hw11)
           have ao11 := ao10.below (bel _ _ hw11)
           clear hw11
           obtain ⟨F11, hF11⟩ := hQ11.sa
           obtain ⟨G11, hG11⟩ := hQ11.sc)
        | (go_at_call 9
           refine (works_any _).mono ?_
           rintro e w14 ⟨rfl, hB14⟩))
      go_ret
      exact ⟨rfl, B0.trans ((hQ13.below hB14).low.mono B0.size)⟩
end Go.Proofs.Ytbojbhjaeekjpaa
