/- What stands in works: blocks, functions that are written down. -/
import Derived.Test.YtleihdakmibmhaaFs
import Derived.Test.YtleihdakmibmhaaFp
import Derived.Test.YtleihdakmibmhaaFj
import Derived.Test.YtleihdakmibmhaaJn
namespace Go.Proofs.Ytleihdakmibmhaa
open Go.RowKit Go.Shelf
attribute [local go_sem] Oper.semAt_some store_nilFunc6 store_func6

/-- What stands: blocks that are known whole, functions. -/
structure KB (w : World) (bs : List (Nat × TypeId × Array Value)) (fs : List (Nat × Value × Fd)) (W : World) : Prop where
  bl : Below w.heap.size w W
  own : ∀ g t cs, (g, t, cs) ∈ bs → w.heap.size ≤ g ∧ Blk W g t cs
  fn : ∀ hi v F, (hi, v, F) ∈ fs → FunI W 0 hi v F ∧ hi ≤ W.heap.size
section
variable {w W W' : World} {bs : List (Nat × TypeId × Array Value)} {fs : List (Nat × Value × Fd)}
theorem KB.start (w : World) : KB w [] [] w := ⟨Below.refl _ _, by simp, by simp⟩
theorem KB.below (h : KB w bs fs W) (hb : Below W.heap.size W W') : KB w bs fs W' :=
  ⟨h.bl.trans (hb.mono h.bl.size), fun g t cs hm => ⟨(h.own g t cs hm).1, (h.own g t cs hm).2.keep (hb.block _ (h.own g t cs hm).2.lt)⟩,
    fun hi v F hm => ⟨(h.fn hi v F hm).1.below hb (h.fn hi v F hm).2, Nat.le_trans (h.fn hi v F hm).2 hb.size⟩⟩
theorem KB.alloc (h : KB w bs fs W) (o : Obj) : KB w bs fs (W.alloc o) := h.below ((Below.refl _ W).alloc (Nat.le_refl _) _)
theorem KB.drew (h : KB w bs fs W) : KB w bs fs W.drew := h.below ((Below.refl _ W).drew)
theorem KB.addB (h : KB w bs fs W) {g : Nat} {t : TypeId} {cs : Array Value} (hb : Blk W g t cs) (hg : w.heap.size ≤ g) : KB w ((g, t, cs) :: bs) fs W :=
  ⟨h.bl, fun g' t' cs' hm => by
    rcases List.mem_cons.1 hm with e | hm
    · cases e; exact ⟨hg, hb⟩
    · exact h.own _ _ _ hm, h.fn⟩
theorem KB.addF (h : KB w bs fs W) {hi : Nat} {v : Value} {F : Fd} (hf : FunI W 0 hi v F) (hh : hi ≤ W.heap.size) : KB w bs ((hi, v, F) :: fs) W :=
  ⟨h.bl, h.own, fun hi' v' F' hm => by
    rcases List.mem_cons.1 hm with e | hm
    · cases e; exact ⟨hf, hh⟩
    · exact h.fn _ _ _ hm⟩
theorem KB.sub (h : KB w bs fs W) {bs' : List (Nat × TypeId × Array Value)} {fs' : List (Nat × Value × Fd)} (h1 : ∀ x ∈ bs', x ∈ bs) (h2 : ∀ x ∈ fs', x ∈ fs) : KB w bs' fs' W :=
  ⟨h.bl, fun g t cs hm => h.own g t cs (h1 _ hm), fun hi v F hm => h.fn hi v F (h2 _ hm)⟩
theorem KB.pushB (h : KB w bs fs W) (t : TypeId) (cs : Array Value) : KB w ((W.heap.size, t, cs) :: bs) fs (W.alloc (.cells cs t)) := (h.alloc _).addB (Blk.new _ _ _) h.bl.size
theorem KB.set (h : KB w bs fs W) {nb i : Nat} (hn : ∀ x ∈ bs, x.1 ≠ nb) (hf : ∀ x ∈ fs, x.1 ≤ nb) (hw : w.heap.size ≤ nb) (u : Value) : KB w bs fs (W.setCell ⟨nb, i, none⟩ u) :=
  ⟨h.bl.setCell hw _, fun g t cs hm => ⟨(h.own g t cs hm).1, (h.own g t cs hm).2.far (hn _ hm) _⟩, fun hi v F hm =>
    ⟨(h.fn hi v F hm).1.keep (fun k _ h2 => Below.heap_setCell _ _ _ _ (by have := hf _ hm; show k ≠ nb; omega)), by simpa [World.setCell] using (h.fn hi v F hm).2⟩⟩
theorem KB.keepB (h : KB w bs fs W) {B : Nat} (hk : Keep (fun k => B ≤ k) W W') (hw : w.heap.size ≤ B) (hb : ∀ x ∈ bs, x.1 < B) (hf : ∀ x ∈ fs, x.1 ≤ B) : KB w bs fs W' :=
  ⟨h.bl.trans ((hk.mono (G := fun k => w.heap.size ≤ k) (fun k hk => by omega)).below (fun _ hk => hk) h.bl.size), fun g t cs hm => ⟨(h.own g t cs hm).1, (h.own g t cs hm).2.keepB hk (hb _ hm)⟩,
    fun hi v F hm => ⟨(h.fn hi v F hm).1.keep (fun k _ h2 => hk.block k (by have := (h.fn hi v F hm).2; omega) (by have := hf _ hm; omega)), Nat.le_trans (h.fn hi v F hm).2 hk.size⟩⟩
theorem KB.call {P : Program} {f : Nat} {args : Array Value} {Q : Ending → Prop} (h : KB w bs fs W) (hc : Calls P f args W fun e w' => Q e ∧ Below W.heap.size W w') : Calls P f args W fun e w' => Q e ∧ Hid (KB w bs fs w') :=
  hc.mono fun _ _ q => ⟨q.1, Lib.hid (h.below q.2)⟩
theorem KB.lts (h : KB w bs fs W) : (∀ x ∈ bs, x.1 < W.heap.size) ∧ (∀ x ∈ fs, x.1 ≤ W.heap.size) := ⟨fun x hx => (h.own x.1 x.2.1 x.2.2 hx).2.lt, fun x hx => (h.fn x.1 x.2.1 x.2.2 hx).2⟩
theorem KB.box1 (h : Hid (KB w bs fs W)) {g : Nat} {t : TypeId} {a : Value} (hm : (g, t, #[a]) ∈ bs) : W.cell? ⟨g, 0, none⟩ = some a ∧ W.frozen? ⟨g, 0, none⟩ = false ∧ g < W.heap.size := by
  have hb := (h.out.own _ _ _ hm).2
  exact ⟨by simpa using hb.cell 0, hb.frozen 0, hb.lt⟩
theorem KB.box2 (h : Hid (KB w bs fs W)) {g : Nat} {t : TypeId} {a b : Value} (hm : (g, t, #[a, b]) ∈ bs) : W.cell? ⟨g, 0, none⟩ = some a ∧ W.cell? ⟨g, 1, none⟩ = some b ∧ g < W.heap.size := by
  have hb := (h.out.own _ _ _ hm).2
  exact ⟨by simpa using hb.cell 0, by simpa using hb.cell 1, hb.lt⟩
theorem KB.funI (h : KB w bs fs W) {hi : Nat} {v : Value} {F : Fd} (hm : (hi, v, F) ∈ fs) : FunI W 0 W.heap.size v F := (h.fn _ _ _ hm).1.mono (Nat.le_refl _) (h.fn _ _ _ hm).2
end

/-! ### Functions that are written down -/
theorem NodesI.lit {W : World} {lo hi g : Nat} {cs : Array Value} {ns : List Nd} (hb : Blk W g 47 cs) (h : ∀ (i : Nat) (x : Nd), ns[i]? = some x → ∃ v, cs[i * 3]? = some (.int .i64 x.op) ∧ cs[i * 3 + 1]? = some (.int .i64 x.n) ∧ cs[i * 3 + 2]? = some v ∧ IntsI W lo hi v x.l ∧ W64 x.op ∧ W64 x.n)
    (hm : ns.length ≤ maxLen) (h1 : lo ≤ g) (h2 : g < hi) : NodesI W lo hi (.slice (some ⟨g, 0, none⟩) ns.length ns.length) ns :=
  ⟨_, _, rfl, Nat.le_refl _, hm, fun _ => ⟨g, 0, rfl, h1, h2, fun i x hx => by
    obtain ⟨v, c0, c1, c2, hv, w0, w1⟩ := h i x hx
    exact ⟨v, by rw [Nat.zero_add, hb.cell]; exact c0, by rw [Nat.zero_add, hb.cell]; exact c1, by rw [Nat.zero_add, hb.cell]; exact c2, hv, w0, w1⟩⟩⟩
theorem IntsI.lit2 {W : World} {lo hi g : Nat} {a b : Int} (hb : Blk W g 3 #[.int .i64 a, .int .i64 b]) (ha : W64 a) (hb' : W64 b) (h1 : lo ≤ g) (h2 : g < hi) : IntsI W lo hi (.slice (some ⟨g, 0, none⟩) 2 2) [a, b] :=
  IntsI.of_blk (c := 2) (xs := [a, b]) hb (fun j y hy => by
    match j, hy with
    | 0, hy => simp at hy; subst hy; rfl
    | 1, hy => simp at hy; subst hy; rfl) (fun y hy => by simp at hy; rcases hy with rfl | rfl <;> assumption) (by simp) (by simp [maxLen]) h1 h2
theorem IntsI.lit1 {W : World} {lo hi g : Nat} {a : Int} (hb : Blk W g 3 #[.int .i64 a]) (ha : W64 a) (h1 : lo ≤ g) (h2 : g < hi) : IntsI W lo hi (.slice (some ⟨g, 0, none⟩) 1 1) [a] :=
  IntsI.of_blk (c := 1) (xs := [a]) hb (fun j y hy => by
    match j, hy with
    | 0, hy => simp at hy; subst hy; rfl) (fun y hy => by simp at hy; subst hy; assumption) (by simp) (by simp [maxLen]) h1 h2
/-- Three nodes, the first one over two. -/
theorem fun3 {W : World} {gi g : Nat} {p o0 k0 a b o1 k1 o2 k2 : Int} (hi : Blk W gi 3 #[.int .i64 a, .int .i64 b]) (hn : Blk W g 47 #[.int .i64 o0, .int .i64 k0, .slice (some ⟨gi, 0, none⟩) 2 2, .int .i64 o1, .int .i64 k1, .slice none 0 0, .int .i64 o2, .int .i64 k2, .slice none 0 0])
    (hw : W64 p ∧ W64 o0 ∧ W64 k0 ∧ W64 a ∧ W64 b ∧ W64 o1 ∧ W64 k1 ∧ W64 o2 ∧ W64 k2) : FunI W 0 W.heap.size (.agg #[.int .i64 p, .slice (some ⟨g, 0, none⟩) 3 3]) ⟨p, [⟨o0, k0, [a, b]⟩, ⟨o1, k1, []⟩, ⟨o2, k2, []⟩]⟩ := by
  obtain ⟨h1, h2, h3, h4, h5, h6, h7, h8, h9⟩ := hw
  refine ⟨_, rfl, h1, NodesI.lit (ns := [⟨o0, k0, [a, b]⟩, ⟨o1, k1, []⟩, ⟨o2, k2, []⟩]) hn (fun i x hx => ?_) (by simp [maxLen]) (Nat.zero_le _) hn.lt⟩
  match i, hx with
  | 0, hx => simp at hx; subst hx; exact ⟨_, rfl, rfl, rfl, IntsI.lit2 hi h4 h5 (Nat.zero_le _) hi.lt, h2, h3⟩
  | 1, hx => simp at hx; subst hx; exact ⟨_, rfl, rfl, rfl, IntsI.nil _ _ _, h6, h7⟩
  | 2, hx => simp at hx; subst hx; exact ⟨_, rfl, rfl, rfl, IntsI.nil _ _ _, h8, h9⟩
def rows3 (gi : Nat) (o0 k0 o1 k1 o2 k2 : Int) : Array Value := #[.int .i64 o0, .int .i64 k0, .slice (some ⟨gi, 0, none⟩) 2 2, .int .i64 o1, .int .i64 k1, .slice none 0 0, .int .i64 o2, .int .i64 k2, .slice none 0 0]
/-- Memory behind of(p, node(o0, k0, a, b), node(o1, k1), node(o2, k2)). -/
def mk3 (W : World) (gi : Nat) (p o0 k0 a b o1 k1 o2 k2 : Int) : World :=
  (((((W.alloc (.cells #[.int .i64 a, .int .i64 b] 3)).alloc (.cells #[.int .i64 o0, .int .i64 k0, .slice (some ⟨gi, 0, none⟩) 2 2] 47)).alloc (.cells #[.int .i64 o1, .int .i64 k1, .slice none 0 0] 47)).alloc (.cells #[.int .i64 o2, .int .i64 k2, .slice none 0 0] 47)).alloc
    (.cells #[.int .i64 o0, .int .i64 k0, .slice (some ⟨gi, 0, none⟩) 2 2, .int .i64 o1, .int .i64 k1, .slice none 0 0, .int .i64 o2, .int .i64 k2, .slice none 0 0] 47)).alloc (.cells #[.int .i64 p, .slice (some ⟨gi + 1 + 1 + 1 + 1, 0, none⟩) 3 3] 24)
theorem KB.lit3 {w W : World} {bs : List (Nat × TypeId × Array Value)} {fs : List (Nat × Value × Fd)} {gi : Nat} {p o0 k0 a b o1 k1 o2 k2 : Int} (h : KB w bs fs W) (hg : W.heap.size = gi) (hw : W64 p ∧ W64 o0 ∧ W64 k0 ∧ W64 a ∧ W64 b ∧ W64 o1 ∧ W64 k1 ∧ W64 o2 ∧ W64 k2) :
    (mk3 W gi p o0 k0 a b o1 k1 o2 k2).heap.size = gi + 1 + 1 + 1 + 1 + 1 + 1 ∧
    KB w ((gi + 1 + 1 + 1 + 1, 47, rows3 gi o0 k0 o1 k1 o2 k2) :: bs) ((gi + 1 + 1 + 1 + 1 + 1 + 1, .agg #[.int .i64 p, .slice (some ⟨gi + 1 + 1 + 1 + 1, 0, none⟩) 3 3], ⟨p, [⟨o0, k0, [a, b]⟩, ⟨o1, k1, []⟩, ⟨o2, k2, []⟩]⟩) :: fs) (mk3 W gi p o0 k0 a b o1 k1 o2 k2) := by
  subst hg
  have h1 := (((((h.pushB 3 #[.int .i64 a, .int .i64 b]).alloc (.cells #[.int .i64 o0, .int .i64 k0, .slice (some ⟨W.heap.size, 0, none⟩) 2 2] 47)).alloc (.cells #[.int .i64 o1, .int .i64 k1, .slice none 0 0] 47)).alloc (.cells #[.int .i64 o2, .int .i64 k2, .slice none 0 0] 47)).pushB 47 (rows3 W.heap.size o0 k0 o1 k1 o2 k2)).alloc (.cells #[.int .i64 p, .slice (some ⟨W.heap.size + 1 + 1 + 1 + 1, 0, none⟩) 3 3] 24)
  simp only [World.size_alloc] at h1
  have hs : (mk3 W W.heap.size p o0 k0 a b o1 k1 o2 k2).heap.size = W.heap.size + 1 + 1 + 1 + 1 + 1 + 1 := by unfold mk3; simp only [World.size_alloc]
  have hf := fun3 (p := p) (a := a) (b := b) (h1.own W.heap.size 3 _ (by simp)).2 (h1.own (W.heap.size + 1 + 1 + 1 + 1) 47 (rows3 W.heap.size o0 k0 o1 k1 o2 k2) (by simp)).2 hw
  refine ⟨hs, ((h1.addF hf (Nat.le_refl _)).sub (fun x hx => ?_) (fun x hx => ?_))⟩
  · rcases List.mem_cons.1 hx with rfl | hx
    · simp
    · simp [hx]
  · rcases List.mem_cons.1 hx with rfl | hx
    · simp only [World.size_alloc]; simp
    · simp [hx]
/-- Two nodes. -/
theorem fun2 {W : World} {g : Nat} {p o0 k0 o1 k1 : Int} {s : Value} {l : List Int} (hi : IntsI W 0 W.heap.size s l) (hn : Blk W g 47 #[.int .i64 o0, .int .i64 k0, s, .int .i64 o1, .int .i64 k1, .slice none 0 0])
    (hw : W64 p ∧ W64 o0 ∧ W64 k0 ∧ W64 o1 ∧ W64 k1) : FunI W 0 W.heap.size (.agg #[.int .i64 p, .slice (some ⟨g, 0, none⟩) 2 2]) ⟨p, [⟨o0, k0, l⟩, ⟨o1, k1, []⟩]⟩ := by
  obtain ⟨h1, h2, h3, h6, h7⟩ := hw
  refine ⟨_, rfl, h1, NodesI.lit (ns := [⟨o0, k0, l⟩, ⟨o1, k1, []⟩]) hn (fun i x hx => ?_) (by simp [maxLen]) (Nat.zero_le _) hn.lt⟩
  match i, hx with
  | 0, hx => simp at hx; subst hx; exact ⟨_, rfl, rfl, rfl, hi, h2, h3⟩
  | 1, hx => simp at hx; subst hx; exact ⟨_, rfl, rfl, rfl, IntsI.nil _ _ _, h6, h7⟩
/-- One node. -/
theorem fun1 {W : World} {g : Nat} {p o0 k0 : Int} (hn : Blk W g 47 #[.int .i64 o0, .int .i64 k0, .slice none 0 0]) (hw : W64 p ∧ W64 o0 ∧ W64 k0) : FunI W 0 W.heap.size (.agg #[.int .i64 p, .slice (some ⟨g, 0, none⟩) 1 1]) ⟨p, [⟨o0, k0, []⟩]⟩ := by
  obtain ⟨h1, h2, h3⟩ := hw
  refine ⟨_, rfl, h1, NodesI.lit (ns := [⟨o0, k0, []⟩]) hn (fun i x hx => ?_) (by simp [maxLen]) (Nat.zero_le _) hn.lt⟩
  match i, hx with
  | 0, hx => simp at hx; subst hx; exact ⟨_, rfl, rfl, rfl, IntsI.nil _ _ _, h2, h3⟩
theorem fun0 (W : World) (p : Int) (hp : W64 p) : FunI W 0 W.heap.size (.agg #[.int .i64 p, .slice none 0 0]) ⟨p, []⟩ := ⟨_, rfl, hp, none, 0, rfl, Nat.le_refl _, by simp [maxLen], fun h => absurd rfl h⟩
def FA : Fd := ⟨1, [⟨6, 0, [1, 2]⟩, ⟨3, 0, []⟩, ⟨1, 5, []⟩]⟩
def FB : Fd := ⟨0, [⟨4, 0, [1, 2]⟩, ⟨1, 5, []⟩, ⟨3, 0, []⟩]⟩
def FC : Fd := ⟨0, [⟨13, 7, [1]⟩, ⟨14, 3, []⟩]⟩
theorem FA_where : whereF FA = (0, 0) := by decide +kernel
theorem FA_done : doneF FA FA.ns.length 0 = [1, 2, 0] := by decide +kernel
theorem FA_depth : depthF FA 1 = (1, 0) := by decide +kernel
theorem FA_parent2 : parentF FA 2 = (0, 0) := by decide +kernel
theorem FA_parent0 : parentF FA 0 = (0, 5) := by decide +kernel
theorem FB_depth1 : depthF FB 1 = (0, 0) := by decide +kernel
theorem FB_depth2 : depthF FB 2 = (1, 0) := by decide +kernel
theorem FC_named : namedL FC = [0, 1] := by decide +kernel
theorem FA_ok : ∃ st, placesF FA = .ok st := ⟨_, rfl⟩
theorem FB_ok : ∃ st, placesF FB = .ok st := ⟨_, rfl⟩
theorem FC_ok : ∃ st, placesF FC = .ok st := ⟨_, rfl⟩
theorem bad1 : placesF ⟨0, [⟨6, 0, [1, 2]⟩, ⟨3, 0, []⟩, ⟨1, 5, []⟩]⟩ = .bad 1 := rfl
theorem bad2 : placesF ⟨0, [⟨6, 0, [1, 1]⟩, ⟨1, 5, []⟩]⟩ = .bad 0 := rfl
theorem bad3 : placesF ⟨0, [⟨1, 5, []⟩, ⟨2, 0, []⟩]⟩ = .bad 1 := rfl
theorem bad4 : placesF ⟨0, []⟩ = .bad 0 := rfl
theorem bad5 : placesF ⟨0, [⟨2, 1, []⟩]⟩ = .bad 0 := rfl
theorem KB.iter {w W : World} {bs : List (Nat × TypeId × Array Value)} {fs : List (Nat × Value × Fd)} {f fn : Nat} {args : Array Value} {F : Fd} (h : KB w bs fs W) (hc : Calls Try.prog f args W (IterP fn W F)) :
    Calls Try.prog f args W fun e w' => ∃ kb hi A c, e = .returned (.func (.func fn) #[] #[.pointer (some ⟨kb, 0, none⟩)]) ∧
      Hid (hi ≤ kb ∧ KB w ((kb, 24, #[.int .i64 F.p, .slice A F.ns.length c]) :: bs) ((hi, .agg #[.int .i64 F.p, .slice A F.ns.length c], F) :: fs) w') :=
  hc.mono fun e w' q => by
    obtain ⟨kb, s, hi, rfl, h1, h2, h3, h4, h5⟩ := q
    obtain ⟨A, c, e⟩ := h2.form
    simp only [Value.agg.injEq, Array.mk.injEq, List.cons.injEq, and_true, true_and] at e
    subst e
    refine ⟨kb, hi, A, c, rfl, Lib.hid ⟨h3, ((h.below h5).addF (h2.mono (Nat.zero_le _) (Nat.le_refl _)) (by have := h1.lt; omega)).addB h1 (Nat.le_trans h.bl.size h4)⟩⟩
theorem cases3 {pre rest : List Nat} {x : Nat} (h : [1, 2, 0] = pre ++ x :: rest) : (pre = [] ∧ x = 1) ∨ (pre = [1] ∧ x = 2) ∨ (pre = [1, 2] ∧ x = 0) := by
  match pre, h with
  | [], h => simp at h; simp [h.1]
  | [a], h => simp at h; simp [h.1, h.2.1]
  | [a, b], h => simp at h; simp [h.1, h.2.1, h.2.2.1]
  | a :: b :: c :: r, h => simp at h
theorem cases2 {pre rest : List Nat} {x : Nat} (h : [0, 1] = pre ++ x :: rest) : (pre = [] ∧ x = 0) ∨ (pre = [0] ∧ x = 1) := by
  match pre, h with
  | [], h => simp at h; simp [h.1]
  | [a], h => simp at h; simp [h.1, h.2.1]
  | a :: b :: r, h => simp at h
/-- What a range of works keeps: what stands, what the iterator reads, how many rounds there were. -/
structure RK (w W3 : World) (bs : List (Nat × TypeId × Array Value)) (fs : List (Nat × Value × Fd)) (lo hi nb : Nat) (pre : List Nat) (W : World) : Prop where
  kb : KB w bs fs W
  kept : Kept lo hi W3 W
  n : Blk W nb 3 #[.int .i64 (pre.length : Int)]
section
variable {w W3 W W' : World} {bs : List (Nat × TypeId × Array Value)} {fs : List (Nat × Value × Fd)} {lo hi nb : Nat} {pre : List Nat}
theorem RK.keepB (h : RK w W3 bs fs lo hi nb pre W) {B : Nat} (hk : Keep (fun k => B ≤ k) W W') (hw : w.heap.size ≤ B) (hb : ∀ x ∈ bs, x.1 < B) (hf : ∀ x ∈ fs, x.1 ≤ B) (hh : hi ≤ B) (hn : nb < B) (hs : hi ≤ W.heap.size) : RK w W3 bs fs lo hi nb pre W' :=
  ⟨h.kb.keepB hk hw hb hf, h.kept.trans fun k _ h2 => hk.block k (by omega) (by omega), h.n.keepB hk hn⟩
theorem RK.next (h : RK w W3 bs fs lo hi nb pre W) (hn : ∀ x ∈ bs, x.1 ≠ nb) (hf : ∀ x ∈ fs, x.1 ≤ nb) (hh : hi ≤ nb ∨ nb < lo) (hw : w.heap.size ≤ nb) (x : Nat) : RK w W3 bs fs lo hi nb (pre ++ [x]) (W.setCell ⟨nb, 0, none⟩ (.int .i64 ((pre.length : Int) + 1))) :=
  ⟨h.kb.set hn hf hw _, h.kept.trans fun k _ h2 => Below.heap_setCell _ _ _ _ (by show k ≠ nb; omega), by simpa using h.n.set 0 (.int .i64 ((pre.length : Int) + 1))⟩
end
theorem eqlO (gf : Nat) (lb : Array Value) (w : World) : (binOp .eql 39 (.func (.func gf) #[] lb) .nilFunc).run Try.prog w = .ok (.bool false) w := by kernel_rfl
theorem eqlC (gf : Nat) (lb : Array Value) (w : World) : (binOp .eql 42 (.func (.func gf) #[] lb) .nilFunc).run Try.prog w = .ok (.bool false) w := by kernel_rfl

/-! ### What stands, with the marks of loops -/
def MK (lo : Nat) (ds : List Nat) (W : World) : Prop := ∀ D ∈ ds, lo ≤ D ∧ W.heap[D]? = some (.deferred (some []))
theorem MK.lt {lo : Nat} {ds : List Nat} {W : World} (h : MK lo ds W) {D : Nat} (hD : D ∈ ds) : D < W.heap.size := (Array.getElem?_eq_some_iff.1 (h D hD).2).1
theorem MK.below {lo : Nat} {ds : List Nat} {W W' : World} (h : MK lo ds W) (hb : Below W.heap.size W W') : MK lo ds W' := fun D hD => ⟨(h D hD).1, (hb.block _ (h.lt hD)).trans (h D hD).2⟩
theorem MK.keepB {lo B : Nat} {ds : List Nat} {W W' : World} (h : MK lo ds W) (hk : Keep (fun k => B ≤ k) W W') (hb : ∀ D ∈ ds, D < B) : MK lo ds W' := fun D hD => ⟨(h D hD).1, (hk.block _ (h.lt hD) (by have := hb D hD; omega)).trans (h D hD).2⟩
theorem MK.set {lo : Nat} {ds : List Nat} {W : World} (h : MK lo ds W) {nb i : Nat} {t : TypeId} {cs : Array Value} (hn : Blk W nb t cs) (u : Value) : MK lo ds (W.setCell ⟨nb, i, none⟩ u) := fun D hD => ⟨(h D hD).1, (Below.heap_setCell _ _ _ _ (fun e => by
  have h2 := (h D hD).2
  simp only at e
  subst e
  unfold Blk at hn
  rw [hn] at h2
  cases h2)).trans (h D hD).2⟩
structure KM (w : World) (bs : List (Nat × TypeId × Array Value)) (fs : List (Nat × Value × Fd)) (ds : List Nat) (W : World) : Prop where
  kb : KB w bs fs W
  ms : MK w.heap.size ds W
section
variable {w W W' : World} {bs : List (Nat × TypeId × Array Value)} {fs : List (Nat × Value × Fd)} {ds : List Nat}
theorem KM.below (h : KM w bs fs ds W) (hb : Below W.heap.size W W') : KM w bs fs ds W' := ⟨h.kb.below hb, h.ms.below hb⟩
theorem KM.alloc (h : KM w bs fs ds W) (o : Obj) : KM w bs fs ds (W.alloc o) := h.below ((Below.refl _ W).alloc (Nat.le_refl _) _)
theorem KM.call {P : Program} {f : Nat} {args : Array Value} {Q : Ending → Prop} (h : KM w bs fs ds W) (hc : Calls P f args W fun e w' => Q e ∧ Below W.heap.size W w') : Calls P f args W fun e w' => Q e ∧ Hid (KM w bs fs ds w') :=
  hc.mono fun _ _ q => ⟨q.1, Lib.hid (h.below q.2)⟩
theorem KM.box1 (h : Hid (KM w bs fs ds W)) {g : Nat} {t : TypeId} {a : Value} (hm : (g, t, #[a]) ∈ bs) : W.cell? ⟨g, 0, none⟩ = some a ∧ W.frozen? ⟨g, 0, none⟩ = false ∧ g < W.heap.size := KB.box1 (Lib.hid h.out.kb) hm
theorem KM.box2 (h : Hid (KM w bs fs ds W)) {g : Nat} {t : TypeId} {a b : Value} (hm : (g, t, #[a, b]) ∈ bs) : W.cell? ⟨g, 0, none⟩ = some a ∧ W.cell? ⟨g, 1, none⟩ = some b ∧ g < W.heap.size := KB.box2 (Lib.hid h.out.kb) hm
/-- The world behind node, of: each blocks that were not there. -/
theorem mk3_below (W : World) (gi : Nat) (p o0 k0 a b o1 k1 o2 k2 : Int) : Below W.heap.size W (mk3 W gi p o0 k0 a b o1 k1 o2 k2) := by
  unfold mk3
  exact ((((((Below.refl _ W).alloc (Nat.le_refl _) _).alloc (by simp) _).alloc (by simp; omega) _).alloc (by simp; omega) _).alloc (by simp; omega) _).alloc (by simp; omega) _
/-- wrong, of three nodes. -/
theorem KM.wrong3 (h : KM w bs fs ds W) {p o0 k0 a b o1 k1 o2 k2 : Int} {at_ : Nat} (hw : W64 p ∧ W64 o0 ∧ W64 k0 ∧ W64 a ∧ W64 b ∧ W64 o1 ∧ W64 k1 ∧ W64 o2 ∧ W64 k2) (hp : placesF ⟨p, [⟨o0, k0, [a, b]⟩, ⟨o1, k1, []⟩, ⟨o2, k2, []⟩]⟩ = .bad at_) :
    Calls Try.prog 28 #[.agg #[.int .i64 p, .slice (some ⟨W.heap.size + 1 + 1 + 1 + 1, 0, none⟩) 3 3], .int .i64 (at_ : Int)] (mk3 W W.heap.size p o0 k0 a b o1 k1 o2 k2) fun e w' => e = .returned (.bool true) ∧ Hid (KM w bs fs ds w') := by
  obtain ⟨hs, hk⟩ := h.kb.lit3 (p := p) (o0 := o0) (k0 := k0) (a := a) (b := b) (o1 := o1) (k1 := k1) (o2 := o2) (k2 := k2) rfl hw
  exact (h.below (mk3_below _ _ _ _ _ _ _ _ _ _ _)).call (wrong_ok _ (hk.funI (List.mem_cons_self ..)) hp)
def mk2 (W : World) (p : Int) (o0 k0 a b o1 k1 : Int) : World :=
  ((((W.alloc (.cells #[.int .i64 a, .int .i64 b] 3)).alloc (.cells #[.int .i64 o0, .int .i64 k0, .slice (some ⟨W.heap.size, 0, none⟩) 2 2] 47)).alloc (.cells #[.int .i64 o1, .int .i64 k1, .slice none 0 0] 47)).alloc
    (.cells #[.int .i64 o0, .int .i64 k0, .slice (some ⟨W.heap.size, 0, none⟩) 2 2, .int .i64 o1, .int .i64 k1, .slice none 0 0] 47)).alloc (.cells #[.int .i64 p, .slice (some ⟨W.heap.size + 1 + 1 + 1, 0, none⟩) 2 2] 24)
theorem KM.wrong2 (h : KM w bs fs ds W) {p o0 k0 a b o1 k1 : Int} {at_ : Nat} (hw : W64 p ∧ W64 o0 ∧ W64 k0 ∧ W64 a ∧ W64 b ∧ W64 o1 ∧ W64 k1) (hp : placesF ⟨p, [⟨o0, k0, [a, b]⟩, ⟨o1, k1, []⟩]⟩ = .bad at_) :
    Calls Try.prog 28 #[.agg #[.int .i64 p, .slice (some ⟨W.heap.size + 1 + 1 + 1, 0, none⟩) 2 2], .int .i64 (at_ : Int)] (mk2 W p o0 k0 a b o1 k1) fun e w' => e = .returned (.bool true) ∧ Hid (KM w bs fs ds w') := by
  obtain ⟨h1, h2, h3, h4, h5, h6, h7⟩ := hw
  have hb : Below W.heap.size W (mk2 W p o0 k0 a b o1 k1) := by
    unfold mk2
    exact (((((Below.refl _ W).alloc (Nat.le_refl _) _).alloc (by simp) _).alloc (by simp; omega) _).alloc (by simp; omega) _).alloc (by simp; omega) _
  have hi : Blk (mk2 W p o0 k0 a b o1 k1) W.heap.size 3 #[.int .i64 a, .int .i64 b] := by unfold mk2; exact ((((Blk.new _ _ _).alloc _).alloc _).alloc _).alloc _
  have hn : Blk (mk2 W p o0 k0 a b o1 k1) (W.heap.size + 1 + 1 + 1) 47 #[.int .i64 o0, .int .i64 k0, .slice (some ⟨W.heap.size, 0, none⟩) 2 2, .int .i64 o1, .int .i64 k1, .slice none 0 0] := by unfold mk2; exact (blkN (by simp) _ _).alloc _
  exact (h.below hb).call (wrong_ok _ (fun2 (IntsI.lit2 hi h4 h5 (Nat.zero_le _) hi.lt) hn ⟨h1, h2, h3, h6, h7⟩) hp)
theorem KM.wrong2n (h : KM w bs fs ds W) {p o0 k0 o1 k1 : Int} {at_ : Nat} (hw : W64 p ∧ W64 o0 ∧ W64 k0 ∧ W64 o1 ∧ W64 k1) (hp : placesF ⟨p, [⟨o0, k0, []⟩, ⟨o1, k1, []⟩]⟩ = .bad at_) :
    Calls Try.prog 28 #[.agg #[.int .i64 p, .slice (some ⟨W.heap.size + 1 + 1, 0, none⟩) 2 2], .int .i64 (at_ : Int)] ((((W.alloc (.cells #[.int .i64 o0, .int .i64 k0, .slice none 0 0] 47)).alloc (.cells #[.int .i64 o1, .int .i64 k1, .slice none 0 0] 47)).alloc
      (.cells #[.int .i64 o0, .int .i64 k0, .slice none 0 0, .int .i64 o1, .int .i64 k1, .slice none 0 0] 47)).alloc (.cells #[.int .i64 p, .slice (some ⟨W.heap.size + 1 + 1, 0, none⟩) 2 2] 24)) fun e w' => e = .returned (.bool true) ∧ Hid (KM w bs fs ds w') := by
  have hb := (((((Below.refl _ W).alloc (Nat.le_refl _) (.cells #[.int .i64 o0, .int .i64 k0, .slice none 0 0] 47)).alloc (by simp) (.cells #[.int .i64 o1, .int .i64 k1, .slice none 0 0] 47)).alloc (by simp; omega)
      (.cells #[.int .i64 o0, .int .i64 k0, .slice none 0 0, .int .i64 o1, .int .i64 k1, .slice none 0 0] 47)).alloc (by simp; omega) (.cells #[.int .i64 p, .slice (some ⟨W.heap.size + 1 + 1, 0, none⟩) 2 2] 24))
  exact (h.below hb).call (wrong_ok _ (fun2 (IntsI.nil _ _ _) ((blkN (by simp) _ _).alloc _) hw) hp)
theorem KM.wrong1 (h : KM w bs fs ds W) {p o0 k0 : Int} {at_ : Nat} (hw : W64 p ∧ W64 o0 ∧ W64 k0) (hp : placesF ⟨p, [⟨o0, k0, []⟩]⟩ = .bad at_) :
    Calls Try.prog 28 #[.agg #[.int .i64 p, .slice (some ⟨W.heap.size + 1, 0, none⟩) 1 1], .int .i64 (at_ : Int)] (((W.alloc (.cells #[.int .i64 o0, .int .i64 k0, .slice none 0 0] 47)).alloc
      (.cells #[.int .i64 o0, .int .i64 k0, .slice none 0 0] 47)).alloc (.cells #[.int .i64 p, .slice (some ⟨W.heap.size + 1, 0, none⟩) 1 1] 24)) fun e w' => e = .returned (.bool true) ∧ Hid (KM w bs fs ds w') := by
  have hb := ((((Below.refl _ W).alloc (Nat.le_refl _) (.cells #[.int .i64 o0, .int .i64 k0, .slice none 0 0] 47)).alloc (by simp)
      (.cells #[.int .i64 o0, .int .i64 k0, .slice none 0 0] 47)).alloc (by simp; omega) (.cells #[.int .i64 p, .slice (some ⟨W.heap.size + 1, 0, none⟩) 1 1] 24))
  exact (h.below hb).call (wrong_ok _ (fun1 ((blkN (by simp) _ _).alloc _) hw) hp)
theorem KM.wrong0 (h : KM w bs fs ds W) {p : Int} {at_ : Nat} (hw : W64 p) (hp : placesF ⟨p, []⟩ = .bad at_) :
    Calls Try.prog 28 #[.agg #[.int .i64 p, .slice none 0 0], .int .i64 (at_ : Int)] (W.alloc (.cells #[.int .i64 p, .slice none 0 0] 24)) fun e w' => e = .returned (.bool true) ∧ Hid (KM w bs fs ds w') :=
  (h.alloc _).call (wrong_ok _ (fun0 _ p hw) hp)
/-- Memory behind of(0, node(13, 7, 1), node(14, 3)). -/
def mkC (W : World) (gi : Nat) : World :=
  ((((W.alloc (.cells #[.int .i64 1] 3)).alloc (.cells #[.int .i64 13, .int .i64 7, .slice (some ⟨gi, 0, none⟩) 1 1] 47)).alloc (.cells #[.int .i64 14, .int .i64 3, .slice none 0 0] 47)).alloc
    (.cells #[.int .i64 13, .int .i64 7, .slice (some ⟨gi, 0, none⟩) 1 1, .int .i64 14, .int .i64 3, .slice none 0 0] 47)).alloc (.cells #[.int .i64 0, .slice (some ⟨gi + 1 + 1 + 1, 0, none⟩) 2 2] 24)
theorem KM.litC (h : KM w bs fs ds W) : KM w bs fs ds (mkC W W.heap.size) ∧ FunI (mkC W W.heap.size) 0 (mkC W W.heap.size).heap.size (.agg #[.int .i64 0, .slice (some ⟨W.heap.size + 1 + 1 + 1, 0, none⟩) 2 2]) FC := by
  have hb : Below W.heap.size W (mkC W W.heap.size) := by
    unfold mkC
    exact (((((Below.refl _ W).alloc (Nat.le_refl _) _).alloc (by simp) _).alloc (by simp; omega) _).alloc (by simp; omega) _).alloc (by simp; omega) _
  have hi : Blk (mkC W W.heap.size) W.heap.size 3 #[.int .i64 1] := by unfold mkC; exact ((((Blk.new _ _ _).alloc _).alloc _).alloc _).alloc _
  have hn : Blk (mkC W W.heap.size) (W.heap.size + 1 + 1 + 1) 47 #[.int .i64 13, .int .i64 7, .slice (some ⟨W.heap.size, 0, none⟩) 1 1, .int .i64 14, .int .i64 3, .slice none 0 0] := by unfold mkC; exact (blkN (by simp) _ _).alloc _
  exact ⟨h.below hb, fun2 (IntsI.lit1 hi (by simp [W64]) (Nat.zero_le _) hi.lt) hn (by simp [W64])⟩
theorem KM.iter {f fn : Nat} {args : Array Value} {F : Fd} (h : KM w bs fs ds W) (hc : Calls Try.prog f args W (IterP fn W F)) :
    Calls Try.prog f args W fun e w' => ∃ kb hi A c, e = .returned (.func (.func fn) #[] #[.pointer (some ⟨kb, 0, none⟩)]) ∧
      Hid (hi ≤ kb ∧ W.heap.size ≤ kb ∧ Blk w' kb 24 #[.int .i64 F.p, .slice A F.ns.length c] ∧ FunI w' W.heap.size hi (.agg #[.int .i64 F.p, .slice A F.ns.length c]) F ∧ KM w bs fs ds w') :=
  hc.mono fun e w' q => by
    obtain ⟨kb, s, hi, rfl, h1, h2, h3, h4, h5⟩ := q
    obtain ⟨A, c, e⟩ := h2.form
    simp only [Value.agg.injEq, Array.mk.injEq, List.cons.injEq, and_true, true_and] at e
    subst e
    exact ⟨kb, hi, A, c, rfl, Lib.hid ⟨h3, h4, h1, h2, h.below h5⟩⟩
end
end Go.Proofs.Ytleihdakmibmhaa
