/- FunSame: a function's copy whose numbers are changed. -/
import Derived.Test.YtleihdakmibmhaaFy
import Derived.Test.YtleihdakmibmhaaYa
namespace Go.Proofs.Ytleihdakmibmhaa
open Go.RowKit Go.Shelf
attribute [local go_sem] Oper.semAt_some

theorem flatL_set : ∀ {ms : List Nd} {i k : Nat} {x : Nd} (y : Int), ms[i]? = some x → k < x.l.length → flatL (ms.set i ⟨x.op, x.n, x.l.set k y⟩) = (flatL ms).set ((flatL (ms.take i)).length + k) y
  | [], i, k, x, y, h, _ => by simp at h
  | a :: r, 0, k, x, y, h, hk => by
    simp at h
    subst h
    rw [List.set_cons_zero, flatL_cons, flatL_cons]
    have e : (flatL ((a :: r).take 0)).length + k = k := by simp [flatL]
    rw [e]
    exact (List.set_append_left _ _ hk).symm
  | a :: r, i + 1, k, x, y, h, hk => by
    have h' : r[i]? = some x := by simpa using h
    rw [List.set_cons_succ, flatL_cons, flatL_cons, flatL_set y h' hk, List.take_succ_cons, flatL_cons, List.length_append, List.set_append_right _ _ (by omega)]
    congr 2
    omega
theorem flatL_setN : ∀ {ms : List Nd} {i : Nat} {x : Nd} (y : Int), ms[i]? = some x → flatL (ms.set i ⟨x.op, y, x.l⟩) = flatL ms
  | [], i, x, y, h => by simp at h
  | a :: r, 0, x, y, h => by
    simp at h
    subst h
    rw [List.set_cons_zero, flatL_cons, flatL_cons]
  | a :: r, i + 1, x, y, h => by
    have h' : r[i]? = some x := by simpa using h
    rw [List.set_cons_succ, flatL_cons, flatL_cons, flatL_setN y h']
theorem sliceAt_set (g off k : Nat) (l : List Int) (y : Int) : sliceAt g off (l.set k y) = sliceAt g off l := by
  unfold sliceAt
  by_cases h : l = []
  · rw [h]; simp
  · have h' : l.set k y ≠ [] := fun e => h (by rw [List.set_eq_nil_iff] at e; exact e)
    rw [if_neg h, if_neg h', List.length_set]
theorem rowV_setL (g : Nat) : ∀ {ms : List Nd} {i k : Nat} {x : Nd} (y : Int) (off : Nat), ms[i]? = some x → rowV g off (ms.set i ⟨x.op, x.n, x.l.set k y⟩) = rowV g off ms
  | [], i, k, x, y, off, h => by simp at h
  | a :: r, 0, k, x, y, off, h => by
    simp at h
    subst h
    rw [List.set_cons_zero, rowV, rowV]
    simp only [nodeV, sliceAt_set, List.length_set]
  | a :: r, i + 1, k, x, y, off, h => by
    have h' : r[i]? = some x := by simpa using h
    rw [List.set_cons_succ, rowV, rowV, rowV_setL g y _ h']
theorem rowV_setN (g : Nat) : ∀ {ms : List Nd} {i : Nat} {x : Nd} (y : Int) (off : Nat), ms[i]? = some x → rowV g off (ms.set i ⟨x.op, y, x.l⟩) = (rowV g off ms).set (i * 3 + 1) (.int .i64 y)
  | [], i, x, y, off, h => by simp at h
  | a :: r, 0, x, y, off, h => by
    simp at h
    subst h
    rw [List.set_cons_zero, rowV, rowV]
    rfl
  | a :: r, i + 1, x, y, off, h => by
    have h' : r[i]? = some x := by simpa using h
    have hl : (nodeV g off a).length = 3 := rfl
    rw [List.set_cons_succ, rowV, rowV, rowV_setN g y _ h', List.set_append_right _ _ (by omega)]
    congr 2
    omega
theorem w64_wrap (x : Int) : W64 (wrap64 x) := by
  unfold W64 wrap64
  omega
theorem wrap_ne (x : Int) : wrap64 (x + 1) ≠ x := by
  unfold wrap64
  omega
/-- The first node's number behind i nodes. -/
def Fst (A : Fd) (ms : List Nd) (i : Nat) : Prop := ∀ x0 x, A.ns[0]? = some x0 → ms[0]? = some x → x.n = if i = 0 then x0.n else wrap64 (x0.n + 1)
theorem Fst.start (A : Fd) : Fst A A.ns 0 := fun x0 x h h' => by rw [h] at h'; cases h'; rfl
theorem Fst.setL {A : Fd} {ms : List Nd} {i j : Nat} {x : Nd} {l : List Int} (h : Fst A ms i) (hx : ms[j]? = some x) : Fst A (ms.set j ⟨x.op, x.n, l⟩) i := fun x0 z h0 hz => by
  cases j with
  | zero =>
    have hlt := (List.getElem?_eq_some_iff.1 hx).1
    rw [List.getElem?_set_self hlt] at hz
    cases hz
    exact h x0 x h0 hx
  | succ j =>
    rw [List.getElem?_set_ne (by omega)] at hz
    exact h x0 z h0 hz
theorem Fst.setN {A : Fd} {ms : List Nd} {i : Nat} {x : Nd} (h : Fst A ms i) (hx : ms[i]? = some x) : Fst A (ms.set i ⟨x.op, wrap64 (x.n + 1), x.l⟩) (i + 1) := fun x0 z h0 hz => by
  rw [if_neg (by omega)]
  cases i with
  | zero =>
    have hlt := (List.getElem?_eq_some_iff.1 hx).1
    rw [List.getElem?_set_self hlt] at hz
    cases hz
    have := h x0 x h0 hx
    rw [if_pos rfl] at this
    rw [← this]
  | succ i =>
    rw [List.getElem?_set_ne (by omega)] at hz
    have := h x0 z h0 hz
    rwa [if_neg (by omega)] at this
theorem Fst.ne {A : Fd} {ms : List Nd} {i : Nat} (h : Fst A ms i) (hi : 0 < i) (hn : 0 < A.ns.length) : sameF ⟨A.p, ms⟩ A = false := by
  cases hq : sameF ⟨A.p, ms⟩ A with
  | false => rfl
  | true =>
    have e := sameF_iff.1 hq
    have e2 : ms = A.ns := by rw [← e]
    obtain ⟨x, hx⟩ : ∃ x, A.ns[0]? = some x := ⟨_, List.getElem?_eq_getElem hn⟩
    have := h x x hx (by rw [e2]; exact hx)
    rw [if_neg (by omega)] at this
    exact absurd this.symm (wrap_ne _)

/-- A function whose nodes lie as Copy lays them. -/
structure CS (lo hi gr : Nat) (s : Value) (ms : List Nd) (W : World) : Prop where
  nums : Blk W gr 3 (intsOf (flatL ms))
  row : Row W 47 3 s ms.length (rowV gr 0 ms)
  inn : lo ≤ gr ∧ gr < hi ∧ ∀ j, s.ownBlock = some j → lo ≤ j ∧ j < hi
  w64 : ∀ x ∈ ms, W64 x.op ∧ W64 x.n ∧ (∀ y ∈ x.l, W64 y) ∧ x.l.length ≤ 40
section
variable {lo hi gr : Nat} {s : Value} {ms : List Nd} {W W' : World}
theorem CS.below (h : CS lo hi gr s ms W) (hb : Below W.heap.size W W') : CS lo hi gr s ms W' :=
  ⟨h.nums.keep (hb.block _ h.nums.lt), h.row.keep fun k hk => hb.block k (h.row.lt k hk), h.inn, h.w64⟩
theorem CS.funI (h : CS lo hi gr s ms W) {p : Int} (hp : W64 p) : FunI W lo hi (.agg #[.int .i64 p, s]) ⟨p, ms⟩ := by
  obtain ⟨A, c, rfl, hc1, hc2⟩ := h.row.form
  refine ⟨_, rfl, hp, A, c, rfl, hc1, hc2, fun hne => ?_⟩
  obtain ⟨g, cap, cur, e, hbr, _⟩ := h.row.addr (List.length_pos_iff.2 hne)
  simp only [Value.slice.injEq, true_and] at e
  obtain ⟨rfl, rfl⟩ := e
  obtain ⟨i1, i2, i3⟩ := h.inn
  refine ⟨g, 0, rfl, (i3 g (by simp [Value.ownBlock])).1, (i3 g (by simp [Value.ownBlock])).2, fun i x hx => ?_⟩
  obtain ⟨r0, r1, r2⟩ := rowV_get (g := gr) 0 hx
  have hlt : i < ms.length := (List.getElem?_eq_some_iff.1 hx).1
  obtain ⟨w0, w1, w2, w3⟩ := h.w64 x (List.mem_of_getElem? hx)
  refine ⟨sliceAt gr (flatL (ms.take i)).length x.l, ?_, ?_, ?_, IntsI.of_room h.nums hx w2 (by unfold maxLen; omega) i1 i2, w0, w1⟩
  · rw [Nat.zero_add, (h.row.cells rfl _ (by omega)).1]; exact r0
  · rw [Nat.zero_add, (h.row.cells rfl _ (by omega)).1]; exact r1
  · rw [Nat.zero_add, (h.row.cells rfl _ (by omega)).1]; simpa using r2
theorem CS.setL (h : CS lo hi gr s ms W) {i k : Nat} {x : Nd} (y : Int) (hy : W64 y) (hx : ms[i]? = some x) (hk : k < x.l.length) :
    CS lo hi gr s (ms.set i ⟨x.op, x.n, x.l.set k y⟩) (W.setCell ⟨gr, (flatL (ms.take i)).length + k, none⟩ (.int .i64 y)) := by
  refine ⟨?_, ?_, h.inn, fun z hz => ?_⟩
  · rw [flatL_set y hx hk, ← intsOf_set]
    exact h.nums.set _ _
  · rw [List.length_set, rowV_setL gr y 0 hx]
    exact h.row.far (h.row.ne_blk h.nums (by decide)) _
  · rcases List.mem_or_eq_of_mem_set hz with hz | rfl
    · exact h.w64 z hz
    · obtain ⟨w0, w1, w2, w3⟩ := h.w64 x (List.mem_of_getElem? hx)
      exact ⟨w0, w1, fun u hu => by
        rcases List.mem_or_eq_of_mem_set hu with hu | rfl
        · exact w2 u hu
        · exact hy, by simpa using w3⟩
theorem CS.setN (h : CS lo hi gr s ms W) {i g cap : Nat} {x : Nd} (y : Int) (hy : W64 y) (hx : ms[i]? = some x) (hs : s = .slice (some ⟨g, 0, none⟩) ms.length cap) :
    CS lo hi gr s (ms.set i ⟨x.op, y, x.l⟩) (W.setCell ⟨g, i * 3 + 1, none⟩ (.int .i64 y)) := by
  refine ⟨?_, ?_, h.inn, fun z hz => ?_⟩
  · rw [flatL_setN y hx]
    exact h.nums.far (fun e => h.row.ne_blk h.nums (by decide) (by rw [hs, e]; simp [Value.ownBlock])) _
  · rw [List.length_set, rowV_setN gr y 0 hx]
    exact h.row.stored hs _ _
  · rcases List.mem_or_eq_of_mem_set hz with hz | rfl
    · exact h.w64 z hz
    · obtain ⟨w0, w1, w2, w3⟩ := h.w64 x (List.mem_of_getElem? hx)
      exact ⟨w0, hy, w2, w3⟩
end
/-- What stands while the copy is changed: boxes, the arguments, the copy, the second copy. -/
structure LS (w : World) (bs : List (Nat × TypeId × Array Value)) (fs : List (Nat × Value × Fd)) (lo hi gr : Nat) (s : Value) (ms : List Nd) (h2 : Nat) (vd : Value) (A : Fd) (W : World) : Prop where
  kb : KB w bs fs W
  cs : CS lo hi gr s ms W
  dd : FunI W hi h2 vd A
  hh : h2 ≤ W.heap.size
structure Apart (w : World) (bs : List (Nat × TypeId × Array Value)) (fs : List (Nat × Value × Fd)) (lo hi : Nat) : Prop where
  b : ∀ x ∈ bs, x.1 < lo ∨ hi ≤ x.1
  f : ∀ x ∈ fs, x.1 ≤ lo
  w : w.heap.size ≤ lo
section
variable {w : World} {bs : List (Nat × TypeId × Array Value)} {fs : List (Nat × Value × Fd)} {lo hi gr : Nat} {s : Value} {ms : List Nd} {h2 : Nat} {vd : Value} {A : Fd} {W W' : World}
theorem LS.below (h : LS w bs fs lo hi gr s ms h2 vd A W) (hb : Below W.heap.size W W') : LS w bs fs lo hi gr s ms h2 vd A W' :=
  ⟨h.kb.below hb, h.cs.below hb, h.dd.below hb h.hh, Nat.le_trans h.hh hb.size⟩
theorem LS.setL (h : LS w bs fs lo hi gr s ms h2 vd A W) (ha : Apart w bs fs lo hi) {i k : Nat} {x : Nd} (y : Int) (hy : W64 y) (hx : ms[i]? = some x) (hk : k < x.l.length) :
    LS w bs fs lo hi gr s (ms.set i ⟨x.op, x.n, x.l.set k y⟩) h2 vd A (W.setCell ⟨gr, (flatL (ms.take i)).length + k, none⟩ (.int .i64 y)) := by
  obtain ⟨i1, i2, _⟩ := h.cs.inn
  refine ⟨h.kb.set (fun z hz => by have := ha.b z hz; omega) (fun z hz => by have := ha.f z hz; omega) (by have := ha.w; omega) _, h.cs.setL y hy hx hk, h.dd.keep fun j h1 _ => Below.heap_setCell _ _ _ _ (by show j ≠ gr; omega), by simpa [World.setCell] using h.hh⟩
theorem LS.setN (h : LS w bs fs lo hi gr s ms h2 vd A W) (ha : Apart w bs fs lo hi) {i g cap : Nat} {x : Nd} (y : Int) (hy : W64 y) (hx : ms[i]? = some x) (hs : s = .slice (some ⟨g, 0, none⟩) ms.length cap) :
    LS w bs fs lo hi gr s (ms.set i ⟨x.op, y, x.l⟩) h2 vd A (W.setCell ⟨g, i * 3 + 1, none⟩ (.int .i64 y)) := by
  obtain ⟨_, _, i3⟩ := h.cs.inn
  obtain ⟨j1, j2⟩ := i3 g (by rw [hs]; simp [Value.ownBlock])
  refine ⟨h.kb.set (fun z hz => by have := ha.b z hz; omega) (fun z hz => by have := ha.f z hz; omega) (by have := ha.w; omega) _, h.cs.setN y hy hx hs, h.dd.keep fun j h1 _ => Below.heap_setCell _ _ _ _ (by show j ≠ g; omega), by simpa [World.setCell] using h.hh⟩
/-- What a round reads of its node. -/
theorem LS.node (h : LS w bs fs lo hi gr s ms h2 vd A W) {i : Nat} {x : Nd} (hx : ms[i]? = some x) : ∃ g o cap off, o = 0 ∧ off = (flatL (ms.take i)).length ∧ s = .slice (some ⟨g, o, none⟩) ms.length cap ∧ W.cell? ⟨g, o + i * 3 + 1, none⟩ = some (.int .i64 x.n) ∧ W.frozen? ⟨g, o + i * 3 + 1, none⟩ = false ∧
    W.cell? ⟨g, o + i * 3 + 2, none⟩ = some (sliceAt gr off x.l) ∧ g < W.heap.size ∧ (∀ k y, x.l[k]? = some y → W.cell? ⟨gr, off + k, none⟩ = some (.int .i64 y) ∧ W.frozen? ⟨gr, off + k, none⟩ = false) ∧ gr < W.heap.size ∧ x.l.length ≤ 40 := by
  have hlt := (List.getElem?_eq_some_iff.1 hx).1
  obtain ⟨g, cap, cur, e, hbr, _⟩ := h.cs.row.addr (by omega)
  obtain ⟨r0, r1, r2⟩ := rowV_get (g := gr) 0 hx
  refine ⟨g, 0, cap, _, rfl, rfl, e, ?_, ?_, ?_, hbr.lt, fun k y hy => ⟨?_, h.cs.nums.frozen _⟩, h.cs.nums.lt, (h.cs.w64 x (List.mem_of_getElem? hx)).2.2.2⟩
  · rw [Nat.zero_add, (h.cs.row.cells e _ (by omega)).1]; exact r1
  · rw [Nat.zero_add]; exact (h.cs.row.cells e _ (by omega)).2
  · rw [Nat.zero_add, (h.cs.row.cells e _ (by omega)).1]; simpa using r2
  · rw [h.cs.nums.cell]
    exact intsOf_get (flatL_at hx hy)
/-- Copy, with what stands. -/
theorem KB.copy {hi : Nat} {v : Value} {F : Fd} (h : KB w bs fs W) (hm : (hi, v, F) ∈ fs) (hF : FewF F) :
    Calls Try.prog 19 #[v] W fun e w' => ∃ A c, e = .returned (.agg #[.int .i64 F.p, .slice A F.ns.length c]) ∧
      Hid (KB w bs fs w' ∧ W.heap.size ≤ w'.heap.size ∧ Below W.heap.size W w' ∧ FunI w' W.heap.size w'.heap.size (.agg #[.int .i64 F.p, .slice A F.ns.length c]) F ∧ ∃ gr, CS W.heap.size w'.heap.size gr (.slice A F.ns.length c) F.ns w') := by
  have hf := h.funI hm
  refine (Copy_ok6 W hf (Nat.le_refl _) hF).mono fun e w' q => ?_
  obtain ⟨v', rfl, hc⟩ := q
  have hfu := hc.funI hf
  obtain ⟨gr, s, rfl, g1, g2, g3, g4⟩ := hc.ex
  obtain ⟨A, c, e⟩ := hfu.form
  simp only [Value.agg.injEq, Array.mk.injEq, List.cons.injEq, and_true, true_and] at e
  subst e
  refine ⟨A, c, rfl, Lib.hid ⟨h.below hc.bl, hc.bl.size, hc.bl, hfu, gr, g2, g3, ⟨g1, g2.lt, fun j hj => ⟨g4 j hj, g3.lt j hj⟩⟩, fun x hx => ?_⟩⟩
  obtain ⟨s0, rfl, _, hn⟩ := hf
  obtain ⟨i, hi'⟩ := List.getElem?_of_mem hx
  obtain ⟨s1, q, w0, w1⟩ := hn.at' hi'
  obtain ⟨_, _, _, _, _, q4, _⟩ := q
  exact ⟨w0, w1, q4, hF.2 x hx⟩
end
end Go.Proofs.Ytleihdakmibmhaa
