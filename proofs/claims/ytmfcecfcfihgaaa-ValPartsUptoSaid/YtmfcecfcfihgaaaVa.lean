/- Values as data (trees), and how they lie in memory. -/
import Derived.Test.YtmfcecfcfihgaaaChecked
import Derived.Test.YtmfcecfcfihgaaaG
import Derived.Test.YtmfcecfcfihgaaaS
import Derived.Lib.Hide
import Derived.Shelf.Abstract
import Derived.Shelf.RegionOpen
import Derived.OwnWalkIn
import Derived.TacticsInMore
import Derived.LoopNIn
import Derived.LoopIn
namespace Go.Proofs.Ytmfcecfcfihgaaa
open Go.RowKit Go.Shelf

def W64 (x : Int) : Prop := -9223372036854775808 ≤ x ∧ x ≤ 9223372036854775807

/-- A value: a Kind, a number, values. -/
inductive V where
  | mk (k n : Int) (l : List V)
def V.k : V → Int | .mk k _ _ => k
def V.n : V → Int | .mk _ n _ => n
def V.l : V → List V | .mk _ _ l => l
theorem V.eta (T : V) : T = .mk T.k T.n T.l := by cases T; rfl

theorem V.ind {p : V → Prop} (h : ∀ k n l, (∀ x ∈ l, p x) → p (.mk k n l)) : ∀ T, p T := fun T =>
  V.rec (motive_1 := p) (motive_2 := fun l => ∀ x ∈ l, p x) (fun k n l hl => h k n l hl) (fun x hx => by simp at hx)
    (fun x xs hx hxs y hy => by rcases List.mem_cons.1 hy with rfl | hy; exact hx; exact hxs y hy) T

/-! ### In memory -/
/-- Three cells that hold a value. -/
def Three (W : World) (b o : Nat) (v : Value) : Prop :=
  ∃ x y z, v = .agg #[x, y, z] ∧ W.cell? ⟨b, o, none⟩ = some x ∧ W.cell? ⟨b, o + 1, none⟩ = some y ∧ W.cell? ⟨b, o + 2, none⟩ = some z

/-- A slice of values that is read: its blocks lie from lo on, below hi. -/
structure LsOf (W : World) (lo hi : Nat) (R : Value → V → Prop) (s : Value) (l : List V) : Prop where
  ex : ∃ A c b o, ∃ f : Nat → Value, s = .slice A l.length c ∧ l.length ≤ c ∧ c ≤ maxLen ∧ (l ≠ [] → A = some ⟨b, o, none⟩ ∧ lo ≤ b ∧ b < hi) ∧
    (∀ i, i < l.length → Three W b (o + i * 3) (f i)) ∧ (∀ i x, l[i]? = some x → R (f i) x)

inductive In (W : World) (lo hi : Nat) : Value → V → Prop
  | mk (k n : Int) (l : List V) (A : Option Addr) (c b o : Nat) (f : Nat → Value) (hk : W64 k) (hn : W64 n) (h1 : l.length ≤ c) (h2 : c ≤ maxLen)
      (hA : l ≠ [] → A = some ⟨b, o, none⟩ ∧ lo ≤ b ∧ b < hi) (hc : ∀ i, i < l.length → Three W b (o + i * 3) (f i)) (hR : ∀ i x, l[i]? = some x → In W lo hi (f i) x) :
      In W lo hi (.agg #[.int .i64 k, .int .i64 n, .slice A l.length c]) (.mk k n l)

def Ls (W : World) (lo hi : Nat) (s : Value) (l : List V) : Prop := LsOf W lo hi (In W lo hi) s l

section
variable {W W' : World} {lo hi lo' hi' : Nat} {v s : Value} {T : V} {l : List V}
theorem In.parts (h : In W lo hi v T) : ∃ s, v = .agg #[.int .i64 T.k, .int .i64 T.n, s] ∧ W64 T.k ∧ W64 T.n ∧ Ls W lo hi s T.l := by
  cases h with
  | mk k n l A c b o f hk hn h1 h2 hA hc hR => exact ⟨_, rfl, hk, hn, ⟨A, c, b, o, f, rfl, h1, h2, hA, hc, hR⟩⟩
theorem In.of {k n : Int} (hk : W64 k) (hn : W64 n) (h : Ls W lo hi s l) : In W lo hi (.agg #[.int .i64 k, .int .i64 n, s]) (.mk k n l) := by
  obtain ⟨A, c, b, o, f, rfl, h1, h2, hA, hc, hR⟩ := h.ex
  exact .mk k n l A c b o f hk hn h1 h2 hA hc hR

theorem cell_same {p : Addr} (h : W'.heap[p.block]? = W.heap[p.block]?) : W'.cell? p = W.cell? p := by
  unfold World.cell?
  rw [h]
theorem lt_of_cell {p : Addr} (h : W.cell? p = some v) : p.block < W.heap.size := by
  unfold World.cell? at h
  split at h
  · rename_i hb; exact (Array.getElem?_eq_some_iff.1 hb).1
  · cases h
theorem Three.keep {b o : Nat} (h : Three W b o v) (hk : W'.heap[b]? = W.heap[b]?) : Three W' b o v := by
  obtain ⟨x, y, z, rfl, h1, h2, h3⟩ := h
  exact ⟨x, y, z, rfl, (cell_same hk).trans h1, (cell_same hk).trans h2, (cell_same hk).trans h3⟩
theorem Three.lt {b o : Nat} (h : Three W b o v) : b < W.heap.size := by
  obtain ⟨x, y, z, rfl, h1, h2, h3⟩ := h
  exact lt_of_cell h1

theorem In.keep (h : In W lo hi v T) (hk : ∀ b, lo ≤ b → b < hi → W'.heap[b]? = W.heap[b]?) : In W' lo hi v T := by
  induction h with
  | mk k n l A c b o f hk' hn h1 h2 hA hc hR ih =>
    refine .mk k n l A c b o f hk' hn h1 h2 hA (fun i hi' => ?_) ih
    have hne : l ≠ [] := by rintro rfl; simp at hi'
    exact (hc i hi').keep (hk b (hA hne).2.1 (hA hne).2.2)
theorem In.mono (h : In W lo hi v T) (hl : lo' ≤ lo) (hh : hi ≤ hi') : In W lo' hi' v T := by
  induction h with
  | mk k n l A c b o f hk' hn h1 h2 hA hc hR ih =>
    exact .mk k n l A c b o f hk' hn h1 h2 (fun hne => ⟨(hA hne).1, Nat.le_trans hl (hA hne).2.1, Nat.lt_of_lt_of_le (hA hne).2.2 hh⟩) hc ih
theorem Ls.keep (h : Ls W lo hi s l) (hk : ∀ b, lo ≤ b → b < hi → W'.heap[b]? = W.heap[b]?) : Ls W' lo hi s l := by
  obtain ⟨A, c, b, o, f, rfl, h1, h2, hA, hc, hR⟩ := h.ex
  refine ⟨A, c, b, o, f, rfl, h1, h2, hA, fun i hi' => ?_, fun i x hx => (hR i x hx).keep hk⟩
  have hne : l ≠ [] := by rintro rfl; simp at hi'
  exact (hc i hi').keep (hk b (hA hne).2.1 (hA hne).2.2)
theorem Ls.mono (h : Ls W lo hi s l) (hl : lo' ≤ lo) (hh : hi ≤ hi') : Ls W lo' hi' s l := by
  obtain ⟨A, c, b, o, f, rfl, h1, h2, hA, hc, hR⟩ := h.ex
  exact ⟨A, c, b, o, f, rfl, h1, h2, fun hne => ⟨(hA hne).1, Nat.le_trans hl (hA hne).2.1, Nat.lt_of_lt_of_le (hA hne).2.2 hh⟩, hc, fun i x hx => (hR i x hx).mono hl hh⟩
theorem In.after (h : In W lo hi v T) (hb : Below hi W W') : In W' lo hi v T := by
  refine h.keep fun b _ hlt => ?_
  rcases Nat.lt_or_ge b hi with hb' | hb'
  · exact hb.block b hb'
  · omega
theorem Ls.after (h : Ls W lo hi s l) (hb : Below hi W W') : Ls W' lo hi s l := h.keep fun b _ hlt => hb.block b hlt
theorem Ls.form (h : Ls W lo hi s l) : ∃ A c, s = .slice A l.length c ∧ l.length ≤ c ∧ c ≤ maxLen := by
  obtain ⟨A, c, b, o, f, rfl, h1, h2, _⟩ := h.ex; exact ⟨A, c, rfl, h1, h2⟩
theorem Ls.len {A : Option Addr} {n c : Nat} (h : Ls W lo hi (.slice A n c) l) : n = l.length ∧ l.length ≤ c ∧ c ≤ maxLen := by
  obtain ⟨A', c', hv, h1, h2⟩ := h.form
  simp only [Value.slice.injEq] at hv
  obtain ⟨rfl, rfl, rfl⟩ := hv
  exact ⟨rfl, h1, h2⟩
theorem Ls.nil (W : World) (lo hi c : Nat) (A : Option Addr) (hc : c ≤ maxLen) : Ls W lo hi (.slice A 0 c) [] :=
  ⟨A, c, 0, 0, fun _ => undef, rfl, Nat.zero_le _, hc, by simp, by simp, by simp⟩
/-- An element, as it is loaded. -/
theorem Ls.at_ {A : Option Addr} {n c : Nat} (h : Ls W lo hi (.slice A n c) l) {i : Nat} {x : V} (hx : l[i]? = some x) :
    ∃ b o s, A = some ⟨b, o, none⟩ ∧ b < W.heap.size ∧ b < hi ∧ lo ≤ b ∧ W.cell? ⟨b, o + i * 3, none⟩ = some (.int .i64 x.k) ∧ W.cell? ⟨b, o + i * 3 + 1, none⟩ = some (.int .i64 x.n) ∧
      W.cell? ⟨b, o + i * 3 + 2, none⟩ = some s ∧ In W lo hi (.agg #[.int .i64 x.k, .int .i64 x.n, s]) x := by
  obtain ⟨A', c', b, o, f, hv, h1, h2, hA, hc, hR⟩ := h.ex
  simp only [Value.slice.injEq] at hv
  obtain ⟨rfl, rfl, rfl⟩ := hv
  have hne : l ≠ [] := by rintro rfl; simp at hx
  obtain ⟨rfl, h4, h5⟩ := hA hne
  have hlt : i < l.length := (List.getElem?_eq_some_iff.1 hx).1
  obtain ⟨x0, y0, z0, h0, t1, t2, t3⟩ := hc i hlt
  have hin := hR i x hx
  obtain ⟨s, hs, _⟩ := hin.parts
  rw [h0] at hs
  simp only [Value.agg.injEq, Array.mk.injEq, List.cons.injEq, and_true] at hs
  obtain ⟨rfl, rfl, rfl⟩ := hs
  rw [h0] at hin
  exact ⟨b, o, z0, rfl, (hc i hlt).lt, h5, h4, t1, t2, t3, hin⟩
end

/-! ### The parts, each ahead of its own, with their depths -/
mutual
def V.pre (d : Nat) : V → List (Nat × V)
  | .mk k n l => (d, .mk k n l) :: V.preL (d + 1) l
def V.preL (d : Nat) : List V → List (Nat × V)
  | [] => []
  | x :: xs => V.pre d x ++ V.preL d xs
end
theorem V.preL_append (d : Nat) (l m : List V) : V.preL d (l ++ m) = V.preL d l ++ V.preL d m := by
  induction l with
  | nil => simp [V.preL]
  | cons x xs ih => simp [V.preL, ih]
def V.size (T : V) : Nat := (V.pre 0 T).length
def V.sizeL (l : List V) : Nat := (V.preL 0 l).length
theorem V.pre_length (T : V) : ∀ d, (V.pre d T).length = T.size := by
  suffices h : ∀ d e, (V.pre d T).length = (V.pre e T).length from fun d => h d 0
  induction T using V.ind with
  | h k n l ih =>
    intro d e
    simp only [V.pre, List.length_cons, Nat.add_right_cancel_iff]
    induction l with
    | nil => simp [V.preL]
    | cons x xs ihx =>
      simp only [V.preL, List.length_append]
      rw [ih x (by simp) (d + 1) (e + 1), ihx (fun y hy => ih y (by simp [hy]))]
theorem V.preL_length (l : List V) : ∀ d, (V.preL d l).length = V.sizeL l := by
  intro d
  unfold V.sizeL
  induction l with
  | nil => simp [V.preL]
  | cons x xs ih => simp only [V.preL, List.length_append, ih, V.pre_length]
theorem V.size_mk (k n : Int) (l : List V) : (V.mk k n l).size = 1 + V.sizeL l := by
  simp [V.size, V.pre, V.preL_length]; omega
theorem V.sizeL_cons (x : V) (xs : List V) : V.sizeL (x :: xs) = x.size + V.sizeL xs := by
  simp [V.sizeL, V.preL, V.size]
theorem V.sizeL_nil : V.sizeL [] = 0 := rfl
theorem V.sizeL_append (l m : List V) : V.sizeL (l ++ m) = V.sizeL l + V.sizeL m := by simp [V.sizeL, V.preL_append]
theorem V.size_pos (T : V) : 0 < T.size := by cases T; rw [V.size_mk]; omega
theorem V.len_le_sizeL (l : List V) : l.length ≤ V.sizeL l := by
  induction l with
  | nil => simp
  | cons x xs ih => rw [V.sizeL_cons, List.length_cons]; have := x.size_pos; omega
end Go.Proofs.Ytmfcecfcfihgaaa
