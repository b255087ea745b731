/- Functions as data: what memory reads as one; which nodes are wrong, by definition. -/
import Derived.Test.YtleihdakmibmhaaChecked
import Derived.Test.YtleihdakmibmhaaG
import Derived.Test.YtleihdakmibmhaaJn
import Derived.Laws.Tables
namespace Go.Proofs.Ytleihdakmibmhaa
open Go.RowKit

/-! ### Plain data -/
structure Nd where
  op : Int
  n : Int
  l : List Int
structure Fd where
  p : Int
  ns : List Nd
abbrev ST := List Int × List Int

def namesOp (op : Int) : Bool := (op == 13 || op == 14) || ((op == 21 || op == 22) || op == 23)
/-- May so many nodes stand beneath an Op? -/
def lenOK (op m : Int) : Bool :=
  if op = 1 ∨ op = 2 ∨ op = 3 ∨ op = 15 ∨ op = 19 then decide (m = 0)
  else if op = 4 ∨ op = 6 ∨ op = 7 ∨ op = 8 ∨ op = 9 ∨ op = 10 ∨ op = 16 then decide (m = 2)
  else if op = 5 then decide (m = 3)
  else if op = 11 ∨ op = 12 ∨ op = 17 ∨ op = 18 ∨ op = 24 then decide (m = 1)
  else if op = 13 ∨ op = 14 ∨ op = 22 ∨ op = 23 then decide (m ≤ 8)
  else if op = 20 then decide (m ≤ 16)
  else if op = 21 then decide (1 ≤ m ∧ m ≤ 9)
  else false
/-- May an Op have that number, where so many variables stand? -/
def numOK (op n v : Int) : Bool :=
  if namesOp op = true then decide (0 ≤ n ∧ n ≤ 63)
  else if op = 3 then decide (0 ≤ n ∧ n < v)
  else decide (op = 1 ∨ n = 0)
def fitsB (i : Nat) (x : Nd) (st : ST) : Bool :=
  !(decide (0 < i) && decide (st.1.getD i 0 < 0)) && !decide (64 < st.2.getD i 0) && lenOK x.op x.l.length && numOK x.op x.n (st.2.getD i 0)
/-- A node becomes the one above those beneath it. -/
def adoptL (i : Nat) (op : Int) (n : Nat) : Nat → List Int → ST → Option ST
  | _, [], st => some st
  | k, c :: r, st => if c ≤ i ∨ (n : Int) ≤ c ∨ 0 ≤ st.1.getD c.toNat 0 then none
    else adoptL i op n (k + 1) r (st.1.set c.toNat i, st.2.set c.toNat (st.2.getD i 0 + if op = 4 ∧ k = 1 then 1 else 0))
def stepN (n i : Nat) (x : Nd) (st : ST) : Option ST := if fitsB i x st = true then adoptL i x.op n 0 x.l st else none
inductive Out where
  | bad (at_ : Nat)
  | ok (st : ST)
def startS (F : Fd) : ST := (List.replicate F.ns.length (-1), (List.replicate F.ns.length 0).set 0 F.p)
def runF (F : Fd) : Nat → Out
  | 0 => .ok (startS F)
  | k + 1 => match runF F k with
    | .bad j => .bad j
    | .ok st => match F.ns[k]? with
      | none => .ok st
      | some x => match stepN F.ns.length k x st with
        | none => .bad k
        | some st' => .ok st'
def boundsB (F : Fd) : Bool := decide (0 ≤ F.p ∧ F.p ≤ 9) && decide (1 ≤ F.ns.length ∧ F.ns.length ≤ 200)
def placesF (F : Fd) : Out := if boundsB F = true then runF F F.ns.length else .bad 0
def goodF (F : Fd) : Bool := match placesF F with
  | .ok _ => true
  | .bad _ => false
def whereF (F : Fd) : Int × Int := match placesF F with
  | .ok _ => (0, 0)
  | .bad k => ((k : Int), 60)

/-! ### What memory reads as -/
def W64 (x : Int) : Prop := -9223372036854775808 ≤ x ∧ x ≤ 9223372036854775807
/-- The blocks from lo to hi are as they were. -/
def Kept (lo hi : Nat) (W W' : World) : Prop := ∀ k, lo ≤ k → k < hi → W'.heap[k]? = W.heap[k]?
theorem Kept.of_below {lo hi B : Nat} {W W' : World} (h : Below B W W') (hB : hi ≤ B) : Kept lo hi W W' := fun k _ h2 => h.block k (by omega)
theorem Kept.trans {lo hi : Nat} {A B C : World} (h : Kept lo hi A B) (h' : Kept lo hi B C) : Kept lo hi A C := fun k a b => (h' k a b).trans (h k a b)
theorem Kept.drew (lo hi : Nat) (W : World) : Kept lo hi W W.drew := fun _ _ _ => rfl
theorem cell_same {W W' : World} {p : Addr} (h : W'.heap[p.block]? = W.heap[p.block]?) : W'.cell? p = W.cell? p := by
  unfold World.cell?
  rw [h]
theorem lt_of_cell {W : World} {p : Addr} {v : Value} (hc : W.cell? p = some v) : p.block < W.heap.size := by
  unfold World.cell? at hc
  split at hc
  · rename_i h1; exact (Array.getElem?_eq_some_iff.1 h1).1
  · cases hc
theorem belC {W W' : World} (h : Below W.heap.size W W') {p : Addr} {v : Value} (hc : W.cell? p = some v) : W'.cell? p = some v :=
  (cell_same (h.block p.block (lt_of_cell hc))).trans hc
theorem Below.drewN' (W : World) (n : Nat) {B : Nat} : Below B W (W.drewN n) := ⟨rfl, rfl, rfl, Nat.le_refl _, fun _ _ => rfl⟩
/-- A slice of ints that lies between two blocks. -/
def IntsI (W : World) (lo hi : Nat) (u : Value) (xs : List Int) : Prop :=
  ∃ A c, u = .slice A xs.length c ∧ xs.length ≤ c ∧ c ≤ maxLen ∧ (∀ x ∈ xs, W64 x) ∧
    (xs ≠ [] → ∃ b o, A = some ⟨b, o, none⟩ ∧ lo ≤ b ∧ b < hi ∧ ∀ (i : Nat) (x : Int), xs[i]? = some x → W.cell? ⟨b, o + i, none⟩ = some (.int .i64 x))
/-- A slice of nodes. -/
def NodesI (W : World) (lo hi : Nat) (u : Value) (ns : List Nd) : Prop :=
  ∃ A c, u = .slice A ns.length c ∧ ns.length ≤ c ∧ c ≤ maxLen ∧
    (ns ≠ [] → ∃ b o, A = some ⟨b, o, none⟩ ∧ lo ≤ b ∧ b < hi ∧ ∀ (i : Nat) (x : Nd), ns[i]? = some x → ∃ s,
      W.cell? ⟨b, o + i * 3, none⟩ = some (.int .i64 x.op) ∧ W.cell? ⟨b, o + i * 3 + 1, none⟩ = some (.int .i64 x.n) ∧ W.cell? ⟨b, o + i * 3 + 2, none⟩ = some s ∧
      IntsI W lo hi s x.l ∧ W64 x.op ∧ W64 x.n)
def FunI (W : World) (lo hi : Nat) (v : Value) (F : Fd) : Prop := ∃ s, v = .agg #[.int .i64 F.p, s] ∧ W64 F.p ∧ NodesI W lo hi s F.ns

section
variable {W W' : World} {lo hi lo' hi' : Nat}
theorem IntsI.form {u : Value} {xs : List Int} (h : IntsI W lo hi u xs) : ∃ A c, u = .slice A xs.length c ∧ xs.length ≤ c ∧ c ≤ maxLen := by
  obtain ⟨A, c, rfl, h1, h2, _⟩ := h
  exact ⟨A, c, rfl, h1, h2⟩
theorem NodesI.form {u : Value} {ns : List Nd} (h : NodesI W lo hi u ns) : ∃ A c, u = .slice A ns.length c ∧ ns.length ≤ c ∧ c ≤ maxLen := by
  obtain ⟨A, c, rfl, h1, h2, _⟩ := h
  exact ⟨A, c, rfl, h1, h2⟩
theorem IntsI.nil (W : World) (lo hi : Nat) : IntsI W lo hi (.slice none 0 0) [] := ⟨none, 0, rfl, Nat.le_refl _, by simp [maxLen], by simp, by simp⟩
theorem IntsI.at_ {A : Option Addr} {n c : Nat} {xs : List Int} (h : IntsI W lo hi (.slice A n c) xs) {i : Nat} {x : Int} (hx : xs[i]? = some x) :
    ∃ b o, A = some ⟨b, o, none⟩ ∧ lo ≤ b ∧ b < hi ∧ W.cell? ⟨b, o + i, none⟩ = some (.int .i64 x) ∧ W64 x := by
  obtain ⟨A', c', e, h1, h2, hw, h3⟩ := h
  simp only [Value.slice.injEq] at e
  obtain ⟨rfl, rfl, rfl⟩ := e
  obtain ⟨b, o, rfl, hb, hb', hc⟩ := h3 (fun e => by rw [e] at hx; simp at hx)
  exact ⟨b, o, rfl, hb, hb', hc i x hx, hw x (List.mem_of_getElem? hx)⟩
theorem NodesI.at_ {A : Option Addr} {n c : Nat} {ns : List Nd} (h : NodesI W lo hi (.slice A n c) ns) {i : Nat} {x : Nd} (hx : ns[i]? = some x) :
    ∃ b o s, A = some ⟨b, o, none⟩ ∧ lo ≤ b ∧ b < hi ∧ W.cell? ⟨b, o + i * 3, none⟩ = some (.int .i64 x.op) ∧ W.cell? ⟨b, o + i * 3 + 1, none⟩ = some (.int .i64 x.n) ∧ W.cell? ⟨b, o + i * 3 + 2, none⟩ = some s ∧
      IntsI W lo hi s x.l ∧ W64 x.op ∧ W64 x.n := by
  obtain ⟨A', c', e, h1, h2, h3⟩ := h
  simp only [Value.slice.injEq] at e
  obtain ⟨rfl, rfl, rfl⟩ := e
  obtain ⟨b, o, rfl, hb, hb', hc⟩ := h3 (fun e => by rw [e] at hx; simp at hx)
  obtain ⟨s, q⟩ := hc i x hx
  exact ⟨b, o, s, rfl, hb, hb', q⟩
theorem IntsI.keep {u : Value} {xs : List Int} (h : IntsI W lo hi u xs) (hk : Kept lo hi W W') : IntsI W' lo hi u xs := by
  obtain ⟨A, c, rfl, h1, h2, hw, h3⟩ := h
  refine ⟨A, c, rfl, h1, h2, hw, fun hne => ?_⟩
  obtain ⟨b, o, rfl, hb, hb', hc⟩ := h3 hne
  exact ⟨b, o, rfl, hb, hb', fun i x hx => (cell_same (p := ⟨b, o + i, none⟩) (hk b hb hb')).trans (hc i x hx)⟩
theorem NodesI.keep {u : Value} {ns : List Nd} (h : NodesI W lo hi u ns) (hk : Kept lo hi W W') : NodesI W' lo hi u ns := by
  obtain ⟨A, c, rfl, h1, h2, h3⟩ := h
  refine ⟨A, c, rfl, h1, h2, fun hne => ?_⟩
  obtain ⟨b, o, rfl, hb, hb', hc⟩ := h3 hne
  refine ⟨b, o, rfl, hb, hb', fun i x hx => ?_⟩
  obtain ⟨s, c0, c1, c2, hs, w0, w1⟩ := hc i x hx
  exact ⟨s, (cell_same (p := ⟨b, _, none⟩) (hk b hb hb')).trans c0, (cell_same (p := ⟨b, _, none⟩) (hk b hb hb')).trans c1, (cell_same (p := ⟨b, _, none⟩) (hk b hb hb')).trans c2, hs.keep hk, w0, w1⟩
theorem FunI.keep {v : Value} {F : Fd} (h : FunI W lo hi v F) (hk : Kept lo hi W W') : FunI W' lo hi v F := by
  obtain ⟨s, rfl, hp, hn⟩ := h
  exact ⟨s, rfl, hp, hn.keep hk⟩
theorem IntsI.mono {u : Value} {xs : List Int} (h : IntsI W lo hi u xs) (h1 : lo' ≤ lo) (h2 : hi ≤ hi') : IntsI W lo' hi' u xs := by
  obtain ⟨A, c, rfl, h3, h4, hw, h5⟩ := h
  refine ⟨A, c, rfl, h3, h4, hw, fun hne => ?_⟩
  obtain ⟨b, o, rfl, hb, hb', hc⟩ := h5 hne
  exact ⟨b, o, rfl, by omega, by omega, hc⟩
theorem NodesI.mono {u : Value} {ns : List Nd} (h : NodesI W lo hi u ns) (h1 : lo' ≤ lo) (h2 : hi ≤ hi') : NodesI W lo' hi' u ns := by
  obtain ⟨A, c, rfl, h3, h4, h5⟩ := h
  refine ⟨A, c, rfl, h3, h4, fun hne => ?_⟩
  obtain ⟨b, o, rfl, hb, hb', hc⟩ := h5 hne
  refine ⟨b, o, rfl, by omega, by omega, fun i x hx => ?_⟩
  obtain ⟨s, c0, c1, c2, hs, w0, w1⟩ := hc i x hx
  exact ⟨s, c0, c1, c2, hs.mono h1 h2, w0, w1⟩
theorem FunI.mono {v : Value} {F : Fd} (h : FunI W lo hi v F) (h1 : lo' ≤ lo) (h2 : hi ≤ hi') : FunI W lo' hi' v F := by
  obtain ⟨s, rfl, hp, hn⟩ := h
  exact ⟨s, rfl, hp, hn.mono h1 h2⟩
theorem FunI.below {v : Value} {F : Fd} {B : Nat} (h : FunI W lo hi v F) (hb : Below B W W') (hB : hi ≤ B) : FunI W' lo hi v F := h.keep (Kept.of_below hb hB)
theorem NodesI.below {v : Value} {ns : List Nd} {B : Nat} (h : NodesI W lo hi v ns) (hb : Below B W W') (hB : hi ≤ B) : NodesI W' lo hi v ns := h.keep (Kept.of_below hb hB)
theorem IntsI.below {v : Value} {xs : List Int} {B : Nat} (h : IntsI W lo hi v xs) (hb : Below B W W') (hB : hi ≤ B) : IntsI W' lo hi v xs := h.keep (Kept.of_below hb hB)
theorem IntsI.len {A : Option Addr} {n c : Nat} {xs : List Int} (h : IntsI W lo hi (.slice A n c) xs) : n = xs.length ∧ n ≤ maxLen := by
  obtain ⟨A', c', e, h1, h2, _⟩ := h
  simp only [Value.slice.injEq] at e
  obtain ⟨rfl, rfl, rfl⟩ := e
  exact ⟨rfl, by omega⟩
end
/-- A row of ints that fills the head of a block. -/
theorem IntsI.of_blk {W : World} {lo hi g c : Nat} {t : TypeId} {cs : Array Value} {xs : List Int} (hb : Blk W g t cs) (hcs : ∀ (i : Nat) (x : Int), xs[i]? = some x → cs[i]? = some (.int .i64 x)) (hw : ∀ x ∈ xs, W64 x)
    (h1 : xs.length ≤ c) (h2 : c ≤ maxLen) (hl : lo ≤ g) (hh : g < hi) : IntsI W lo hi (.slice (some ⟨g, 0, none⟩) xs.length c) xs :=
  ⟨_, c, rfl, h1, h2, hw, fun _ => ⟨g, 0, rfl, hl, hh, fun i x hx => by rw [Nat.zero_add, hb.cell]; exact hcs i x hx⟩⟩
theorem Blk.setRow6 {w : World} {g : Nat} {t : TypeId} {old : Array Value} (h : Blk w g t old) (cells : Array Value) : Blk (w.setRow g cells) g t cells := setRow_heap w g old cells t (0, 0) h
theorem below_setRow6 {n g : Nat} {w W : World} (h : Below n w W) (hg : n ≤ g) (cells : Array Value) : Below n w (W.setRow g cells) :=
  ⟨h.os, h.tape, h.output, by simpa [World.setRow] using h.size, fun k hk => (setRow_other W g k cells (by omega)).trans (h.block k hk)⟩
def intsOf (l : List Int) : Array Value := (l.map (Value.int .i64)).toArray
theorem intsOf_get {l : List Int} {i : Nat} {x : Int} (h : l[i]? = some x) : (intsOf l)[i]? = some (.int .i64 x) := by unfold intsOf; simp [h]
theorem intsOf_set (l : List Int) (i : Nat) (x : Int) : (intsOf l).setIfInBounds i (.int .i64 x) = intsOf (l.set i x) := by
  unfold intsOf
  simp [List.map_set]
theorem intsOf_size (l : List Int) : (intsOf l).size = l.length := by unfold intsOf; simp
theorem info_parts6 {P : Program} {t : TypeId} {v : Value} {n b : Nat} (h : (P.info? t).map (fun i => (i.zero, i.size, i.bytes)) = some (some v, n, b)) : ∃ i, P.info? t = some i ∧ i.zero = some v ∧ i.size = n ∧ i.bytes = b := by
  cases hq : P.info? t with
  | none => simp [hq] at h
  | some i => simp [hq] at h; exact ⟨i, rfl, h.1, h.2.1, h.2.2⟩
theorem intInfo : (Try.prog.info? 3).map (fun i => (i.zero, i.size, i.bytes)) = some (some (.int .i64 0), 1, 8) := by kernel_rfl
end Go.Proofs.Ytleihdakmibmhaa
