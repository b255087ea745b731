/- The plain side of an arena: its accesses, which of them are remembered, and what the memory holds of it. -/
import Derived.Test.YthiaaapcbiameaaDoorT
import Derived.Test.YthiaaapcbiameaaDoorD
namespace Go.Proofs.YthiaaapcbiameaaDoor
open Go.RowKit

def Acc.val (x : Acc) : Value := .agg #[.int .i64 x.op, .int .i64 x.at_, .int .u64 x.old, .int .u64 x.new, .bool x.did]

def ringPush (r : List Acc) (cnt : Nat) (x : Acc) : List Acc := if r.length < 1024 then r ++ [x] else r.set (cnt % 1024) x
def ringFrom : Nat → List Acc → List Acc → List Acc
  | _, r, [] => r
  | n, r, x :: h => ringFrom (n + 1) (ringPush r n x) h
def ring (h : List Acc) : List Acc := ringFrom 0 [] h

theorem ringFrom_snoc (x : Acc) : ∀ (h : List Acc) (n : Nat) (r : List Acc), ringFrom n r (h ++ [x]) = ringPush (ringFrom n r h) (n + h.length) x
  | [], n, r => rfl
  | y :: h, n, r => by
    show ringFrom (n + 1) (ringPush r n y) (h ++ [x]) = _
    rw [ringFrom_snoc x h]
    show ringPush (ringFrom (n + 1) (ringPush r n y) h) (n + 1 + h.length) x = ringPush (ringFrom (n + 1) (ringPush r n y) h) (n + (y :: h).length) x
    rw [List.length_cons, Nat.add_assoc, Nat.add_comm 1]
theorem ring_snoc (h : List Acc) (x : Acc) : ring (h ++ [x]) = ringPush (ring h) h.length x := by
  unfold ring; rw [ringFrom_snoc, Nat.zero_add]
theorem ring_nil : ring [] = [] := rfl

theorem list_snoc_ind {α : Type} {p : List α → Prop} (h0 : p []) (hs : ∀ l x, p l → p (l ++ [x])) (l : List α) : p l := by
  have : ∀ n (l : List α), l.length = n → p l := by
    intro n
    induction n with
    | zero => intro l hl; rw [List.eq_nil_of_length_eq_zero hl]; exact h0
    | succ n ih =>
      intro l hl
      have hne : l ≠ [] := by intro e; subst e; simp at hl
      rw [← List.dropLast_concat_getLast hne]
      exact hs _ _ (ih _ (by simp [hl]))
  exact this _ l rfl

theorem ring_length (h : List Acc) : (ring h).length = min 1024 h.length := by
  induction h using list_snoc_ind with
  | h0 => rfl
  | hs l x ih =>
    rw [ring_snoc]; unfold ringPush
    split
    · simp; omega
    · simp; omega

theorem ring_get (h : List Acc) : ∀ k, k < h.length → h.length ≤ k + 1024 → (ring h)[k % 1024]? = h[k]? := by
  induction h using list_snoc_ind with
  | h0 => intro k hk; simp at hk
  | hs l x ih =>
    intro k hk hk2
    have hl := ring_length l
    rw [ring_snoc]; unfold ringPush
    simp only [List.length_append, List.length_cons, List.length_nil] at hk hk2
    by_cases hlt : (ring l).length < 1024
    · rw [if_pos hlt]
      have hll : l.length < 1024 := by omega
      have hke : k % 1024 = k := Nat.mod_eq_of_lt (by omega)
      rw [hke]
      by_cases hk3 : k < l.length
      · rw [List.getElem?_append_left (by omega), List.getElem?_append_left hk3]
        have := ih k hk3 (by omega)
        rw [hke] at this
        exact this
      · have : k = l.length := by omega
        subst this
        rw [List.getElem?_append_right (by omega), List.getElem?_append_right (by omega)]
        have : (ring l).length = l.length := by omega
        rw [this]
    · rw [if_neg hlt]
      have hr : (ring l).length = 1024 := by omega
      by_cases hk3 : k < l.length
      · rw [List.getElem?_append_left hk3]
        have hne : l.length % 1024 ≠ k % 1024 := by omega
        rw [List.getElem?_set_ne hne]
        exact ih k hk3 (by omega)
      · have : k = l.length := by omega
        subst this
        rw [List.getElem?_append_right (by omega), List.getElem?_set_self (by omega)]
        simp

theorem flatMap_length5 (r : List Acc) : (r.flatMap Acc.cells).length = r.length * 5 := by
  induction r with
  | nil => rfl
  | cons x r ih => rw [List.flatMap_cons, List.length_append, ih]; simp [Acc.cells]; omega

theorem flatMap_set (r : List Acc) (x : Acc) : ∀ i, i < r.length →
    (r.set i x).flatMap Acc.cells = (((((r.flatMap Acc.cells).set (i * 5) (.int .i64 x.op)).set (i * 5 + 1) (.int .i64 x.at_)).set (i * 5 + 2) (.int .u64 x.old)).set (i * 5 + 3) (.int .u64 x.new)).set (i * 5 + 4) (.bool x.did) := by
  induction r with
  | nil => intro i hi; simp at hi
  | cons y r ih =>
    intro i hi
    cases i with
    | zero => simp [Acc.cells]
    | succ i =>
      have e0 : (i + 1) * 5 = (i * 5) + 5 := by omega
      rw [List.set_cons_succ, List.flatMap_cons, ih i (by simpa using hi), List.flatMap_cons, e0]
      have hc : (Acc.cells y).length = 5 := rfl
      rw [List.set_append_right _ _ (by omega), List.set_append_right _ _ (by omega), List.set_append_right _ _ (by omega), List.set_append_right _ _ (by omega), List.set_append_right _ _ (by omega)]
      congr 1

theorem pushN_ring (r : List Acc) (cnt : Nat) (x : Acc) : pushN r.length = (ringPush r cnt x).length := by
  unfold pushN ringPush
  split <;> simp
theorem pushX_ring (r : List Acc) (cnt : Nat) (x : Acc) (hr : r.length ≤ 1024) : pushX r.length cnt (r.flatMap Acc.cells) (.int .i64 x.op) (.int .i64 x.at_) (.int .u64 x.old) (.int .u64 x.new) (.bool x.did) = (ringPush r cnt x).flatMap Acc.cells := by
  unfold pushX ringPush
  split
  · simp [Acc.cells]
  · rw [flatMap_set _ _ _ (by omega)]

/-- An arena as the document has it: the cells, how many there may be, all accesses. -/
structure St where
  most : Nat
  cs : List Int
  hist : List Acc
def St.step (s : St) (j : Nat) (x : Acc) : St := { s with cs := s.cs.set j x.new, hist := s.hist ++ [x] }

/-- The block b holds the arena s; all its blocks are of F. -/
structure Ar (F : Nat → Prop) (w : World) (b : Nat) (s : St) (vl vc : Value) : Prop where
  blk : Blk w b 55 #[.int .u64 (s.hist.length : Int), vl, vc, .int .i64 (s.most : Int)]
  cells : Row w 48 1 vc s.cs.length (s.cs.map (Value.int .u64))
  last : Row w 98 5 vl (ring s.hist).length ((ring s.hist).flatMap Acc.cells)
  fb : F b
  fl : ∀ k, vl.ownBlock = some k → F k
  fc : ∀ k, vc.ownBlock = some k → F k
  pos : 1 ≤ s.most
  most : s.most ≤ 65536
  len : s.cs.length ≤ s.most
def Are (F : Nat → Prop) (w : World) (b : Nat) (s : St) : Prop := ∃ vl vc, Ar F w b s vl vc

section
variable {F G : Nat → Prop} {w w' : World} {b : Nat} {s : St}
theorem Are.keep (h : Are F w b s) (hk : ∀ k, k < w.heap.size → F k → w'.heap[k]? = w.heap[k]?) : Are F w' b s := by
  obtain ⟨vl, vc, h⟩ := h
  exact ⟨vl, vc, h.blk.keep (hk b h.blk.lt h.fb), h.cells.keep (fun k e => hk k (h.cells.lt k e) (h.fc k e)), h.last.keep (fun k e => hk k (h.last.lt k e) (h.fl k e)), h.fb, h.fl, h.fc, h.pos, h.most, h.len⟩
theorem Are.mono (h : Are F w b s) (hFG : ∀ k, k < w.heap.size → F k → G k) : Are G w b s := by
  obtain ⟨vl, vc, h⟩ := h
  exact ⟨vl, vc, h.blk, h.cells, h.last, hFG _ h.blk.lt h.fb, fun k e => hFG k (h.last.lt k e) (h.fl k e), fun k e => hFG k (h.cells.lt k e) (h.fc k e), h.pos, h.most, h.len⟩
theorem Are.alloc (h : Are F w b s) (o : Obj) : Are F (w.alloc o) b s := h.keep fun k hk _ => Below.heap_alloc w o k hk
theorem Are.drew (h : Are F w b s) : Are F w.drew b s := h.keep fun _ _ _ => rfl
theorem Are.drewN (h : Are F w b s) (m : Nat) : Are F (w.drewN m) b s := h.keep fun _ _ _ => rfl
theorem Are.below (h : Are F w b s) (hb : Below w.heap.size w w') : Are F w' b s := h.keep fun k hk _ => hb.block k hk
theorem Are.other (h : Are F w b s) (hk : Keep G w w') (hd : ∀ k, k < w.heap.size → F k → ¬ G k) : Are F w' b s := h.keep fun k h1 h2 => hk.block k h1 (hd k h1 h2)
theorem Are.lt (h : Are F w b s) : b < w.heap.size := by obtain ⟨_, _, h⟩ := h; exact h.blk.lt
theorem Are.most_cell (h : Are F w b s) : w.cell? ⟨b, 3, none⟩ = some (.int .i64 (s.most : Int)) := by obtain ⟨_, _, h⟩ := h; have := h.blk.cell 3; simpa using this
theorem Are.count_cell (h : Are F w b s) : w.cell? ⟨b, 0, none⟩ = some (.int .u64 (s.hist.length : Int)) := by obtain ⟨_, _, h⟩ := h; have := h.blk.cell 0; simpa using this

/-- One access. -/
theorem Are.step {vl vc : Value} (h : Ar F w b s vl vc) (hF : ∀ k, w.heap.size ≤ k → F k) {j : Nat} {x : Acc} 
    (hp : PerfPost w b s.hist.length s.cs.length (pushN (ring s.hist).length) vl vc (.int .i64 s.most) ((s.cs.map (Value.int .u64)).set j (.int .u64 x.new)) (pushX (ring s.hist).length s.hist.length ((ring s.hist).flatMap Acc.cells) (.int .i64 x.op) (.int .i64 x.at_) (.int .u64 x.old) (.int .u64 x.new) (.bool x.did)) w') :
    Are F w' b (s.step j x) ∧ Keep F w w' := by
  have hr : (ring s.hist).length ≤ 1024 := by rw [ring_length]; omega
  obtain ⟨vl', h1, h2, h3, h4, h5⟩ := hp
  rw [pushX_ring _ _ _ hr, pushN_ring _ s.hist.length x, ← ring_snoc] at h3
  refine ⟨⟨vl', vc, ?_, ?_, h3, h.fb, ?_, h.fc, h.pos, h.most, ?_⟩, h4.mono ?_⟩
  · simpa [St.step] using h1
  · rw [← List.map_set] at h2
    simpa [St.step] using h2
  · intro k hk
    rcases h5 with e | ⟨k', h6, e⟩
    · exact h.fl k (e ▸ hk)
    · rw [e] at hk; injection hk with hk; subst hk; exact hF _ h6
  · simpa [St.step] using h.len
  · rintro k (rfl | hk | hk)
    · exact h.fb
    · exact h.fl k hk
    · exact h.fc k hk
end
end Go.Proofs.YthiaaapcbiameaaDoor
