/- ValParts: what its walk stands on. -/
import Derived.Test.YtmfcecfcfihgaaaPo
import Derived.Test.YtmfcecfcfihgaaaNm
import Derived.Test.YtmfcecfcfihgaaaPh
import Derived.Test.YtmfcecfcfihgaaaJn
import Derived.Test.YtmfcecfcfihgaaaHr
namespace Go.Proofs.Ytmfcecfcfihgaaa
open Go.RowKit Go.Shelf
attribute [local go_sem] Oper.semAt_some store_nilFunc store_func

/-- What is wanted, in its cell. -/
structure WantS (w : World) (L : List (Nat × V)) (S : Option Addr) (d b5 : Nat) (W : World) : Prop where
  ex : ∃ xs, Row W 45 4 (.slice S L.length d) L.length xs ∧ EncP4 W w.heap.size L xs
  own : ∀ j, (Value.slice S L.length d).ownBlock = some j → w.heap.size ≤ j ∧ j < b5
  bx : Blk W b5 38 #[.slice S L.length d]
  sz : w.heap.size ≤ W.heap.size
theorem WantS.keep {w W W' : World} {L : List (Nat × V)} {S : Option Addr} {d b5 : Nat} {F : Nat → Prop} (h : WantS w L S d b5 W) (hk : Keep F W W') (hF : ∀ k, F k → w.heap.size ≤ k ∧ b5 < k) : WantS w L S d b5 W' := by
  obtain ⟨xs, h1, h2⟩ := h.ex
  exact ⟨⟨xs, h1.keep fun j hj => hk.block j (h1.lt j hj) (fun f => by have := hF _ f; have := (h.own j hj).2; omega), h2.keep fun b hb => hk.block b (by have := h.sz; omega) (fun f => by have := hF _ f; omega)⟩,
    h.own, h.bx.keep (hk.block _ h.bx.lt (fun f => by have := hF _ f; omega)), Nat.le_trans h.sz hk.size⟩
theorem WantS.below {w W W' : World} {L : List (Nat × V)} {S : Option Addr} {d b5 : Nat} (h : WantS w L S d b5 W) (hb : Below W.heap.size W W') : WantS w L S d b5 W' := by
  obtain ⟨xs, h1, h2⟩ := h.ex
  exact ⟨⟨xs, h1.keep fun j hj => hb.block j (h1.lt j hj), h2.keep fun b hb' => hb.block b (by have := h.sz; omega)⟩, h.own, h.bx.keep (hb.block _ h.bx.lt), Nat.le_trans h.sz hb.size⟩
theorem WantS.of {w W W' : World} {L : List (Nat × V)} {S : Option Addr} {d : Nat} (h : PartsL W w.heap.size L (.slice S L.length d) W') (hw : w.heap.size ≤ W.heap.size) : WantS w L S d W'.heap.size (W'.alloc (.cells #[.slice S L.length d] 38)) := by
  obtain ⟨xs, h1, h2⟩ := h.ex
  have hs := h.bl.size
  have hb : Below W'.heap.size W' (W'.alloc (.cells #[.slice S L.length d] 38)) := (Below.refl _ _).alloc (Nat.le_refl _) _
  exact ⟨⟨xs, h1.keep fun j hj => hb.block j (h1.lt j hj), h2.keep fun b hb' => hb.block b (by omega)⟩, fun j hj => ⟨Nat.le_trans hw (h.own j hj), h1.lt j hj⟩, Blk.new _ _ _, by have := hb.size; omega⟩

theorem Turned.cellP {W W' : World} (h : Turned W W') {p : Addr} {v : Value} (hc : W.cell? p = some v) : W'.cell? p = some v := by
  have hb : ∃ o, W.heap[p.block]? = some o ∧ o.isCells = true := by
    unfold World.cell? at hc
    split at hc
    · rename_i h1; exact ⟨_, h1, rfl⟩
    · cases hc
  obtain ⟨o, h1, h2⟩ := hb
  exact (cell_same (h.at_ h1 h2)).trans hc
theorem In.turnedP {W W' : World} {lo hi : Nat} {v : Value} {T : V} (h : In W lo hi v T) (ht : Turned W W') : In W' lo hi v T := by
  induction h with
  | mk k n l A c b o f hk' hn h1 h2 hA hc hR ih =>
    refine .mk k n l A c b o f hk' hn h1 h2 hA (fun i hi' => ?_) ih
    obtain ⟨x, y, z, e, e0, e1, e2⟩ := hc i hi'
    exact ⟨x, y, z, e, ht.cellP e0, ht.cellP e1, ht.cellP e2⟩

/-- A count in a cell, and what was before it. -/
structure RT (G : Nat) (W7 : World) (m : Nat) (W : World) : Prop where
  cell : Blk W G 3 #[.int .i64 (m : Int)]
  bl : Below G W7 W
theorem RT.keepB {G n m : Nat} {W7 W W' : World} (h : RT G W7 m W) (hk : Keep (fun k => n ≤ k) W W') (hn : G < n) (hs : G ≤ W7.heap.size) : RT G W7 m W' := ⟨h.cell.keepB hk hn, Below.keepB h.bl hk (by omega) hs⟩
theorem RT.below {G m : Nat} {W7 W W' : World} (h : RT G W7 m W) (hb : Below W.heap.size W W') : RT G W7 m W' := ⟨h.cell.keep (hb.block _ h.cell.lt), h.bl.trans (hb.mono (Nat.le_of_lt h.cell.lt))⟩
theorem RT.next {G m : Nat} {W7 W : World} (h : RT G W7 m W) : RT G W7 (m + 1) (W.setCell ⟨G, 0, none⟩ (.int .i64 ((m : Int) + 1))) :=
  ⟨by have := h.cell.set 0 (.int .i64 ((m : Int) + 1)); simpa using this, h.bl.setCell (Nat.le_refl _) _⟩

theorem eql_seq2 (B : Nat) (w : World) : (binOp .eql 42 (.func (.func 83) #[] #[.pointer (some ⟨B, 0, none⟩)]) .nilFunc).run Try.prog w = .ok (.bool false) w := by
  kernel_rfl

theorem szCases (T : V) : (T.size ≤ 256 ∧ ¬ (256 : Int) < (T.sz : Int)) ∨ (¬ T.size ≤ 256 ∧ (256 : Int) < (T.sz : Int)) := by unfold V.sz; omega
/-- What Parts hands back: one of two iterators. -/
def PU (T : V) (g0 : World) (gf : Nat) (lb : Array Value) (w' : World) : Prop :=
  (rightB T = true ∧ ∃ pb SP cP, gf = 83 ∧ lb = #[.pointer (some ⟨pb, 0, none⟩)] ∧ Blk w' pb 36 #[.int .i64 T.k, .int .i64 T.n, .slice SP T.l.length cP] ∧ In w' g0.heap.size w'.heap.size (.agg #[.int .i64 T.k, .int .i64 T.n, .slice SP T.l.length cP]) T ∧ g0.heap.size ≤ pb) ∨
  (rightB T = false ∧ gf = 82 ∧ lb = #[])
theorem Parts_u {v : Value} {T : V} (w : World) (h : In w 0 w.heap.size v T) : Calls Try.prog 23 #[v] w fun e w' => ∃ gf lb, e = .returned (.func (.func gf) #[] lb) ∧ Hid (PU T w gf lb w' ∧ Below w.heap.size w w') := by
  cases hr : rightB T
  · exact (Parts_bad w h (Nat.le_refl _) hr).mono fun e w' q => ⟨_, _, q.1, Lib.hid ⟨.inr ⟨hr, rfl, rfl⟩, q.2⟩⟩
  · exact (Parts_ok w h (Nat.le_refl _) hr).mono fun e w' q => by
      obtain ⟨pb, SP, cP, rfl, h1, h2, h3, h4⟩ := q
      exact ⟨_, _, rfl, Lib.hid ⟨.inl ⟨hr, pb, SP, cP, rfl, rfl, h1, h2, h3⟩, h4⟩⟩
theorem PU.eql {T : V} {g0 w' : World} {gf : Nat} {lb : Array Value} (h : PU T g0 gf lb w') (w : World) : (binOp .eql 42 (.func (.func gf) #[] lb) .nilFunc).run Try.prog w = .ok (.bool false) w := by
  rcases h with ⟨_, pb, SP, cP, rfl, rfl, _⟩ | ⟨_, rfl, rfl⟩ <;> kernel_rfl
theorem PU.enters {T : V} {g0 w' : World} {gf : Nat} {lb : Array Value} (h : PU T g0 gf lb w') (args : Array Value) (w : World) : (callFunc gf args).run Try.prog w = .ok (.enter gf args) w := by
  rcases h with ⟨_, pb, SP, cP, rfl, rfl, _⟩ | ⟨_, rfl, rfl⟩
  · exact enters_of Try.func83 (by kernel_rfl) rfl args w
  · exact enters_of Try.func82 (by kernel_rfl) rfl args w
/-- The iterator tells what is wanted, in every world behind this one. -/
def PSeq (T : V) (gf : Nat) (lb : Array Value) (W : World) : Prop := ∃ Snap, SeqsN Try.prog gf lb encP (wantOf T) Snap ∧ ∀ pre W', Below W.heap.size W W' → pre.length ≤ 256 → Snap pre W'
theorem PU.pseq {T : V} {g0 w4 wr : World} {gf g : Nat} {lb : Array Value} (h : PU T g0 gf lb w4) (hk : Keep (fun k => k = g) w4 wr) (hg : g < g0.heap.size) (hT : T.size ≤ 256) : PSeq T gf lb wr := by
  rcases h with ⟨hr, pb, SP, cP, rfl, rfl, h1, h2, h3⟩ | ⟨hr, rfl, rfl⟩
  · have hb := h1.keep (hk.block _ h1.lt (fun e => by omega))
    have hin := (h2.keep (fun b h1 h2 => hk.block b h2 (fun e => by omega))).mono (Nat.zero_le _) hk.size
    refine ⟨SnapW wr wr.heap.size pb _, ?_, fun pre W' hB hl => ⟨hB, hb.keep (hB.block _ hb.lt), by omega⟩⟩
    unfold wantOf
    rw [if_pos hr]
    exact parts2_seqs T wr wr.heap.size pb _ hin (Nat.le_refl _) hT
  · refine ⟨fun _ _ => True, ?_, fun _ _ _ _ => trivial⟩
    unfold wantOf
    rw [if_neg (by rw [hr]; decide)]
    exact parts1_seqs _ _
theorem want_len (T : V) : (wantOf T).length ≤ T.size := by
  unfold wantOf
  split
  · exact Nat.le_refl _
  · simp
theorem want_size (T : V) (p : Nat × V) (hp : p ∈ wantOf T) : p.2.size ≤ T.size := by
  unfold wantOf at hp
  split at hp
  · exact part_size T 0 p hp
  · simp at hp
theorem run_max (ats : Array TypeId) (ty : TypeId) (a b : Int) (w : World) : Sem.run Try.prog (Builtin.max_ ats ty #[.int .i64 a, .int .i64 b]) w = .ok (.int .i64 (max a b)) w := by
  have : max a b = if a < b then b else a := by split <;> omega
  rw [this]
  by_cases h : a < b <;> simp [Builtin.max_, Builtin.max2, h]
theorem run_min (ats : Array TypeId) (ty : TypeId) (a b : Int) (w : World) : Sem.run Try.prog (Builtin.min_ ats ty #[.int .i64 a, .int .i64 b]) w = .ok (.int .i64 (min a b)) w := by
  have : min a b = if b < a then b else a := by split <;> omega
  rw [this]
  by_cases h : b < a <;> simp [Builtin.min_, Builtin.min2, h]
theorem belP {W W' : World} (h : Below W.heap.size W W') {p : Addr} {v : Value} (hc : W.cell? p = some v) : W'.cell? p = some v := by
  refine (cell_same (h.block p.block ?_)).trans hc
  unfold World.cell? at hc
  split at hc
  · rename_i h1; exact (Array.getElem?_eq_some_iff.1 h1).1
  · cases hc
/-- That a turn may go on. -/
def LimP (early : Bool) (many : Int) (pre : List (Nat × V)) : Prop := early = true → pre = [] ∨ (pre.length : Int) < many
def endN (early : Bool) (len : Nat) (many : Int) : Int := if early then min (len : Int) (max 1 many) else len
/-- How a turn's range ends. -/
structure RTj (G : Nat) (W7 : World) (N : Int) (W : World) : Prop where
  cell : Blk W G 3 #[.int .i64 N]
  bl : Below G W7 W
theorem RTj.keepB {G n : Nat} {N : Int} {W7 W W' : World} (h : RTj G W7 N W) (hk : Keep (fun k => n ≤ k) W W') (hn : G < n) (hs : G ≤ W7.heap.size) : RTj G W7 N W' := ⟨h.cell.keepB hk hn, Below.keepB h.bl hk (by omega) hs⟩
/-- What stands through the turns. -/
structure PT (w : World) (T : V) (A : Option Addr) (c : Nat) (many : Int) (S : Option Addr) (d b5 : Nat) (wr W : World) : Prop where
  p3 : P3 w T A c many W
  ws : WantS w (wantOf T) S d b5 W
  bl : Below wr.heap.size wr W
theorem PT.below {w : World} {T : V} {A : Option Addr} {c : Nat} {many : Int} {S : Option Addr} {d b5 : Nat} {wr W W' : World} (h : PT w T A c many S d b5 wr W) (hb : Below W.heap.size W W') : PT w T A c many S d b5 wr W' :=
  ⟨h.p3.below hb, h.ws.below hb, h.bl.trans (hb.mono h.bl.size)⟩

end Go.Proofs.Ytmfcecfcfihgaaa
