/- SpinHolds: who holds what. -/
import Derived.Test.YthiaaapcbiameaaDoorSf
namespace Go.Proofs.YthiaaapcbiameaaDoor
open Go.RowKit Go.Shelf

theorem set_same {l : List Int} {k : Nat} {h : Int} (ht : l[k]? = some h) : l.set k h = l := by
  obtain ⟨hlt, rfl⟩ := List.getElem?_eq_some_iff.1 ht
  simp

/-- What a lock's cell has, if h holds it (none below 0). -/
def cellOf (h : Int) : Int := if h < 0 then 0 else 1
/-- The locks stand as the holders say. -/
structure Hs (L : Nat) (hold : List Int) (s : St) : Prop where
  cs : s.cs = (hold.take L).map cellOf
  len : hold.length = 4
  le : L ≤ 4
section
variable {L k : Nat} {hold : List Int} {s : St} {h : Int}
theorem Hs.inSt (hs : Hs L hold s) (hk : k < L) : inSt s (k : Int) = true := by
  have := hs.len; have := hs.le
  simp [Go.Proofs.YthiaaapcbiameaaDoor.inSt, hs.cs]; omega
theorem Hs.at_ (hs : Hs L hold s) (hk : k < L) (ht : hold[k]? = some h) : s.at_ (k : Int).toNat = cellOf h := by
  have := hs.len; have := hs.le
  simp [St.at_, hs.cs, List.getElem?_take_of_lt hk, ht]
theorem Hs.do_ (hs : Hs L hold s) (hk : k < L) (ht : hold[k]? = some h) (op x y h' : Int) (hn : newOf op (cellOf h) x y = cellOf h') :
    Hs L (hold.set k h') (doSt s op k x y).1 ∧ (doSt s op k x y).1.hist.length = s.hist.length + 1 ∧ (doSt s op k x y).2.1.old = cellOf h ∧ (doSt s op k x y).2.1.did = didOf op (cellOf h) x ∧ (doSt s op k x y).2.2 = 0 := by
  have ha := hs.at_ hk ht
  unfold doSt
  rw [if_pos (hs.inSt hk)]
  refine ⟨⟨?_, by simp [hs.len], hs.le⟩, ?_, ha, ?_, rfl⟩
  · simp only [St.step, accOf, Int.toNat_natCast] at ha ⊢
    rw [ha, hn, hs.cs, List.take_set, List.map_set]
  · simp [St.step]
  · simp only [accOf, Int.toNat_natCast] at ha ⊢
    rw [ha]
end

/-- The arena, since w0, as the holders say, behind so many accesses. -/
structure La (B b L : Nat) (hold : List Int) (n : Nat) (w0 w : World) : Prop where
  ex : ∃ s, Wk B b s w0 w ∧ Hs L hold s ∧ s.hist.length = n
  size : B ≤ w.heap.size
section
variable {B b L k n : Nat} {hold : List Int} {h : Int} {w0 w w' : World}
theorem La.step (hl : La B b L hold n w0 w) {s' : St} {hold' : List Int} {n' : Nat} (hs : (arena b).Steps s' w w') (h1 : Hs L hold' s') (h2 : s'.hist.length = n') : La B b L hold' n' w0 w' := by
  obtain ⟨s, hk, _, _⟩ := hl.ex
  exact ⟨⟨s', hk.step hs hl.size, h1, h2⟩, Nat.le_trans hl.size hs.size⟩
theorem La.andBelow (hl : La B b L hold n w0 w) (hB : Below w.heap.size w w') : La B b L hold n w0 w' ∧ Moved b w w' := by
  obtain ⟨s, hk, h1, h2⟩ := hl.ex
  have := Res.Steps.below hk.lk.are hB
  exact ⟨hl.step this h1 h2, _, this⟩
theorem La.num (hl : La B b L hold n w0 w) : Num w := by obtain ⟨s, hk, _⟩ := hl.ex; exact hk.lk.num
theorem La.toBelow (hl : La B b L hold n w0 w) : Below B w0 w := by obtain ⟨s, hk, _⟩ := hl.ex; exact hk.below
theorem free_la (hl : La B b L hold n w0 w) (hn : n < 1000) (hk : k < L) (ht : hold[k]? = some h) (h0 : 0 ≤ h) :
    Calls Tryd.prog 17 #[.pointer (some ⟨b, 0, none⟩), .int .i64 (k : Int)] w fun e w' => e = .returned (.int .i64 0) ∧ La B b L (hold.set k (-1)) (n + 1) w0 w' ∧ Moved b w w' := by
  obtain ⟨s, hw, h1, h2⟩ := hl.ex
  have hc : cellOf h = 1 := by unfold cellOf; rw [if_neg (by omega)]
  obtain ⟨d1, d2, d3, d4, d5⟩ := h1.do_ hk ht 3 1 0 (-1) (by rw [hc]; rfl)
  refine (spinFree_ok k hw.lk (by omega)).mono ?_
  rintro e w1 ⟨rfl, hst⟩
  refine ⟨?_, hl.step hst d1 (by omega), _, hst⟩
  have ha := h1.at_ hk ht
  simp only [freeErr, if_pos (h1.inSt hk), ha, hc]
  rfl
theorem tryf_la (hl : La B b L hold n w0 w) (hn : n < 1000) (hk : k < L) (ht : hold[k]? = some h) (h0 : h < 0) (u : Int) (hu : 0 ≤ u) :
    Calls Tryd.prog 14 #[.pointer (some ⟨b, 0, none⟩), .int .i64 (k : Int)] w fun e w' => e = .returned (.tuple #[.bool true, .int .i64 0]) ∧ La B b L (hold.set k u) (n + 1) w0 w' ∧ Moved b w w' := by
  obtain ⟨s, hw, h1, h2⟩ := hl.ex
  have hc : cellOf h = 0 := by unfold cellOf; rw [if_pos h0]
  have hcu : cellOf u = 1 := by unfold cellOf; rw [if_neg (by omega)]
  obtain ⟨d1, d2, d3, d4, d5⟩ := h1.do_ hk ht 3 0 1 u (by rw [hc, hcu]; rfl)
  refine (spinTry_ok k hw.lk (by omega)).mono ?_
  rintro e w1 ⟨rfl, hst⟩
  rw [d4, d5, hc]
  exact ⟨rfl, hl.step hst d1 (by omega), _, hst⟩
theorem tryh_la (hl : La B b L hold n w0 w) (hn : n < 1000) (hk : k < L) (ht : hold[k]? = some h) (h0 : 0 ≤ h) :
    Calls Tryd.prog 14 #[.pointer (some ⟨b, 0, none⟩), .int .i64 (k : Int)] w fun e w' => e = .returned (.tuple #[.bool false, .int .i64 0]) ∧ La B b L hold (n + 1) w0 w' ∧ Moved b w w' := by
  obtain ⟨s, hw, h1, h2⟩ := hl.ex
  have hc : cellOf h = 1 := by unfold cellOf; rw [if_neg (by omega)]
  obtain ⟨d1, d2, d3, d4, d5⟩ := h1.do_ hk ht 3 0 1 h (by rw [hc]; rfl)
  rw [set_same ht] at d1
  refine (spinTry_ok k hw.lk (by omega)).mono ?_
  rintro e w1 ⟨rfl, hst⟩
  rw [d4, d5, hc]
  exact ⟨rfl, hl.step hst d1 (by omega), _, hst⟩
theorem held_la (hl : La B b L hold n w0 w) (hn : n < 1000) (hk : k < L) (ht : hold[k]? = some h) (h0 : 0 ≤ h) :
    Calls Tryd.prog 18 #[.pointer (some ⟨b, 0, none⟩), .int .i64 (k : Int)] w fun e w' => e = .returned (.tuple #[.bool true, .int .i64 0]) ∧ La B b L hold (n + 1) w0 w' ∧ Moved b w w' := by
  obtain ⟨s, hw, h1, h2⟩ := hl.ex
  have hc : cellOf h = 1 := by unfold cellOf; rw [if_neg (by omega)]
  obtain ⟨d1, d2, d3, d4, d5⟩ := h1.do_ hk ht 1 0 0 h (by rw [hc]; rfl)
  rw [set_same ht] at d1
  refine (spinHeld_ok k hw.lk (by omega)).mono ?_
  rintro e w1 ⟨rfl, hst⟩
  rw [d3, d5, hc]
  exact ⟨rfl, hl.step hst d1 (by omega), _, hst⟩
/-- One more lock. -/
theorem new_la {s : St} (hk : Wk B b s w0 w) (hB : B ≤ w.heap.size) (hs : s = ⟨L, List.replicate k 0, []⟩) (hl : k < L) :
    Calls Tryd.prog 13 #[.pointer (some ⟨b, 0, none⟩)] w fun e w' => ∃ s', e = .returned (.tuple #[.int .i64 (k : Int), .int .i64 0]) ∧ Wk B b s' w0 w' ∧ B ≤ w'.heap.size ∧ s' = ⟨L, List.replicate (k + 1) 0, []⟩ := by
  subst hs
  have ha : allocSt ⟨L, List.replicate k 0, []⟩ 1 = (⟨L, List.replicate (k + 1) 0, []⟩, (k : Int), 0) := by
    unfold allocSt
    rw [if_neg (by decide), if_neg (by simp; omega)]
    simp [List.replicate_succ']
  refine (spinNew_ok hk.lk).mono ?_
  rintro e w1 ⟨rfl, hst⟩
  rw [ha] at hst ⊢
  exact ⟨_, rfl, hk.step hst hB, Nat.le_trans hB hst.size, rfl⟩
theorem start_la {s : St} (hk : Wk B b s w0 w) (hB : B ≤ w.heap.size) (hs : s = ⟨L, List.replicate L 0, []⟩) (hL : L ≤ 4) : La B b L [-1, -1, -1, -1] 0 w0 w := by
  subst hs
  refine ⟨⟨_, hk, ⟨?_, rfl, hL⟩, rfl⟩, hB⟩
  have : L = 0 ∨ L = 1 ∨ L = 2 ∨ L = 3 ∨ L = 4 := by omega
  rcases this with rfl | rfl | rfl | rfl | rfl <;> rfl
end
/-- The holders' block. -/
def holdObj (hold : List Int) : Obj := .cells (hold.map (Value.int .i64)).toArray 61 (0, 0)
end Go.Proofs.YthiaaapcbiameaaDoor
