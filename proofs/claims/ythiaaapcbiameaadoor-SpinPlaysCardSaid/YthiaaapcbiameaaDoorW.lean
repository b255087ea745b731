/- The calls of an arena, each by what the document's own arena does. -/
import Derived.Test.YthiaaapcbiameaaDoorS
import Derived.Test.YthiaaapcbiameaaDoorL
import Derived.Test.YthiaaapcbiameaaDoorN
namespace Go.Proofs.YthiaaapcbiameaaDoor
open Go.RowKit

def newOf (op was x y : Int) : Int := if op = 2 then x else if op = 3 then (if (was == x) = true then y else was) else if op = 4 then IntKind.u64.wrap (was + x) else was
def didOf (op was x : Int) : Bool := if op = 3 then was == x else true
def zeroAcc : Acc := ⟨0, 0, 0, 0, false⟩
def accOf (s : St) (op j x y : Int) : Acc := ⟨op, j, s.at_ j.toNat, newOf op (s.at_ j.toNat) x y, didOf op (s.at_ j.toNat) x⟩
def inSt (s : St) (j : Int) : Bool := decide (0 ≤ j) && decide (j < (s.cs.length : Int))
def doSt (s : St) (op j x y : Int) : St × Acc × Int :=
  if inSt s j = true then (s.step j.toNat (accOf s op j x y), accOf s op j x y, 0) else (s, zeroAcc, 4)
def allocSt (s : St) (n : Int) : St × Int × Int :=
  if n < 0 then (s, 0, 2) else if (s.most : Int) < (s.cs.length : Int) + n then (s, 0, 6) else ({ s with cs := s.cs ++ List.replicate n.toNat 0 }, s.cs.length, 0)

/-- Since the world w0 only blocks of F have been written; the arena b stands as s, in blocks of F. -/
structure WS (F : Nat → Prop) (w0 w : World) (b : Nat) (s : St) : Prop where
  are : Are F w b s
  keep : Keep F w0 w
  fresh : ∀ k, w0.heap.size ≤ k → F k

section
variable {F : Nat → Prop} {w0 w w' : World} {b : Nat} {s s' : St}
theorem WS.hF (h : WS F w0 w b s) : ∀ k, w.heap.size ≤ k → F k := fun k hk => h.fresh k (Nat.le_trans h.keep.size hk)
theorem WS.next (h : WS F w0 w b s) (ha : Are F w' b s') (hk : Keep F w w') : WS F w0 w' b s' := ⟨ha, h.keep.trans hk, h.fresh⟩
theorem WS.below (h : WS F w0 w b s) (hB : Below w.heap.size w w') : WS F w0 w' b s := h.next (h.are.below hB) (Keep.of_below hB (fun k h1 h2 => by omega))
theorem WS.alloc (h : WS F w0 w b s) (o : Obj) : WS F w0 (w.alloc o) b s := h.next (h.are.alloc o) ((Keep.refl F w).alloc o)
theorem WS.drew (h : WS F w0 w b s) : WS F w0 w.drew b s := h.next h.are.drew ((Keep.refl F w).drew)
theorem WS.start (h : Are F w b s) (hF : ∀ k, w.heap.size ≤ k → F k) : WS F w w b s := ⟨h, Keep.refl F w, hF⟩

theorem in_yes {j : Int} (h : inSt s j = true) : 0 ≤ j ∧ j.toNat < s.cs.length ∧ ((j.toNat : Nat) : Int) = j := by
  simp [inSt] at h; omega
theorem in_no {j : Int} (h : ¬ inSt s j = true) : j < 0 ∨ (s.cs.length : Int) ≤ j := by
  simp [inSt] at h; omega

theorem Load_do (j : Int) (h : WS F w0 w b s) (hh : s.hist.length < 1000000000) :
    Calls Tryd.prog 32 #[.pointer (some ⟨b, 0, none⟩), .int .i64 j] w fun e w' => e = .returned (.tuple #[.int .u64 (doSt s 1 j 0 0).2.1.old, .int .i64 (doSt s 1 j 0 0).2.2]) ∧ WS F w0 w' b (doSt s 1 j 0 0).1 := by
  unfold doSt
  by_cases hj : inSt s j = true
  · rw [if_pos hj]
    obtain ⟨h0, h1, h2⟩ := in_yes hj
    have := (Load_ok j.toNat w h.are h.hF hh h1).mono (R' := fun e w' => e = .returned (.tuple #[.int .u64 (s.at_ j.toNat), .int .i64 0]) ∧ WS F w0 w' b _) (fun _ _ ⟨he, ha, hk⟩ => ⟨he, h.next ha hk⟩)
    rw [h2] at this
    exact this
  · rw [if_neg hj]
    exact (Load_range j w h.are (in_no hj)).mono (fun _ _ ⟨he, hB⟩ => ⟨he, h.below hB⟩)

theorem Store_do (j x : Int) (h : WS F w0 w b s) (hh : s.hist.length < 1000000000) :
    Calls Tryd.prog 29 #[.pointer (some ⟨b, 0, none⟩), .int .i64 j, .int .u64 x] w fun e w' => e = .returned (.int .i64 (doSt s 2 j x 0).2.2) ∧ WS F w0 w' b (doSt s 2 j x 0).1 := by
  unfold doSt
  by_cases hj : inSt s j = true
  · rw [if_pos hj]
    obtain ⟨h0, h1, h2⟩ := in_yes hj
    have := (Store_ok j.toNat x w h.are h.hF hh h1).mono (R' := fun e w' => e = .returned (.int .i64 0) ∧ WS F w0 w' b _) (fun _ _ ⟨he, ha, hk⟩ => ⟨he, h.next ha hk⟩)
    rw [h2] at this
    exact this
  · rw [if_neg hj]
    exact (Store_range j x w h.are (in_no hj)).mono (fun _ _ ⟨he, hB⟩ => ⟨he, h.below hB⟩)

theorem Swap_do (j x y : Int) (h : WS F w0 w b s) (hh : s.hist.length < 1000000000) :
    Calls Tryd.prog 51 #[.pointer (some ⟨b, 0, none⟩), .int .i64 j, .int .u64 x, .int .u64 y] w fun e w' => e = .returned (.tuple #[.int .u64 (doSt s 3 j x y).2.1.old, .bool (doSt s 3 j x y).2.1.did, .int .i64 (doSt s 3 j x y).2.2]) ∧ WS F w0 w' b (doSt s 3 j x y).1 := by
  unfold doSt
  by_cases hj : inSt s j = true
  · rw [if_pos hj]
    obtain ⟨h0, h1, h2⟩ := in_yes hj
    show Calls _ _ _ _ fun e w' => e = .returned (.tuple #[.int .u64 (s.at_ j.toNat), .bool (s.at_ j.toNat == x), .int .i64 0]) ∧ WS F w0 w' b (s.step j.toNat ⟨3, j, s.at_ j.toNat, if (s.at_ j.toNat == x) = true then y else s.at_ j.toNat, s.at_ j.toNat == x⟩)
    cases hc : (s.at_ j.toNat == x)
    · have := (Swap_no j.toNat x y w h.are h.hF hh h1 hc).mono (R' := fun e w' => e = .returned (.tuple #[.int .u64 (s.at_ j.toNat), .bool false, .int .i64 0]) ∧ WS F w0 w' b _) (fun _ _ ⟨he, ha, hk⟩ => ⟨he, h.next ha hk⟩)
      rw [h2] at this
      exact this
    · have := (Swap_yes j.toNat x y w h.are h.hF hh h1 hc).mono (R' := fun e w' => e = .returned (.tuple #[.int .u64 (s.at_ j.toNat), .bool true, .int .i64 0]) ∧ WS F w0 w' b _) (fun _ _ ⟨he, ha, hk⟩ => ⟨he, h.next ha hk⟩)
      rw [h2] at this
      exact this
  · rw [if_neg hj]
    exact (Swap_range j x y w h.are (in_no hj)).mono (fun _ _ ⟨he, hB⟩ => ⟨he, h.below hB⟩)

theorem Alloc_do (n : Int) (h : WS F w0 w b s) :
    Calls Tryd.prog 33 #[.pointer (some ⟨b, 0, none⟩), .int .i64 n] w fun e w' => e = .returned (.tuple #[.int .i64 (allocSt s n).2.1, .int .i64 (allocSt s n).2.2]) ∧ WS F w0 w' b (allocSt s n).1 := by
  unfold allocSt
  by_cases h1 : n < 0
  · rw [if_pos h1]
    exact (Alloc_neg n w h.are h1).mono (fun _ _ ⟨he, hw⟩ => ⟨he, hw ▸ h⟩)
  · rw [if_neg h1]
    by_cases h2 : (s.most : Int) < (s.cs.length : Int) + n
    · rw [if_pos h2]
      exact (Alloc_full n w h.are (by omega) h2).mono (fun _ _ ⟨he, hB⟩ => ⟨he, h.below hB⟩)
    · rw [if_neg h2]
      have hn : ((n.toNat : Nat) : Int) = n := by omega
      have := (Alloc_ok n.toNat w h.are h.hF (by omega)).mono (R' := fun e w' => e = .returned (.tuple #[.int .i64 s.cs.length, .int .i64 0]) ∧ WS F w0 w' b _) (fun _ _ ⟨he, ha, hk⟩ => ⟨he, h.next ha hk⟩)
      rw [hn] at this
      exact this

theorem New_do (m : Nat) (w : World) (h1 : 1 ≤ m) (h2 : m ≤ 65536) :
    Calls Tryd.prog 8 #[.int .i64 m] w fun e w' => ∃ b, e = .returned (.tuple #[.pointer (some ⟨b, 0, none⟩), .int .i64 0]) ∧ WS (fun k => w.heap.size ≤ k) w w' b ⟨m, [], []⟩ :=
  (New_ok m w h1 h2).mono fun _ _ ⟨b, he, ha, hB⟩ => ⟨b, he, ha, Keep.of_below hB (fun _ hk _ => hk), fun _ hk => hk⟩
theorem WS.toBelow (h : WS (fun k => w0.heap.size ≤ k) w0 w b s) : Below w0.heap.size w0 w := h.keep.below (fun _ hk => hk) (Nat.le_refl _)
end
end Go.Proofs.YthiaaapcbiameaaDoor
