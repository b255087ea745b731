/- The law's act. -/
import Derived.Test.YtbojbhjaeekjpaaFw
import Derived.Test.YtbojbhjaeekjpaaRe
import Derived.Test.YtbojbhjaeekjpaaRd
import Derived.Test.YtbojbhjaeekjpaaSm
namespace Go.Proofs.Ytbojbhjaeekjpaa
open Go.RowKit
attribute [local go_sem] Oper.semAt_some

theorem Keep.trans' {F G : Nat → Prop} {a b c : World} (h : Keep F a b) (k : Keep G b c) (hG : ∀ i, i < b.heap.size → G i → F i ∨ a.heap.size ≤ i) : Keep F a c :=
  ⟨k.os.trans h.os, k.tape.trans h.tape, k.output.trans h.output, Nat.le_trans h.size k.size, fun i hi hF => (k.block i (Nat.lt_of_lt_of_le hi h.size) (fun hg => by rcases hG i (Nat.lt_of_lt_of_le hi h.size) hg with e | e <;> first | exact hF e | omega)).trans (h.block i hi hF)⟩

theorem Keep.three (w : World) (p : Nat) (x y z : Value) : Keep (fun k => k = p) w (((w.setCell ⟨p, 0, none⟩ x).setCell ⟨p, 1, none⟩ y).setCell ⟨p, 2, none⟩ z) :=
  (((Keep.refl (fun k => k = p) w).setCell (p := ⟨p, 0, none⟩) (.inl rfl) x).setCell (p := ⟨p, 1, none⟩) (.inl rfl) y).setCell (p := ⟨p, 2, none⟩) (.inl rfl) z
theorem size_three (w : World) (p : Nat) (x y z : Value) : (((w.setCell ⟨p, 0, none⟩ x).setCell ⟨p, 1, none⟩ y).setCell ⟨p, 2, none⟩ z).heap.size = w.heap.size := by simp [World.setCell]

theorem le_alloc {n : Nat} {w : World} (h : n ≤ w.heap.size) (o : Obj) : n ≤ (w.alloc o).heap.size := by rw [World.size_alloc]; omega
theorem RefS.alloc {w : World} {v : Value} {s : St} (h : RefS w v s) (o : Obj) : RefS (w.alloc o) v s := h.below ((Below.refl _ _).alloc (Nat.le_refl _) _)

def upF (F : Nat → Prop) (n m : Nat) (k : Nat) : Prop := (F k ∧ k < n) ∨ m ≤ k
def ActD.val (x : ActD) : Value := .agg #[.int .i64 x.what, .int .i64 x.at_, .int .u64 x.x, .int .u64 x.y]
def actSt (s : St) (x : ActD) : St :=
  if x.what = 0 then (allocSt s x.at_).1 else if x.what = 1 then (doSt s 1 x.at_ 0 0).1 else if x.what = 2 then (doSt s 2 x.at_ x.x 0).1
  else if x.what = 3 ∨ x.what = 4 then (doSt s 3 x.at_ x.x x.y).1 else if x.what = 5 then (doSt s 4 x.at_ x.x 0).1 else s

/-- An arena and the document's arena stand side by side. -/
structure Side (F : Nat → Prop) (w : World) (b : Nat) (s : St) (v : Value) (r : St) : Prop where
  are : Are F w b s
  hF : ∀ k, w.heap.size ≤ k → F k
  ref : RefS w v r
  own : ∀ k, ownR v k → ¬ F k

def ActPost (F : Nat → Prop) (w : World) (v : Value) (s r : St) (ok : Bool) (e : Ending) (w' : World) : Prop :=
  ∃ b' v' F', e = .returned (.tuple #[.pointer (some ⟨b', 0, none⟩), v', .bool ok]) ∧ Side F' w' b' s v' r ∧ Keep F w w' ∧ (∀ k, k < w.heap.size → F' k → F k) ∧ (∀ k, ownR v' k → ownR v k ∨ w.heap.size ≤ k)

theorem Side.cell {F : Nat → Prop} {w : World} {b : Nat} {s r : St} {v : Value} (h : Side F w b s v r) {wC : World} (hB : Below w.heap.size w wC) : WS (upF F w.heap.size wC.heap.size) wC wC b s :=
  WS.start ((h.are.mono (G := upF F w.heap.size wC.heap.size) (fun k hk hf => .inl ⟨hf, hk⟩)).keep (fun k hk _ => hB.block k hk)) (fun _ hk => .inr hk)

/-- The end of each case: the document's arena has been made anew (w1), the own one has been asked (w2), then only a block of the call's own has been written. -/
theorem Side.done {F : Nat → Prop} {w w1 wC w2 wE : World} {b : Nat} {s r s' r' : St} {v v' : Value} (h : Side F w b s v r) (hr : RefS wC v' r') (ho : ∀ k, ownR v' k → k < w1.heap.size ∧ (ownR v k ∨ w.heap.size ≤ k))
    (hBC : Below w.heap.size w wC) (hlt : w1.heap.size ≤ wC.heap.size) (hw : WS (upF F w.heap.size wC.heap.size) wC w2 b s') {p : Nat} (hp0 : w.heap.size ≤ p) (hp1 : p < wC.heap.size) (hpo : ¬ ownR v' p)
    (hE : Keep (fun k => k = p) w2 wE) (hsz : wE.heap.size = w2.heap.size) :
    Side (upF F w.heap.size wC.heap.size) wE b s' v' r' ∧ Keep F w wE ∧ (∀ k, k < w.heap.size → upF F w.heap.size wC.heap.size k → F k) ∧ (∀ k, ownR v' k → ownR v k ∨ w.heap.size ≤ k) := by
  have hS := hBC.size
  have hFp : ¬ upF F w.heap.size wC.heap.size p := by rintro (⟨_, h⟩ | h) <;> omega
  have hS2 := hw.keep.size
  have own : ∀ k, ownR v' k → ¬ upF F w.heap.size wC.heap.size k := fun k hk hf => by
    obtain ⟨h1, h2⟩ := ho k hk
    rcases hf with ⟨hf, hl⟩ | hf
    · rcases h2 with h2 | h2
      · exact h.own k h2 hf
      · omega
    · omega
  refine ⟨⟨hw.are.keep (fun k hk hf => hE.block k hk (fun e => hFp (e ▸ hf))), fun k hk => .inr (by omega), hr.keep (fun k hk => ?_), own⟩, ?_, ?_, fun k hk => (ho k hk).2⟩
  · have hkl := hr.lt k hk
    exact (hE.block k (by omega) (fun e => hpo (e ▸ hk))).trans (hw.keep.block k hkl (own k hk))
  · have k1 : Keep F w wC := Keep.of_below hBC (fun k h1 h2 => by omega)
    have k2 : Keep F w w2 := k1.trans' hw.keep (fun k hk hf => by
      rcases hf with ⟨hf, _⟩ | hf
      · exact .inl hf
      · exact .inr (by omega))
    exact k2.trans' hE (fun k hk e => .inr (by omega))
  · rintro k hk (⟨hf, _⟩ | hf)
    · exact hf
    · omega
end Go.Proofs.Ytbojbhjaeekjpaa
