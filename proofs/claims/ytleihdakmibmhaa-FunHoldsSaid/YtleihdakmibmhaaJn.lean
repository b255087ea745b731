/- Ranges over functions whose two ways out (the end, a break) meet. -/
import Derived.Test.YtleihdakmibmhaaG
import Derived.Test.YtleihdakmibmhaaR
import Derived.Test.YtleihdakmibmhaaRn
namespace Go.Proofs.Ytleihdakmibmhaa
open Go.RowKit

theorem wp_range_join {P : Program} {α : Type} {g : Operand} {ps : Array Tmp} {assign body : Code} {Q : Exit → Act → World → Prop} {a : Act} {w : World} (n k : Nat)
    {gf : Nat} {lb : Array Value} (hg : a.eval g = .func (.func gf) #[] lb) (eg : ∀ args w, (callFunc gf args).run P w = .ok (.enter gf args) w)
    {encs : α → Array Value} {xs : List α} {Snap : World → Prop} (hseq : Seqs P gf lb encs xs none Snap) (hps : ∀ x, (encs x).size = ps.size)
    (I J : List α → World → Prop) (hI : OwnFrom w.heap.size I) (hJ : OwnFrom w.heap.size J) (hS : ∀ pre W, I pre W → Snap W) (h0 : I [] w)
    (hexit : ∀ a W, Q .normal a W → Q (.exit k) a W)
    (hround : ∀ (l : Nat) (pre : List α) (x : α) (rest : List α) (W : World), w.heap.size ≤ W.heap.size → xs = pre ++ x :: rest → I pre W →
      assign.wpIn (Fence.wide.inRound l) n P (Exit.then (roundBody P n l w.heap.size body I (fun c pre W => c = .exit k ∧ J pre W) pre x W) (fun _ _ _ => False)) { tmps := (ps.zip (encs x)).foldl (fun t (p, v) => t.setIfInBounds p v) a.tmps, defers := [] } W)
    (hend : ∀ W, I xs W → J xs W)
    (hrest : ∀ (D : Nat) (pre : List α) (W : World), w.heap.size ≤ D → J pre W → W.heap[D]? = some (.deferred (some [])) → Q .normal { a with defers := { target := .collected D, args := #[] } :: a.defers } W) :
    (Code.rangeFunc g ps assign body).wp P Q a w :=
  wp_range n hg eg hseq hps I (fun c pre W => c = .exit k ∧ J pre W) hI (fun _ s X Y row hs hg hr => ⟨hs.1, hJ s X Y row hs.2 hg hr⟩) hS h0 hround
    (fun D W _ hD hi hd => hrest D _ W hD (hend W hi) hd)
    (fun _ _ _ h => by cases h)
    (fun D _ pre W hD _ hx hd => by obtain ⟨rfl, hj⟩ := hx; exact wp_exit (hexit _ _ (hrest D pre W hD hj hd)))

theorem wp_rangeN_join {P : Program} {α : Type} {g : Operand} {ps : Array Tmp} {assign body : Code} {Q : Exit → Act → World → Prop} {a : Act} {w : World} (n k : Nat)
    {gf : Nat} {lb : Array Value} (hg : a.eval g = .func (.func gf) #[] lb) (eg : ∀ args w, (callFunc gf args).run P w = .ok (.enter gf args) w)
    {encs : World → Nat → α → Array Value → Prop} {xs : List α} {Snap : List α → World → Prop} (hseq : SeqsN P gf lb encs xs Snap) (hps : ∀ W i x xa, encs W i x xa → xa.size = ps.size)
    (I J : List α → World → Prop) (hI0 : OwnB w.heap.size I) (hJ0 : OwnB w.heap.size J) (hS : ∀ pre W, I pre W → Snap pre W) (h0 : I [] w)
    (hexit : ∀ a W, Q .normal a W → Q (.exit k) a W)
    (hround : ∀ (l : Nat) (pre : List α) (x : α) (rest : List α) (W : World) (xa : Array Value), w.heap.size ≤ W.heap.size → xs = pre ++ x :: rest → I pre W → encs W pre.length x xa →
      assign.wpIn (Fence.wide.inRound l) n P (Exit.then (roundBody P n l w.heap.size body I (fun c pre W => c = .exit k ∧ J pre W) pre x W) (fun _ _ _ => False)) { tmps := (ps.zip xa).foldl (fun t (p, v) => t.setIfInBounds p v) a.tmps, defers := [] } W)
    (hend : ∀ W, I xs W → J xs W)
    (hrest : ∀ (D : Nat) (pre : List α) (W : World), w.heap.size ≤ D → J pre W → W.heap[D]? = some (.deferred (some [])) → Q .normal { a with defers := { target := .collected D, args := #[] } :: a.defers } W) :
    (Code.rangeFunc g ps assign body).wp P Q a w :=
  wp_rangeN n hg eg hseq hps I (fun c pre W => c = .exit k ∧ J pre W) (fun _ _ => False) (fun _ _ h => h) hI0 (fun _ s X Y hs hk => ⟨hs.1, hJ0 s X Y hs.2 hk⟩) hS h0
    (fun l pre x rest W xa h1 h2 h3 h4 => .inl (hround l pre x rest W xa h1 h2 h3 h4))
    (fun D W hD hi hd => hrest D _ W hD (hend W hi) hd)
    (fun _ _ _ _ h => h.elim)
    (fun D _ pre W hD _ hx hd => by obtain ⟨rfl, hj⟩ := hx; exact wp_exit (hexit _ _ (hrest D pre W hD hj hd)))
/-! ### Marks: a function's way out past the loops that it ranged over -/
structure MarksOff (Ds : List Nat) (w w' : World) : Prop where
  os : w'.os = w.os
  tape : w'.tape = w.tape
  output : w'.output = w.output
  size : w'.heap.size = w.heap.size
  block : ∀ k, k ∉ Ds → w'.heap[k]? = w.heap[k]?
theorem MarksOff.blk {Ds : List Nat} {w w' : World} (h : MarksOff Ds w w') (hd : ∀ D ∈ Ds, w.heap[D]? = some (.deferred (some []))) {g : Nat} {t : TypeId} {cs : Array Value} (hb : Blk w g t cs) : Blk w' g t cs :=
  hb.keep (h.block g fun hg => by have h1 := hd g hg; unfold Blk at hb; rw [hb] at h1; cases h1)
theorem MarksOff.below {Ds : List Nat} {w0 w w' : World} (h : MarksOff Ds w w') {n : Nat} (hb : Below n w0 w) (hd : ∀ D ∈ Ds, n ≤ D) : Below n w0 w' :=
  ⟨h.os.trans hb.os, h.tape.trans hb.tape, h.output.trans hb.output, by rw [h.size]; exact hb.size, fun k hk => (h.block k fun hm => by have := hd k hm; omega).trans (hb.block k hk)⟩
theorem leaves_marks {P : Program} {F : Fence} {n : Nat} {fn : Func} {tmps : Array Value} {R : Ending → World → Prop} :
    ∀ (Ds : List Nat) (w : World), Ds.Nodup → (∀ D ∈ Ds, w.heap[D]? = some (.deferred (some []))) →
      (∀ w', MarksOff Ds w w' → LeavesIn F n P fn tmps R [] .returning w') → LeavesInM F n P fn tmps R (Ds.map fun D => { target := .collected D, args := #[] }) .returning w
  | [], _, _, _, h => h _ ⟨rfl, rfl, rfl, rfl, fun _ _ => rfl⟩
  | D :: Ds, w, hn, hd, h => by
    rw [List.nodup_cons] at hn
    refine ⟨by simp, .inl ⟨_, _, rfl, run_takeDeferred (hd D (by simp)), leaves_marks Ds _ hn.2 (fun E hE => ?_) (fun w' hm => h w' ⟨hm.os, hm.tape, hm.output, hm.size.trans (by simp), fun k hk => ?_⟩)⟩⟩
    · exact (World.putObj_heap_other (fun e => hn.1 (by first | exact e ▸ hE | exact e.symm ▸ hE))).trans (hd E (by simp [hE]))
    · rw [List.mem_cons, not_or] at hk
      exact (hm.block k hk.2).trans (World.putObj_heap_other (by first | exact hk.1 | exact Ne.symm hk.1))
end Go.Proofs.Ytleihdakmibmhaa
