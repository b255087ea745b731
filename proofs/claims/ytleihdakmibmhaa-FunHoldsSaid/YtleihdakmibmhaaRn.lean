/- A range over an iterator that keeps cells of its own and yields a known list, each element as one of several values; no round panics. No program is named here. -/
import Derived.Test.YtleihdakmibmhaaRs
namespace Go.Proofs.Ytleihdakmibmhaa
open Go.RowKit

/-- As SeqsP, where no round panics. -/
def SeqsN {α : Type} (P : Program) (g : Nat) (lb : Array Value) (encs : World → Nat → α → Array Value → Prop) (xs : List α) (Snap : List α → World → Prop) : Prop :=
  ∀ (n l : Nat) (J Jx : List α → World → Prop) (Jp : List PanicEntry → World → Prop) (W : World), (∀ ch W1, ¬ Jp ch W1) → OwnB W.heap.size J → OwnB W.heap.size Jx → (∀ pre W1, J pre W1 → Snap pre W1) →
    (∀ pre x rest W1 xa, xs = pre ++ x :: rest → J pre W1 → encs W1 pre.length x xa → YieldAt Fence.wide (n - 1) P l xa W1 fun e W' =>
      (e = .returned (.bool true) ∧ J (pre ++ [x]) W' ∧ Since W.heap.size W1 W') ∨ (e = .returned (.bool false) ∧ Jx (pre ++ [x]) W' ∧ Since W.heap.size W1 W') ∨ ∃ ch, e = .panicked ch ∧ Jp ch W') →
    J [] W →
    CallsIn Fence.wide n P g (#[.func (.yield l) #[] #[]] ++ lb) W fun e W' => ((∃ v, e = .returned v) ∧ (J xs W' ∨ ∃ pre, pre <+: xs ∧ Jx pre W')) ∨ ∃ ch, e = .panicked ch ∧ Jp ch W'

section
variable {P : Program} {n : Nat}
/-- The statement 'for .. := range seq': the loop's variables may be boxed by the assign code. -/
theorem wp_rangeN {α : Type} {g : Operand} {ps : Array Tmp} {assign body : Code} {Q : Exit → Act → World → Prop} {a : Act} {w : World} (n : Nat)
    {gf : Nat} {lb : Array Value} (hg : a.eval g = .func (.func gf) #[] lb) (eg : ∀ args w, (callFunc gf args).run P w = .ok (.enter gf args) w)
    {encs : World → Nat → α → Array Value → Prop} {xs : List α} {Snap : List α → World → Prop} (hseq : SeqsN P gf lb encs xs Snap) (hps : ∀ W i x xa, encs W i x xa → xa.size = ps.size)
    (I : List α → World → Prop) (Ix : Code → List α → World → Prop) (Ip : List PanicEntry → World → Prop) (hIp : ∀ ch W, ¬ Ip ch W) (hI0 : OwnB w.heap.size I) (hIx0 : ∀ c, OwnB w.heap.size (Ix c)) (hS : ∀ pre W, I pre W → Snap pre W) (h0 : I [] w)
    (hround : ∀ (l : Nat) (pre : List α) (x : α) (rest : List α) (W : World) (xa : Array Value), w.heap.size ≤ W.heap.size → xs = pre ++ x :: rest → I pre W → encs W pre.length x xa →
      assign.wpIn (Fence.wide.inRound l) n P (Exit.then (roundBody P n l w.heap.size body I Ix pre x W) (fun _ _ _ => False)) { tmps := (ps.zip xa).foldl (fun t (p, v) => t.setIfInBounds p v) a.tmps, defers := [] } W ∨
      assign.wpIn (Fence.wide.inRound l) n P (fun e a' W' => e = .normal ∧ fallBody P n l w.heap.size body I Ip pre W a' W') { tmps := (ps.zip xa).foldl (fun t (p, v) => t.setIfInBounds p v) a.tmps, defers := [] } W)
    (hdone : ∀ (D : Nat) (W : World), w.heap.size ≤ D → I xs W → W.heap[D]? = some (.deferred (some [])) → Q .normal { a with defers := { target := .collected D, args := #[] } :: a.defers } W)
    (hpanic : ∀ (D : Nat) (ch : List PanicEntry) (W : World), w.heap.size ≤ D → Ip ch W → W.heap[D]? = some (.deferred (some [])) → Q (.panic ch) { a with defers := { target := .collected D, args := #[] } :: a.defers } W)
    (hstop : ∀ (D : Nat) (c : Code) (pre : List α) (W : World), w.heap.size ≤ D → pre <+: xs → Ix c pre W → W.heap[D]? = some (.deferred (some [])) → c.wp P Q { a with defers := { target := .collected D, args := #[] } :: a.defers } W) :
    (Code.rangeFunc g ps assign body).wp P Q a w := by
  have hI := hI0.from
  have hIx := fun c => (hIx0 c).from
  refine wpIn_wide.1 (wpIn_rangeFunc (n := n + 1 + 1) ?_)
  intro fn hfn
  obtain ⟨rec, hrec⟩ : ∃ rec : LoopState → Option Code → Loop, rec = fun st pe => { state := st, pending := pe, fn, tmps := a.tmps, params := ps, assign, body, defers := w.heap.size } := ⟨_, rfl⟩
  obtain ⟨W1, hW1⟩ : ∃ W1, (w.alloc (.deferred (some []))).alloc (.loop (rec .ready none)) = W1 := ⟨_, rfl⟩
  have hL1 : W1.heap[w.heap.size + 1]? = some (.loop (rec .ready none)) := by
    rw [← hW1]; have := World.alloc_heap_new (w.alloc (.deferred (some []))) (.loop (rec .ready none)); rwa [World.size_alloc] at this
  have hD1 : W1.heap[w.heap.size]? = some (.deferred (some [])) := by
    rw [← hW1]; exact (Below.heap_alloc _ _ _ (by simp)).trans (World.alloc_heap_new w _)
  have hI1 : I [] W1 := by rw [← hW1]; exact hI.alloc _ (hI.alloc _ h0)
  have hsz : w.heap.size ≤ W1.heap.size := by rw [← hW1]; simp; omega
  have hsz2 : w.heap.size + 1 < W1.heap.size := (Array.getElem?_eq_some_iff.1 hL1).1
  -- what lies in the two blocks of book-keeping abides a turn of blocks from W1's size on
  have own : ∀ {A B : World} {row : Option Nat} {k : Nat} {o : Obj}, A.grownBy B row → (∀ r, row = some r → W1.heap.size ≤ r ∧ ∃ o : Obj, A.heap[r]? = some o ∧ o.isCells = false) → k < W1.heap.size → A.heap[k]? = some o → B.heap[k]? = some o :=
    fun hg' hr hk hA => (hg'.block _ (Array.getElem?_eq_some_iff.1 hA).1 (fun e => by have := (hr _ e.symm).1; omega)).trans hA
  have wide : ∀ {A : World} {row : Option Nat}, (∀ r, row = some r → W1.heap.size ≤ r ∧ ∃ o : Obj, A.heap[r]? = some o ∧ o.isCells = false) → (∀ r, row = some r → w.heap.size ≤ r ∧ ∃ o : Obj, A.heap[r]? = some o ∧ o.isCells = false) :=
    fun hr r e => ⟨Nat.le_trans hsz (hr r e).1, (hr r e).2⟩
  refine ⟨w.heap.size + 1, [{ target := .collected w.heap.size, args := #[] }], W1, { target := .fn (.func gf) lb, args := #[.func (.yield (w.heap.size + 1)) #[] #[]] }, W1, gf,
    #[.func (.yield (w.heap.size + 1)) #[] #[]] ++ lb, W1, ?_, ?_, fun _ _ => trivial, ?_, (fun _ => by omega), ?_⟩
  · rw [← hW1, hrec]; exact run_enterLoop_outer _ _ _ _ _
  · simp only [resolve, hg]
    simp [go_sem]
  · simp [invoke, go_sem, eg]
  · refine (hseq (n + 1 + 1 - 1) (w.heap.size + 1)
      (fun pre W => I pre W ∧ W.heap[w.heap.size + 1]? = some (.loop (rec .ready none)) ∧ W.heap[w.heap.size]? = some (.deferred (some [])))
      (fun pre W => ∃ c, Ix c pre W ∧ W.heap[w.heap.size + 1]? = some (.loop (rec .done (some c))) ∧ W.heap[w.heap.size]? = some (.deferred (some [])))
      (fun ch W => Ip ch W ∧ W.heap[w.heap.size]? = some (.deferred (some [])))
      W1
      (fun ch W h => hIp ch W h.1)
      (fun s A B hs hb => ⟨hI0.mono hsz s A B hs.1 hb, (hb.block _ (Array.getElem?_eq_some_iff.1 hs.2.1).1 (by omega)).trans hs.2.1, (hb.block _ (Array.getElem?_eq_some_iff.1 hs.2.2).1 (by omega)).trans hs.2.2⟩)
      (fun s A B hs hb => by
        obtain ⟨c, hc, hl, hk⟩ := hs
        exact ⟨c, (hIx0 c).mono hsz s A B hc hb, (hb.block _ (Array.getElem?_eq_some_iff.1 hl).1 (by omega)).trans hl, (hb.block _ (Array.getElem?_eq_some_iff.1 hk).1 (by omega)).trans hk⟩)
      (fun pre W h => hS pre W h.1) ?_ ⟨hI1, hL1, hD1⟩).mono ?_
    · rintro pre x rest W xa hx ⟨hi, hl, hk⟩ hxa
      have hlt : w.heap.size + 1 < W.heap.size := (Array.getElem?_eq_some_iff.1 hl).1
      have hy := run_yield (P := P) (args := xa) hl (by rw [hrec]; exact hps _ _ x xa hxa)
      rw [hrec] at hy
      rcases hround _ pre x rest W xa (by omega) hx hi hxa with hgood | hbad
      rotate_left
      · refine ⟨fn, _, assign, body, hy, (roundIn_of_falls hfn (wpIn_mono hbad ?_) (R := fun ch W3 => Ip ch W3 ∧ W3.heap[w.heap.size]? = some (.deferred (some [])))).mono fun e W' h => .inr (.inr h)⟩
        rintro e0 a' Wa ⟨rfl, hka, hia, hb⟩
        have hla := hka.at_ (by omega) hl
        have hda := hka.at_ (Nat.le_refl _) hk
        have hlta : w.heap.size + 1 < Wa.heap.size := (Array.getElem?_eq_some_iff.1 hla).1
        refine ⟨rfl, _, run_beginRound hla (by rw [hrec]), falls_mono (hb _ ⟨_, _, _, hla, rfl, rfl⟩ (hI.putObj _ hia (by omega) hla rfl)) ?_⟩
        rintro ch W3 ⟨hk3, hp3⟩
        exact ⟨hp3, hk3.at_ (Nat.le_refl _) ((World.putObj_heap_other (by omega)).trans hda)⟩
      refine ⟨fn, _, assign, body, hy, roundIn_of_wpIn hfn (wpIn_mono hgood ?_)⟩
      intro e0 a' Wa h0
      cases e0 <;> try exact (h0 : False).elim
      obtain ⟨hka, hia, hb⟩ := h0
      have hla := hka.at_ (by omega) hl
      have hda := hka.at_ (Nat.le_refl _) hk
      have hlta : w.heap.size + 1 < Wa.heap.size := (Array.getElem?_eq_some_iff.1 hla).1
      refine ⟨_, run_beginRound hla (by rw [hrec]), ?_⟩
      have hl2 : (Wa.putObj (w.heap.size + 1) (.loop { rec .ready none with state := .busy })).heap[w.heap.size + 1]? = some (.loop { rec .ready none with state := .busy }) := World.putObj_heap_same hlta
      have hd2 : (Wa.putObj (w.heap.size + 1) (.loop { rec .ready none with state := .busy })).heap[w.heap.size]? = some (.deferred (some [])) := (World.putObj_heap_other (by omega)).trans hda
      refine wpIn_mono (hb _ ⟨_, _, _, hla, rfl, rfl⟩ (hI.putObj _ hia (by omega) hla rfl)) ?_
      have fin : ∀ (jump : Option Code) (W3 : World), Since w.heap.size (Wa.putObj (w.heap.size + 1) (.loop { rec .ready none with state := .busy })) W3 →
          (Instr.endRound (w.heap.size + 1) jump).run P W3 = .ok (.bool jump.isNone) (W3.putObj (w.heap.size + 1) (.loop (rec (if jump.isNone then .ready else .done) jump))) ∧
          W3.heap[w.heap.size + 1]? = some (.loop { rec .ready none with state := .busy }) ∧
          (W3.putObj (w.heap.size + 1) (.loop (rec (if jump.isNone then .ready else .done) jump))).heap[w.heap.size + 1]? = some (.loop (rec (if jump.isNone then .ready else .done) jump)) ∧
          (W3.putObj (w.heap.size + 1) (.loop (rec (if jump.isNone then .ready else .done) jump))).heap[w.heap.size]? = some (.deferred (some [])) := fun jump W3 hk3 => by
        have hl3 := hk3.at_ (by omega) hl2
        have hrun := run_endRound (P := P) jump hl3
        rw [hrec] at hrun ⊢
        exact ⟨hrun, by rw [hrec] at hl3; exact hl3, World.putObj_heap_same (Array.getElem?_eq_some_iff.1 hl3).1, (World.putObj_heap_other (by omega)).trans (hk3.at_ (Nat.le_refl _) hd2)⟩
      have hwa : Since W1.heap.size W (Wa.putObj (w.heap.size + 1) (.loop { rec .ready none with state := .busy })) := (hka.mono hsz).putObj hsz2 _
      rintro e a3 W3 hp
      cases e with
      | normal =>
        obtain ⟨hk3, hi3⟩ := hp
        obtain ⟨hr, hl3, hl4, hd4⟩ := fin none W3 hk3
        exact ⟨_, _, hr, .inl ⟨rfl, ⟨hI.putObj _ hi3 (by omega) hl3 rfl, hl4, hd4⟩, (hwa.trans (hk3.mono hsz)).putObj hsz2 _⟩⟩
      | ret =>
        obtain ⟨hk3, hi3⟩ := hp
        obtain ⟨hr, hl3, hl4, hd4⟩ := fin (some .ret) W3 hk3
        exact ⟨_, _, hr, .inr (.inl ⟨rfl, ⟨.ret, (hIx _).putObj _ hi3 (by omega) hl3 rfl, hl4, hd4⟩, (hwa.trans (hk3.mono hsz)).putObj hsz2 _⟩)⟩
      | exit id =>
        obtain ⟨hk3, hi3⟩ := hp
        obtain ⟨hr, hl3, hl4, hd4⟩ := fin (some (.exit id)) W3 hk3
        exact ⟨_, _, hr, .inr (.inl ⟨rfl, ⟨.exit id, (hIx _).putObj _ hi3 (by omega) hl3 rfl, hl4, hd4⟩, (hwa.trans (hk3.mono hsz)).putObj hsz2 _⟩)⟩
      | goto t =>
        obtain ⟨hk3, hi3⟩ := hp
        obtain ⟨hr, hl3, hl4, hd4⟩ := fin (some (.goto t)) W3 hk3
        exact ⟨_, _, hr, .inr (.inl ⟨rfl, ⟨.goto t, (hIx _).putObj _ hi3 (by omega) hl3 rfl, hl4, hd4⟩, (hwa.trans (hk3.mono hsz)).putObj hsz2 _⟩)⟩
      | panic ch => exact hp.elim
      | outgrown => exact hp.elim
    · rintro e W2 (⟨⟨v, rfl⟩, (⟨hi, hl, hk⟩ | ⟨pre, hpre, c, hi, hl, hk⟩)⟩ | ⟨ch, rfl, hi, hk⟩)
      · exact ⟨none, _, by have := run_endLoop (P := P) hl (by rw [hrec]; simp); rw [hrec] at this; exact this, hdone _ _ (Nat.le_refl _) (hI.putObj _ hi (by omega) hl rfl) ((World.putObj_heap_other (by omega)).trans hk)⟩
      · exact ⟨some c, _, by have := run_endLoop (P := P) hl (by rw [hrec]; simp); rw [hrec] at this; exact this, wpIn_wide.2 (hstop _ c pre _ (Nat.le_refl _) hpre ((hIx c).putObj _ hi (by omega) hl rfl) ((World.putObj_heap_other (by omega)).trans hk))⟩
      · exact hpanic _ ch _ (Nat.le_refl _) hi hk
end
end Go.Proofs.Ytleihdakmibmhaa
