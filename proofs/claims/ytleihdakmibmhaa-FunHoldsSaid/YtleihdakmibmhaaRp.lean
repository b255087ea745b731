/- A range over an iterator whose round may panic: what falls, the round's contract, the law of the statement. No program is named here. -/
import Derived.Test.YtleihdakmibmhaaS
namespace Go.Proofs.Ytleihdakmibmhaa
open Go.RowKit

/-- What a frame does next is no call of its own making. -/
def NoCall : List Item → Prop
  | .call _ _ _ _ :: _ => False
  | _ => True

/-- The code panics. -/
def Falls (F : Fence) (n : Nat) (P : Program) (c : Code) (a : Act) (w : World) (R : List PanicEntry → World → Prop) : Prop :=
  ∀ (b : Frame) (k : List Item) (cs : List Frame), b.roundOf = F.round → F.fn b.fn → F.room (cs.length + 1 + n) →
    ∃ ch a' w' todo, NoCall todo ∧ a'.defers = [] ∧ R ch w' ∧ StepsIn (Machine.fenced P F) P (lone (b.atR a (.code c :: k)) cs w) (lone { b.atR a' todo with mode := .panicking ch } cs w')

section
variable {F : Fence} {n : Nat} {P : Program} {a : Act} {w : World} {R : List PanicEntry → World → Prop}
theorem falls_mono {c : Code} {R' : List PanicEntry → World → Prop} (h : Falls F n P c a w R) (hr : ∀ ch w, R ch w → R' ch w) : Falls F n P c a w R' := by
  intro b k cs hro hb hr'
  obtain ⟨ch, a', w', todo, h1, h2, h3, h4⟩ := h b k cs hro hb hr'
  exact ⟨ch, a', w', todo, h1, h2, hr _ _ h3, h4⟩
theorem falls_block {id : Nat} {c : Code} (h : Falls F n P c a w R) : Falls F n P (.block id c) a w R := by
  intro b k cs hro hb hr
  obtain ⟨ch, a', w', todo, h1, h2, h3, h4⟩ := h b (.inBlock id :: k) cs hro hb hr
  exact ⟨ch, a', w', todo, h1, h2, h3, .head (fenced_calm hb hr rfl) stepR_block h4⟩
theorem falls_seq {x y : Code} (h : x.wpIn F n P (fun e a w => e = .normal ∧ Falls F n P y a w R) a w) : Falls F n P (.seq x y) a w R := by
  intro b k cs hro hb hr
  obtain ⟨e, a1, w1, ⟨rfl, hq⟩, harr⟩ := h b (.code y :: k) cs hro hb hr
  obtain ⟨ch, a', w', todo, h1, h2, h3, h4⟩ := hq b k cs hro hb hr
  exact ⟨ch, a', w', todo, h1, h2, h3, .head (fenced_calm hb hr rfl) stepR_seq (StepsIn.trans harr h4)⟩
theorem falls_cond {c : Operand} {x y : Code} {t : Bool} (hc : a.eval c = .bool t) (h : Falls F n P (if t then x else y) a w R) : Falls F n P (.cond c x y) a w R := by
  intro b k cs hro hb hr
  obtain ⟨ch, a', w', todo, h1, h2, h3, h4⟩ := h b k cs hro hb hr
  exact ⟨ch, a', w', todo, h1, h2, h3, .head (fenced_calm hb hr rfl) (stepR_cond hc) h4⟩
/-- A region of two operations: the first makes a value, the second panics with it. -/
theorem falls_region {id : Nat} {o1 o2 : Oper} (hd : a.defers = []) (v u : Value) (h1 : ∀ ro, (o1.semAt ro a.eval).run P w = .ok (.value v) w) (g1 : o1.guard = none) (g2 : o2.guard = none)
    (ab1 : ∀ ρ f, o1.about P w ρ = some f → F.fn f) (ab2 : ∀ ρ f, o2.about P w ρ = some f → F.fn f)
    (h2 : ∀ ro, (o2.semAt ro (a.put o1.dst v).eval).run P w = .halt (.panic u) w) (hR : R [{ v := u, recovered := false }] w) : Falls F n P (.region id #[o1, o2] false) a w R := by
  intro b k cs hro hb hr
  refine ⟨_, a.put o1.dst v, w, .inRegion #[o1, o2] [1] :: k, trivial, ?_, hR, ?_⟩
  · cases hq : o1.dst <;> simp [Act.put, hd]
  · have e0 : (#[o1, o2] : Array Oper)[0]? = some o1 := rfl
    have e1 : (#[o1, o2] : Array Oper)[1]? = some o2 := rfl
    have w1 : ∀ (a : Act), Region.wanted o1 (yielded #[o1, o2] a.tmps) = true := fun a => by simp [Region.wanted, g1]
    have w2 : ∀ (a : Act), Region.wanted o2 (yielded #[o1, o2] a.tmps) = true := fun a => by simp [Region.wanted, g2]
    refine .head (fenced_calm hb hr rfl) stepR_region ?_
    have hg1 := stepGR_op (P := P) (b := b) (k := k) (cs := cs) (w := w) (rest := [1]) e0 (w1 a)
    have hfin : (b.atR a (.inRegion #[o1, o2] [0, 1] :: k)).finish v = b.atR (a.put o1.dst v) (.inRegion #[o1, o2] [1] :: k) := by
      rw [Frame.finish_atR, e0]; rfl
    refine .head (fenced_oper hb hr e0 (ab1 _)) (m₁ := lone (b.atR (a.put o1.dst v) (.inRegion #[o1, o2] [1] :: k)) cs w) (step_lone_go ?_) ?_
    · change (stepG P true { frame := b.atR a (.inRegion #[o1, o2] [0, 1] :: k), callers := cs, status := .running, dying := none } w).bare = _
      rw [hg1, ← hfin]; simp [stepG.apply, h1]
    · have hg2 := stepGR_op (P := P) (b := b) (k := k) (cs := cs) (w := w) (rest := []) e1 (w2 (a.put o1.dst v))
      refine .one (fenced_oper hb hr e1 (ab2 _)) (step_lone_go ?_)
      rw [hg2, ← Frame.raise_atR]; simp [stepG.apply, h2]

/-- A round that panics. -/
theorem roundIn_of_falls {l : Nat} {f : FuncId} {tmps : Array Value} {assign body : Code} (hF : F.fn f)
    (h : assign.wpIn (F.inRound l) n P (fun e a1 w1 => e = .normal ∧ ∃ w2, (Instr.beginRound l).run P w1 = .ok () w2 ∧ Falls (F.inRound l) n P body a1 w2 R) { tmps := tmps, defers := [] } w) :
    RoundIn F n P l f tmps assign body w (fun e w' => ∃ ch, e = .panicked ch ∧ R ch w') := by
  refine ⟨hF, fun c cs hr => ?_⟩
  let b : Frame := { (default : Frame) with fn := f, kind := .normal, roundOf := some l }
  have hb0 : Frame.round l f tmps assign body .normal = b.atR { tmps := tmps, defers := [] } [.code assign, .beginRound, .code body] := by
    simp [Frame.round, Frame.atR, b]
  have hr' : (F.inRound l).room ((c :: cs).length + 1 + n) := hr
  obtain ⟨e, a1, w1, ⟨rfl, w2, hbr, hbody⟩, harr⟩ := h b [.beginRound, .code body] (c :: cs) rfl hF hr'
  obtain ⟨ch, a', w', todo, hn, hd, hR, hs⟩ := hbody b [] (c :: cs) rfl hF hr'
  rw [← hb0] at harr
  have s1 : StepsIn (Machine.fenced P (F.inRound l)) P (lone (b.atR a1 [.beginRound, .code body]) (c :: cs) w1) (lone (b.atR a1 [.code body]) (c :: cs) w2) :=
    .one (fenced_calm (fr := b.atR a1 [.beginRound, .code body]) hF hr' rfl) (stepR_beginRound rfl hbr)
  have s2 : StepsIn (Machine.fenced P (F.inRound l)) P (lone { b.atR a' todo with mode := .panicking ch } (c :: cs) w') (lone (c.raise ch) cs w') := by
    refine .one (fenced_calm (fr := { b.atR a' todo with mode := .panicking ch }) hF hr' ?_) (step_lone_go ?_)
    · simp [Frame.about, Frame.atR, hd]
    · have hcat : ∀ fr : Frame, fr.todo = todo → fr.catches P = false := fun fr ht => by
        unfold Frame.catches
        split
        · rename_i h1 h2
          rw [ht] at h2
          rw [h2] at hn
          exact hn.elim
        · rfl
      simp [stepG, unwind, Frame.atR, hd]
      rw [hcat _ rfl]
      simp
  exact ⟨.panicked ch, w', ⟨ch, rfl, hR⟩, StepsIn.trans harr (StepsIn.trans s1 (StepsIn.trans hs s2))⟩
end
end Go.Proofs.Ytleihdakmibmhaa
