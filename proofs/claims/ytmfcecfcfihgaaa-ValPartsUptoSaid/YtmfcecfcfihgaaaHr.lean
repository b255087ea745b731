/- A region that draws its order, in a round of a range over a function: the plain walk under a condition S that is held ('wpAnyH') serves the round. -/
import Derived.Test.YtmfcecfcfihgaaaG
import Derived.OrdersHeld
import Derived.Deep.RegionHeld3
import Derived.RangeFuncCalls
import Derived.OrdersIn
import Derived.TacticsIn
namespace Go.Proofs.Ytmfcecfcfihgaaa
open Go.RowKit

/-- No 'defer', no row of the library. -/
def plainOp (o : Oper) : Bool := match o.op with
  | .defer _ => false
  | _ => true
/-- Only the ordinary way out. -/
def OnlyN (R : Act → World → Prop) : Exit → Act → World → Prop
  | .normal, a, w => R a w
  | _, _, _ => False
theorem rowsIn_wide' {n l : Nat} {P : Program} {row : String} {args : Array Value} {w : World} {R : Value → World → Prop} (h : Rows P row args w R) : RowsIn (Fence.wide.inRound l) n P row args w R :=
  fun c cs _ => let ⟨v, w', r, s⟩ := h c cs; ⟨v, w', r, stepsIn_wide.2 s⟩
theorem wpOpIn_round_of {P : Program} {ops : Array Oper} {R : Act → World → Prop} {i l n : Nat} {a : Act} {K K' : Act → World → Prop} {Q' : Exit → Act → World → Prop} {w : World}
    (hd : ∀ (j : Nat) o, ops[j]? = some o → ∀ c, o.op ≠ .defer c)
    (h : ∀ a w', K a w' → K' a w') (hh : wpOp P ops (OnlyN R) i K a w) : wpOpIn (Fence.wide.inRound l) n P ops Q' i K' a w := by

  unfold wpOp at hh
  unfold wpOpIn
  split
  · rename_i ho; simp only [ho] at hh; exact h _ _ hh
  · rename_i o ho
    simp only [ho] at hh
    split
    · rename_i hw
      simp only [hw, if_true] at hh
      rcases hh with hh | ⟨_, a1, w1, hl⟩
      · unfold Oper.wp at hh
        unfold Oper.wpIn
        refine ⟨fun _ _ => trivial, ?_⟩
        rw [show (Fence.wide.inRound l).round = some l from rfl, Oper.semAt_some l a.eval o (hd i o ho)]
        generalize (execOp a.eval o).run P w = r at *
        cases r with
        | ok x w' =>
          cases x <;> simp only [Oper.upon] at hh <;> simp only [Oper.uponIn]
          case value u => exact h _ _ hh
          case skip => exact h _ _ hh
          case defer d => exact h _ _ hh
          case enter f args =>
            refine ⟨fun hi => (by cases hi), CallsIn.inRound l (callsIn_wide.2 (hh.mono fun e w'' hx => ?_))⟩
            cases e with
            | returned v => exact h _ _ hx
            | panicked c => exact hx.elim
            | outgrown => obtain ⟨_, _, hl⟩ := hx; exact hl.elim
          case row row args => exact ⟨fun hi => (by cases hi), rowsIn_wide' (hh.mono fun v w'' hx => h _ _ hx)⟩
        | halt x w' =>
          cases x <;> simp only [Oper.upon] at hh
          exact hh.elim
      · exact hl.elim
    · rename_i hw; simp only [hw] at hh; exact ⟨fun _ _ => trivial, h _ _ hh⟩

theorem wpAnyIn_round_of_held {P : Program} {ops : Array Oper} {md : Region.Mode} {R : Act → World → Prop} {S : World → Prop} {l n : Nat} {Q' : Exit → Act → World → Prop}
    (hd : ∀ (j : Nat) o, ops[j]? = some o → ∀ c, o.op ≠ .defer c) (hQ : ∀ a w, R a w → Q' .normal a w) : ∀ (fuel : Nat) (listed : Array Bool) (a : Act) (w : World),
    wpAnyH P md ops (OnlyN R) S fuel listed a w → wpAnyIn (Fence.wide.inRound l) n P md ops Q' fuel listed a w
  | 0, _, _, _, h => ⟨h.1, hQ _ _ h.2⟩
  | fuel + 1, _, _, _, h => ⟨fun h0 => hQ _ _ (h.1 h0), fun i hi => wpOpIn_round_of hd (fun a' w' hw' => wpAnyIn_round_of_held hd hQ fuel _ a' w' hw'.2) (h.2 i hi)⟩

/-- **A region that draws, in a round, under a condition that is held.** -/
theorem wpIn_region_held {P : Program} {id l n : Nat} {Q : Exit → Act → World → Prop} {a : Act} {w : World} {os : List Oper} {S : World → Prop} (hm : P.follows .mixedOrders = true)
    (hd : os.all plainOp = true) (hS : S w.drew)
    (h : S w.drew → wpAnyH P .any os.toArray (OnlyN (Q .normal)) S os.toArray.size (Array.replicate os.toArray.size false) a w.drew) : (Code.region id os.toArray true).wpIn (Fence.wide.inRound l) n P Q a w := by
  have hd' : ∀ (j : Nat) o, os.toArray[j]? = some o → ∀ c, o.op ≠ .defer c := fun j o ho c hc => by
    have hm : o ∈ os := by
      rw [List.getElem?_toArray] at ho
      exact List.mem_of_getElem? ho
    have := List.all_eq_true.1 hd o hm
    unfold plainOp at this
    rw [hc] at this
    cases this
  exact wpIn_region_any hm (wpAnyIn_round_of_held hd' (fun _ _ h => h) _ _ _ _ (h hS))
end Go.Proofs.Ytmfcecfcfihgaaa
