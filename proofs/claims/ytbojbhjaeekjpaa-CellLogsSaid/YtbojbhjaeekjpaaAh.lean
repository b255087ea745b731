/- The law's act, on an arena and any of the document's: it changes the arena's own blocks alone. -/
import Derived.Test.YtbojbhjaeekjpaaAg0
import Derived.Test.YtbojbhjaeekjpaaAg1
import Derived.Test.YtbojbhjaeekjpaaAg2
import Derived.Test.YtbojbhjaeekjpaaAg3
import Derived.Test.YtbojbhjaeekjpaaAg4
import Derived.Test.YtbojbhjaeekjpaaAg5
import Derived.Test.YtbojbhjaeekjpaaAg6
namespace Go.Proofs.Ytbojbhjaeekjpaa
open Go.RowKit

theorem actg {F : Nat → Prop} {w : World} {b : Nat} {s r : St} {v : Value} (x : ActD) (h : Side F w b s v r) (hhs : s.hist.length < 1000000000) (hhr : r.hist.length < 1000000000) :
    Calls Try.prog 13 #[.pointer (some ⟨b, 0, none⟩), v, x.val] w fun e w' => (∃ v', e = .returned v') ∧ Keep F w w' := by
  have weak : ∀ (s' r' : St) (ok : Bool) (e : Ending) (w' : World), ActPost F w v s' r' ok e w' → (∃ v', e = .returned v') ∧ Keep F w w' := fun s' r' ok e w' ⟨b', v', F', he, _, hK, _⟩ => ⟨⟨_, he⟩, hK⟩
  by_cases h0 : x.what = 0
  · exact (actg_0 x h h0).mono fun e w' ⟨ok, hp⟩ => weak _ _ _ _ _ hp
  by_cases h1 : x.what = 1
  · exact (actg_1 x h h1 hhs hhr).mono fun e w' ⟨ok, hp⟩ => weak _ _ _ _ _ hp
  by_cases h2 : x.what = 2
  · exact (actg_2 x h h2 hhs hhr).mono fun e w' ⟨ok, hp⟩ => weak _ _ _ _ _ hp
  by_cases h3 : x.what = 3
  · exact (actg_3 x h h3 hhs hhr).mono fun e w' ⟨ok, hp⟩ => weak _ _ _ _ _ hp
  by_cases h4 : x.what = 4
  · exact (actg_4 x h h4 hhs hhr).mono fun e w' ⟨ok, hp⟩ => weak _ _ _ _ _ hp
  by_cases h5 : x.what = 5
  · exact (actg_5 x h h5 hhs hhr).mono fun e w' ⟨ok, hp⟩ => weak _ _ _ _ _ hp
  exact (actg_6 x h h0 h1 h2 h3 h4 h5).mono fun e w' hp => weak _ _ _ _ _ hp
end Go.Proofs.Ytbojbhjaeekjpaa
