/- The law's act, on an arena and the document's in the same state. -/
import Derived.Test.YtbojbhjaeekjpaaAc0
import Derived.Test.YtbojbhjaeekjpaaAc1
import Derived.Test.YtbojbhjaeekjpaaAc2
import Derived.Test.YtbojbhjaeekjpaaAc3
import Derived.Test.YtbojbhjaeekjpaaAc4
import Derived.Test.YtbojbhjaeekjpaaAc5
import Derived.Test.YtbojbhjaeekjpaaAc6
namespace Go.Proofs.Ytbojbhjaeekjpaa
open Go.RowKit

theorem act_ok {F : Nat → Prop} {w : World} {b : Nat} {s : St} {v : Value} (x : ActD) (h : Side F w b s v s) (hh : s.hist.length < 1000000000) :
    Calls Try.prog 13 #[.pointer (some ⟨b, 0, none⟩), v, x.val] w (ActPost F w v (actSt s x) (actSt s x) true) := by
  unfold actSt
  by_cases h0 : x.what = 0
  · rw [if_pos h0]; exact act_0 x h h0
  rw [if_neg h0]
  by_cases h1 : x.what = 1
  · rw [if_pos h1]; exact act_1 x h h1 hh
  rw [if_neg h1]
  by_cases h2 : x.what = 2
  · rw [if_pos h2]; exact act_2 x h h2 hh
  rw [if_neg h2]
  by_cases h3 : x.what = 3
  · rw [if_pos (.inl h3)]; exact act_3 x h h3 hh
  by_cases h4 : x.what = 4
  · rw [if_pos (.inr h4)]; exact act_4 x h h4 hh
  rw [if_neg (by rintro (e | e) <;> contradiction)]
  by_cases h5 : x.what = 5
  · rw [if_pos h5]; exact act_5 x h h5 hh
  rw [if_neg h5]
  exact act_6 x h h0 h1 h2 h3 h4 h5

theorem doSt_len (s : St) (op j x y : Int) : (doSt s op j x y).1.hist.length ≤ s.hist.length + 1 ∧ (doSt s op j x y).1.cs.length = s.cs.length ∧ (doSt s op j x y).1.most = s.most := by
  unfold doSt
  split
  · simp [St.step]
  · simp
theorem allocSt_len (s : St) (n : Int) : (allocSt s n).1.hist.length ≤ s.hist.length + 1 ∧ (allocSt s n).1.most = s.most := by
  unfold allocSt
  split
  · simp
  · split <;> simp
theorem actSt_len (s : St) (x : ActD) : (actSt s x).hist.length ≤ s.hist.length + 1 ∧ (actSt s x).most = s.most := by
  unfold actSt
  split
  · exact allocSt_len _ _
  split
  · exact ⟨(doSt_len _ _ _ _ _).1, (doSt_len _ _ _ _ _).2.2⟩
  split
  · exact ⟨(doSt_len _ _ _ _ _).1, (doSt_len _ _ _ _ _).2.2⟩
  split
  · exact ⟨(doSt_len _ _ _ _ _).1, (doSt_len _ _ _ _ _).2.2⟩
  split
  · exact ⟨(doSt_len _ _ _ _ _).1, (doSt_len _ _ _ _ _).2.2⟩
  · exact ⟨Nat.le_succ _, rfl⟩
end Go.Proofs.Ytbojbhjaeekjpaa
