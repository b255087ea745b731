/- The plain side of the stage's theorem: what a list of acts does to an arena, and why its log is a chain. -/
import Derived.Test.YtbojbhjaeekjpaaW
namespace Go.Proofs.Ytbojbhjaeekjpaa
open Go.RowKit

structure ActD where
  what : Int
  at_ : Int
  x : Int
  y : Int

def hasOf (m : Nat) (h : List Acc) : List Int := h.foldl (fun c x => c.set x.at_.toNat x.new) (List.replicate m 0)
theorem hasOf_snoc (m : Nat) (h : List Acc) (x : Acc) : hasOf m (h ++ [x]) = (hasOf m h).set x.at_.toNat x.new := by simp [hasOf, List.foldl_append]
theorem hasOf_length (m : Nat) (h : List Acc) : (hasOf m h).length = m := by
  induction h using list_snoc_ind with
  | h0 => simp [hasOf]
  | hs l x ih => rw [hasOf_snoc, List.length_set, ih]

structure Good (m : Nat) (s : St) (asked : List Int) : Prop where
  most : s.most = m
  len : s.cs.length = m
  alen : asked.length = s.hist.length
  cs : s.cs = hasOf m s.hist
  each : ∀ n x a, s.hist[n]? = some x → asked[n]? = some a →
    0 ≤ x.at_ ∧ x.at_ < (m : Int) ∧ x.old = (hasOf m (s.hist.take n)).getD x.at_.toNat 0 ∧ x.did = (x.op != 3 || x.old == a) ∧ (x.op = 1 ∨ x.did = false → x.new = x.old)

theorem Good.start (m : Nat) : Good m ⟨m, List.replicate m 0, []⟩ [] := ⟨rfl, by simp, rfl, rfl, fun n x a h => by simp at h⟩

theorem Good.step {m : Nat} {s : St} {asked : List Int} (h : Good m s asked) (op : Int) (j : Nat) (x y : Int) (hj : j < m) : Good m (s.step j (accOf s op j x y)) (asked ++ [x]) := by
  have hat : ((accOf s op j x y).at_).toNat = j := by simp [accOf]
  refine ⟨h.most, by simp [St.step, h.len], by simp [St.step, h.alen], ?_, ?_⟩
  · show s.cs.set j _ = hasOf m (s.hist ++ [_])
    rw [hasOf_snoc, ← h.cs, hat]
  · intro n z a hz ha
    show _ ∧ _ ∧ z.old = (hasOf m ((s.hist ++ [accOf s op j x y]).take n)).getD z.at_.toNat 0 ∧ _
    have hz' : (s.hist ++ [accOf s op j x y])[n]? = some z := hz
    by_cases hn : n < s.hist.length
    · rw [List.getElem?_append_left hn] at hz'
      rw [List.getElem?_append_left (by rw [h.alen]; exact hn)] at ha
      rw [List.take_append_of_le_length (by omega)]
      exact h.each n z a hz' ha
    · have hn2 : n = s.hist.length := by
        have := (List.getElem?_eq_some_iff.1 hz').1
        simp at this; omega
      subst hn2
      rw [List.getElem?_append_right (by omega)] at hz'
      rw [List.getElem?_append_right (by rw [h.alen]; omega)] at ha
      simp at hz'
      simp [h.alen] at ha
      subst hz'; subst ha
      rw [List.take_left' rfl, ← h.cs]
      refine ⟨by simp [accOf], by simp [accOf]; omega, by simp [accOf, St.at_], ?_, ?_⟩
      · simp only [accOf, didOf]
        by_cases h3 : op = 3
        · simp [h3]
        · have : (op != 3) = true := by simpa using h3
          simp [h3]
      · simp only [accOf, didOf, newOf]
        intro h1
        by_cases h3 : op = 3
        · subst h3
          simp at h1
          simp [h1]
        · simp [h3] at h1
          simp [h1]

theorem log_at {h : List Acc} (hl : h.length ≤ 1024) {pre rest : List (Nat × Acc)} {p : Nat × Acc} (hx : logList h = pre ++ p :: rest) :
    p.1 = pre.length ∧ h[pre.length]? = some p.2 ∧ pre.map (·.2) = h.take pre.length := by
  have e : logList h = h.zipIdx.map fun p => (p.2, p.1) := by
    unfold logList
    rw [show h.length - 1024 = 0 from by omega]; rfl
  rw [e] at hx
  have h1 : (h.zipIdx.map fun p => (p.2, p.1))[pre.length]? = some p := by rw [hx]; simp
  simp [List.getElem?_zipIdx] at h1
  have h2 : (h.zipIdx.map fun p => (p.2, p.1)).map (·.2) = h := by simp [List.map_map, Function.comp_def]
  have h3 : pre.map (·.2) = h.take pre.length := by
    have := congrArg (fun l => (l.map (·.2)).take pre.length) hx
    simp only [h2, List.map_append] at this
    rw [this, List.take_left' (by simp)]
  obtain ⟨a, ha, rfl⟩ := h1
  exact ⟨rfl, ha, h3⟩
end Go.Proofs.Ytbojbhjaeekjpaa
