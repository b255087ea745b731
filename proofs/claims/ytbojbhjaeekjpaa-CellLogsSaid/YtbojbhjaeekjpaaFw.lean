/- The law's few: do calls allot at most 200 cells each? -/
import Derived.Test.YtbojbhjaeekjpaaHb
namespace Go.Proofs.Ytbojbhjaeekjpaa
open Go.RowKit Go.Shelf
attribute [local go_sem] Oper.semAt_some

def bigAlloc (x : ActD) : Bool := x.what == 0 && decide (200 < x.at_)
def fewB (l : List ActD) (many : Nat) : Bool := (l.take (many + 1)).all (fun x => !bigAlloc x) && decide (l.length ≤ many)

theorem fewB_end {l : List ActD} {many k : Nat} (h : (l.take k).all (fun x => !bigAlloc x) = true) (hk : l.length ≤ k ∨ many + 1 ≤ k) : fewB l many = decide (l.length ≤ many) := by
  have : (l.take (many + 1)).all (fun x => !bigAlloc x) = true := by
    rw [List.all_eq_true] at h ⊢
    intro x hx
    refine h x ?_
    rcases hk with hk | hk
    · rw [List.take_of_length_le hk]; exact List.mem_of_mem_take hx
    · rw [← Nat.min_eq_left hk, ← List.take_take] at hx; exact List.mem_of_mem_take hx
  unfold fewB
  rw [this, Bool.true_and]
theorem fewB_big {l : List ActD} {many k : Nat} {x : ActD} (hx : l[k]? = some x) (hb : bigAlloc x = true) (hk : k ≤ many) : fewB l many = false := by
  have : (l.take (many + 1)).all (fun x => !bigAlloc x) = false := by
    rw [List.all_eq_false]
    refine ⟨x, List.mem_of_getElem? (i := k) (by rw [List.getElem?_take]; simp [hx]; omega), by simp [hb]⟩
  unfold fewB
  rw [this, Bool.false_and]
theorem all_snoc {l : List ActD} {k : Nat} {x : ActD} (h : (l.take k).all (fun x => !bigAlloc x) = true) (hx : l[k]? = some x) (hb : bigAlloc x = false) : (l.take (k + 1)).all (fun x => !bigAlloc x) = true := by
  rw [List.take_add_one, hx]
  simp only [Option.toList_some, List.all_append, h, List.all_cons, hb, List.all_nil]
  rfl

set_option maxRecDepth 100000 in
set_option maxHeartbeats 1600000 in
theorem few_ok (l : List ActD) (A : Option Addr) (c many : Nat) (w : World) (ha : ActsArg w (.slice A l.length c) l) (hl : l.length ≤ maxLen) :
    Calls Try.prog 8 #[.slice A l.length c, .int .i64 many] w fun e w' => e = .returned (.bool (fewB l many)) ∧ w = w' := by
  unfold maxLen at hl
  go_enter Try.func8, Try.ntmps8
  go_wp2_with fail
  go_loopw [5] (fun i wr => ∃ k : Nat, k ≤ l.length ∧ k ≤ many + 1 ∧ i = .int .i64 (k : Int) ∧ wr = w ∧ (l.take k).all (fun x => !bigAlloc x) = true) (fun i _ => l.length - (intOf i).toNat)
  case atStart => exact ⟨0, Nat.zero_le _, Nat.zero_le _, rfl, rfl, by simp⟩
  case round =>
    obtain ⟨k, hk1, hk2, rfl, rfl, hall⟩ := hrel
    by_cases hlt : k < l.length
    · have hltI : (k : Int) < (l.length : Int) := by omega
      have hk0 : (0 : Int) ≤ (k : Int) := by omega
      by_cases hkm : k ≤ many
      · have hkmI : (k : Int) ≤ (many : Int) := by omega
        obtain ⟨x, hx⟩ : ∃ x, l[k]? = some x := ⟨_, List.getElem?_eq_getElem hlt⟩
        obtain ⟨A', c', hv, hA⟩ := ha
        obtain ⟨bl, off, rfl, hbl, hcl⟩ := hA (by intro e; rw [e] at hlt; simp at hlt)
        obtain ⟨q0, q1, _, _⟩ := hcl k x hx
        simp only [Value.slice.injEq] at hv
        obtain ⟨rfl, _, rfl⟩ := hv
        by_cases e0 : x.what = 0
        · by_cases e1 : 200 < x.at_
          · have hF := fewB_big hx (by simp [bigAlloc, e0, e1]) hkm
            rw [e0] at q0
            clear hcl hx hall
            go_wp2_with fail
            exact bodyPost_ret (v := .bool false) (by simp [results, Try.results8, go_sem]) rfl ⟨by first | rfl | rw [hF], rfl⟩
          · have hN := all_snoc hall hx (by simp [bigAlloc, e1])
            have e1' : x.at_ ≤ 200 := by omega
            rw [e0] at q0
            clear hcl hx hall
            go_wp2_with fail
            exact ⟨⟨k + 1, by omega, by omega, by simp, trivial, hN⟩, by simp [intOf]; omega⟩
        · have hN := all_snoc hall hx (by simp [bigAlloc, e0])
          have e0' : (x.what == 0) = false := by simp [e0]
          clear hcl hx hall
          go_wp2_with fail
          exact ⟨⟨k + 1, by omega, by omega, by simp, trivial, hN⟩, by simp [intOf]; omega⟩
      · have hkmI : ¬ (k : Int) ≤ (many : Int) := by omega
        have hF := fewB_end hall (.inr (show many + 1 ≤ k by omega))
        clear hall
        go_wp2_with fail
        exact bodyPost_ret (v := .bool (decide (l.length ≤ many))) (by simp [results, Try.results8, go_sem]) rfl ⟨by first | rfl | rw [hF], rfl⟩
    · have hltI : ¬ (k : Int) < (l.length : Int) := by omega
      have hF := fewB_end (many := many) hall (.inl (show l.length ≤ k by omega))
      clear hall
      go_wp2_with fail
      exact bodyPost_ret (v := .bool (decide (l.length ≤ many))) (by simp [results, Try.results8, go_sem]) rfl ⟨by first | rfl | rw [hF], rfl⟩
end Go.Proofs.Ytbojbhjaeekjpaa
