/- Equal, alike, EqualFunc, Same: which functions are the same. -/
import Derived.Test.YtleihdakmibmhaaFs
import Derived.Deep.QuietTactic
import Derived.BigQuiet
namespace Go.Proofs.Ytleihdakmibmhaa
open Go.RowKit Go.Shelf
attribute [local go_sem] Oper.semAt_some store_nilFunc6 store_func6

def sameNd (a b : Nd) : Bool := decide (a.op = b.op) && decide (a.n = b.n) && decide (a.l = b.l)
def sameNs : List Nd → List Nd → Bool
  | [], [] => true
  | a :: r, b :: s => sameNd a b && sameNs r s
  | _, _ => false
def sameF (A B : Fd) : Bool := decide (A.p = B.p) && sameNs A.ns B.ns
theorem sameNd_iff {a b : Nd} : sameNd a b = true ↔ a = b := by
  cases a; cases b
  simp [sameNd, and_assoc]
theorem sameNs_iff : ∀ {l m : List Nd}, sameNs l m = true ↔ l = m
  | [], [] => by simp [sameNs]
  | [], b :: s => by simp [sameNs]
  | a :: r, [] => by simp [sameNs]
  | a :: r, b :: s => by simp [sameNs, sameNd_iff, sameNs_iff]
theorem sameF_iff {A B : Fd} : sameF A B = true ↔ A = B := by
  cases A; cases B
  simp [sameF, sameNs_iff]
theorem Bool.eq_of_iff {a b : Bool} {p : Prop} (h1 : a = true ↔ p) (h2 : b = true ↔ p) : a = b := by rw [Bool.eq_iff_iff, h1, h2]

set_option maxRecDepth 100000 in
set_option maxHeartbeats 1600000 in
theorem equalI_ok {hi : Nat} {u1 u2 : Value} {l1 l2 : List Int} (w : World) (h1 : IntsI w 0 hi u1 l1) (h2 : IntsI w 0 hi u2 l2) (hh : hi ≤ w.heap.size) :
    Calls Try.prog 62 #[u1, u2] w fun e w' => e = .returned (.bool (decide (l1 = l2))) ∧ Below w.heap.size w w' := by
  obtain ⟨A1, c1, rfl, k1, k2⟩ := h1.form
  obtain ⟨A2, c2, rfl, k3, k4⟩ := h2.form
  unfold maxLen at k2 k4
  by_cases hl : l1.length = l2.length
  · rw [← hl] at h2 k3 ⊢
    have hlI : ((l1.length : Int) != (l1.length : Int)) = false := by simp
    have H1 := Lib.hid h1
    have H2 := Lib.hid h2
    have HL := Lib.hid hl
    clear h1 h2 hl
    go_enter Try.func62, Try.ntmps62
    go_wp2_with fail
    go_loopw [13] (fun p wr => ∃ k : Nat, k ≤ l1.length ∧ p = .int .i64 (k : Int) ∧ Hid (Below w.heap.size w wr ∧ ∀ i, i < k → l1[i]? = l2[i]?)) (fun p _ => l1.length - (intOf p).toNat)
    case atStart => exact ⟨0, Nat.zero_le _, rfl, Lib.hid ⟨Below.refl _ _, fun i hi => by omega⟩⟩
    case round =>
      obtain ⟨k, hk, rfl, hR⟩ := hrel
      have hk0 : (0 : Int) ≤ (k : Int) := by omega
      by_cases hlt : k < l1.length
      · have hltI : (k : Int) < (l1.length : Int) := by omega
        obtain ⟨x, hx⟩ : ∃ x, l1[k]? = some x := ⟨_, List.getElem?_eq_getElem hlt⟩
        obtain ⟨y, hy⟩ : ∃ y, l2[k]? = some y := ⟨_, List.getElem?_eq_getElem (by rw [← HL.out]; exact hlt)⟩
        obtain ⟨b1, o1, rfl, _, _, d1, _⟩ := (H1.out.below hR.out.1 hh).at_ hx
        obtain ⟨b2, o2, rfl, _, _, d2, _⟩ := (H2.out.below hR.out.1 hh).at_ hy
        have lb1 := lt_of_cell d1
        have lb2 := lt_of_cell d2
        have hw1 : IntKind.i64.wrap ((k : Int) + 1) = (k : Int) + 1 := IntWalk.i64_in _ (by omega)
        have HX := Lib.hid (And.intro hx hy)
        clear hx hy
        by_cases hxy : x = y
        · subst hxy
          have hb : (x != x) = false := by simp
          go_upto_region 6 with fail
          go_quiet (fail)
          go_wp2_with fail
          go_roundw
          case rel => exact ⟨k + 1, by omega, by go_num, Lib.hid ⟨hR.out.1.trans (Below.drewN' _ _), fun i hi => by
            rcases Nat.lt_succ_iff_lt_or_eq.1 hi with h | rfl
            · exact hR.out.2 i h
            · rw [HX.out.1, HX.out.2]⟩⟩
          case measure => simp [intOf]; omega
        · have hb : (x != y) = true := by simp [hxy]
          have hE : decide (l1 = l2) = false := decide_eq_false (fun e => hxy (by have h1 := HX.out.1; rw [e, HX.out.2] at h1; exact (Option.some.inj h1).symm))
          have HE := Lib.hid hE
          clear hE
          go_upto_region 6 with fail
          go_quiet (fail)
          go_wp2_with fail
          go_ret
          exact ⟨by rw [HE.out]; rfl, hR.out.1.trans (Below.drewN' _ _)⟩
      · have hltI : ¬ (k : Int) < (l1.length : Int) := by omega
        have hE : decide (l1 = l2) = true := decide_eq_true (List.ext_getElem? fun i => by
          by_cases hi : i < l1.length
          · exact hR.out.2 i (by omega)
          · rw [List.getElem?_eq_none (by omega), List.getElem?_eq_none (by have := HL.out; omega)])
        have HE := Lib.hid hE
        clear hE
        go_wp2_with fail
        go_ret
        exact ⟨by rw [HE.out]; rfl, hR.out.1⟩
  · have hlI : ((l1.length : Int) != (l2.length : Int)) = true := by simp; omega
    have hE : decide (l1 = l2) = false := decide_eq_false (fun e => hl (by rw [e]))
    rw [hE]
    clear hE h1 h2 hl
    go_enter Try.func62, Try.ntmps62
    go_wp2_with fail
    go_ret
    exact ⟨rfl, Below.refl _ _⟩
set_option maxRecDepth 100000 in
set_option maxHeartbeats 1600000 in
theorem alike_ok {hi : Nat} {u1 u2 : Value} {x y : Nd} (w : World) (h1 : IntsI w 0 hi u1 x.l) (h2 : IntsI w 0 hi u2 y.l) (hh : hi ≤ w.heap.size) :
    Calls Try.prog 50 #[.agg #[.int .i64 x.op, .int .i64 x.n, u1], .agg #[.int .i64 y.op, .int .i64 y.n, u2]] w fun e w' => e = .returned (.bool (sameNd x y)) ∧ Below w.heap.size w w' := by
  obtain ⟨A1, c1, rfl, _, _⟩ := h1.form
  obtain ⟨A2, c2, rfl, _, _⟩ := h2.form
  obtain ⟨W1, hW1⟩ : ∃ X, (w.alloc (.cells #[.int .i64 x.op, .int .i64 x.n, .slice A1 x.l.length c1] 47)).alloc (.cells #[.int .i64 y.op, .int .i64 y.n, .slice A2 y.l.length c2] 47) = X := ⟨_, rfl⟩
  have hb : Below w.heap.size w W1 := by rw [← hW1]; exact below2' w _ _
  have hq := (equalI_ok W1 (h1.below hb hh) (h2.below hb hh) (Nat.le_trans hh hb.size)).mono (R' := fun e w' => e = .returned (.bool (decide (x.l = y.l))) ∧ Hid (Below w.heap.size w w')) fun e w' q => ⟨q.1, Lib.hid (hb.trans (q.2.mono hb.size))⟩
  rw [← hW1] at hq hb
  have HQ := Lib.hid hq
  have HB := Lib.hid hb
  clear hq hb hW1 h1 h2
  unfold sameNd
  by_cases ho : x.op = y.op
  · have eo : (x.op == y.op) = true := by simp [ho]
    by_cases hn : x.n = y.n
    · have en : (x.n == y.n) = true := by simp [hn]
      have HE := Lib.hid (show (decide (x.op = y.op) && decide (x.n = y.n) && decide (x.l = y.l)) = decide (x.l = y.l) by simp [ho, hn])
      clear ho hn
      go_enter Try.func50, Try.ntmps50
      go_wp2_with (go_at_call 62; (with_reducible refine HQ.out.mono ?_); rintro e w' ⟨rfl, hB⟩)
      go_ret
      exact ⟨by rw [HE.out]; rfl, hB.out⟩
    · have en : (x.n == y.n) = false := by simp [hn]
      have HE := Lib.hid (show (decide (x.op = y.op) && decide (x.n = y.n) && decide (x.l = y.l)) = false by simp [hn])
      clear ho hn
      go_enter Try.func50, Try.ntmps50
      go_wp2_with fail
      go_ret
      exact ⟨by rw [HE.out]; rfl, HB.out⟩
  · have eo : (x.op == y.op) = false := by simp [ho]
    have HE := Lib.hid (show (decide (x.op = y.op) && decide (x.n = y.n) && decide (x.l = y.l)) = false by simp [ho])
    clear ho
    go_enter Try.func50, Try.ntmps50
    go_wp2_with fail
    go_ret
    exact ⟨by rw [HE.out]; rfl, HB.out⟩
end Go.Proofs.Ytleihdakmibmhaa
