/- The small functions of fun: bounds, numbers, names. -/
import Derived.Test.YtleihdakmibmhaaFa
import Derived.Lib.Hide
import Derived.IntWalk
import Derived.Shelf.Abstract
namespace Go.Proofs.Ytleihdakmibmhaa
open Go.RowKit Go.Shelf
attribute [local go_sem] Oper.semAt_some

def withinB (n : Int) (bs : List Int) : Bool := decide (bs.getD 0 0 ≤ n) && decide (n ≤ bs.getD (bs.length - 1) 0)

set_option maxHeartbeats 800000 in
theorem within_ok (n : Int) {lo hi : Nat} {u : Value} {bs : List Int} (w : World) (h : IntsI w lo hi u bs) (hne : bs ≠ []) :
    Calls Try.prog 51 #[.int .i64 n, u] w fun e w' => e = .returned (.bool (withinB n bs)) ∧ w = w' := by
  have hl := List.length_pos_iff.2 hne
  obtain ⟨A, c, rfl, h1, h2⟩ := h.form
  obtain ⟨a, ha⟩ : ∃ a, bs[0]? = some a := ⟨_, List.getElem?_eq_getElem hl⟩
  obtain ⟨z, hz⟩ : ∃ z, bs[bs.length - 1]? = some z := ⟨_, List.getElem?_eq_getElem (by omega)⟩
  obtain ⟨b, o, rfl, _, _, c0, _⟩ := h.at_ ha
  obtain ⟨b', o', e, _, _, c1, _⟩ := h.at_ hz
  simp only [Option.some.injEq, Addr.mk.injEq, and_true] at e
  obtain ⟨rfl, rfl⟩ := e
  have hw : withinB n bs = (decide (a ≤ n) && decide (n ≤ z)) := by
    unfold withinB
    rw [List.getD_eq_getElem?_getD, List.getD_eq_getElem?_getD, ha, hz]
    rfl
  rw [hw]
  unfold maxLen at h2
  clear ha hz hw h hne
  obtain ⟨m, hm⟩ : ∃ m, bs.length = m + 1 := ⟨bs.length - 1, by omega⟩
  rw [hm] at h1 c1 ⊢
  clear hm hl
  simp only [Nat.add_sub_cancel, Nat.add_zero] at c0 c1
  have i0 : (0 : Int) < ((m + 1 : Nat) : Int) := by omega
  have i1 : (((m + 1 : Nat) : Int) - 1) = (m : Int) := by omega
  have i2 : (0 : Int) ≤ (m : Int) := by omega
  have i3 : (m : Int) < ((m + 1 : Nat) : Int) := by omega
  by_cases h3 : a ≤ n
  · by_cases h4 : n ≤ z
    all_goals
      go_enter Try.func51, Try.ntmps51
      go_wp2
      go_ret
      exact ⟨by simp [h3, h4], rfl⟩
  · go_enter Try.func51, Try.ntmps51
    go_wp2
    go_ret
    exact ⟨by rw [show decide (a ≤ n) = false from decide_eq_false (by omega)]; rfl, rfl⟩

theorem ret_bool {a b : Bool} (h : a = b) : Ending.returned (.bool a) = .returned (.bool b) := by rw [h]
theorem zero_ok (n v : Int) (w : World) : Calls Try.prog 66 #[.int .i64 n, .int .i64 v] w fun e w' => e = .returned (.bool (decide (n = 0))) ∧ w = w' := by
  go_enter Try.func66, Try.ntmps66
  go_wp2
  go_ret
  exact ⟨rfl, rfl⟩
theorem whatever_ok (n v : Int) (w : World) : Calls Try.prog 65 #[.int .i64 n, .int .i64 v] w fun e w' => e = .returned (.bool true) ∧ w = w' := by
  go_enter Try.func65, Try.ntmps65
  go_wp2
  go_ret
  exact ⟨rfl, rfl⟩
def varB (n v : Int) : Bool := decide (0 ≤ n ∧ n < v)
def funcB (n : Int) : Bool := decide (0 ≤ n ∧ n ≤ 63)
theorem variable_ok (n v : Int) (w : World) (h0 : 0 ≤ v) (h1 : v ≤ 1000000) : Calls Try.prog 67 #[.int .i64 n, .int .i64 v] w fun e w' => e = .returned (.bool (varB n v)) ∧ w = w' := by
  have hv : IntKind.i64.wrap v = v := IntWalk.i64_in _ (by omega)
  by_cases ha : 0 ≤ n
  all_goals by_cases hb : n < v
  all_goals
    go_enter Try.func67, Try.ntmps67
    go_wp2
    go_ret
    exact ⟨ret_bool (by unfold varB; clear hv; first | exact (decide_eq_true (by omega)).symm | exact (decide_eq_false (by omega)).symm), rfl⟩
theorem function_ok (n v : Int) (w : World) : Calls Try.prog 68 #[.int .i64 n, .int .i64 v] w fun e w' => e = .returned (.bool (funcB n)) ∧ w = w' := by
  by_cases ha : 0 ≤ n
  all_goals by_cases hb : n < 64
  all_goals
    go_enter Try.func68, Try.ntmps68
    go_wp2
    go_ret
    exact ⟨ret_bool (by unfold funcB; first | exact (decide_eq_true (by omega)).symm | exact (decide_eq_false (by omega)).symm), rfl⟩

/-- The function that tells which numbers an Op may have. -/
def numF (op : Int) : Nat := if namesOp op = true then 68 else if op = 3 then 67 else if op = 1 then 65 else 66
theorem numF_ok (op n v : Int) (w : World) (h0 : 0 ≤ v) (h1 : v ≤ 1000000) : Calls Try.prog (numF op) #[.int .i64 n, .int .i64 v] w fun e w' => e = .returned (.bool (numOK op n v)) ∧ w = w' := by
  unfold numF numOK
  by_cases ha : namesOp op = true
  · rw [if_pos ha, if_pos ha]; exact function_ok n v w
  · rw [if_neg ha, if_neg ha]
    by_cases hb : op = 3
    · rw [if_pos hb, if_pos hb]; exact variable_ok n v w h0 h1
    · rw [if_neg hb, if_neg hb]
      by_cases hc : op = 1
      · rw [if_pos hc, show decide (op = 1 ∨ n = 0) = true from decide_eq_true (.inl hc)]; exact whatever_ok n v w
      · rw [if_neg hc, show decide (op = 1 ∨ n = 0) = decide (n = 0) from decide_eq_decide.2 (by omega)]; exact zero_ok n v w
theorem numF_enters (op : Int) (args : Array Value) (w : World) : (callFunc (numF op) args).run Try.prog w = .ok (.enter (numF op) args) w := by
  unfold numF
  repeat' split
  · exact enters_of Try.func68 (by kernel_rfl) rfl args w
  · exact enters_of Try.func67 (by kernel_rfl) rfl args w
  · exact enters_of Try.func65 (by kernel_rfl) rfl args w
  · exact enters_of Try.func66 (by kernel_rfl) rfl args w

theorem count_ok (A : Option Addr) (n c : Nat) (w : World) : Calls Try.prog 64 #[.slice A n c] w fun e w' => e = .returned (.func (.func 71) #[] #[.pointer (some ⟨w.heap.size, 0, none⟩)]) ∧ w' = w.alloc (.cells #[.slice A n c] 45) := by
  have hmf : ∀ (fn : Fn) (first cap : Array Value) (w : World), (Instr.makeFunc fn first cap).run Try.prog w = .ok (.func fn first cap) w := fun _ _ _ _ => rfl
  go_enter Try.func64, Try.ntmps64
  go_wp2
  go_ret
  exact ⟨rfl, rfl⟩
theorem count1_ok (m : Int) {lo hi b : Nat} {u : Value} {bs : List Int} (w : World) (hb : Blk w b 45 #[u]) (h : IntsI w lo hi u bs) (hne : bs ≠ []) :
    Calls Try.prog 71 #[.int .i64 m, .pointer (some ⟨b, 0, none⟩)] w fun e w' => e = .returned (.bool (withinB m bs)) ∧ w = w' := by
  have hw := Lib.hid (within_ok m w h hne)
  have c0 := hb.cell 0
  simp at c0
  obtain ⟨A, c, rfl, _, _⟩ := h.form
  clear hb h
  go_enter Try.func71, Try.ntmps71
  go_wp2_with (go_at_call 51; refine hw.out.mono ?_; rintro e w' ⟨rfl, rfl⟩)
  go_ret
  exact ⟨rfl, rfl⟩
theorem names_ok (op : Int) (w : World) : Calls Try.prog 45 #[.int .i64 op] w fun e w' => e = .returned (.bool (namesOp op)) ∧ w = w' := by
  by_cases h13 : op = 13
  · subst h13
    go_enter Try.func45, Try.ntmps45
    go_wp2
    go_ret
    exact ⟨rfl, rfl⟩
  by_cases h14 : op = 14
  · subst h14
    go_enter Try.func45, Try.ntmps45
    go_wp2
    go_ret
    exact ⟨rfl, rfl⟩
  by_cases h21 : op = 21
  · subst h21
    go_enter Try.func45, Try.ntmps45
    go_wp2
    go_ret
    exact ⟨rfl, rfl⟩
  by_cases h22 : op = 22
  · subst h22
    go_enter Try.func45, Try.ntmps45
    go_wp2
    go_ret
    exact ⟨rfl, rfl⟩
  by_cases h23 : op = 23
  · subst h23
    go_enter Try.func45, Try.ntmps45
    go_wp2
    go_ret
    exact ⟨rfl, rfl⟩
  go_enter Try.func45, Try.ntmps45
  go_wp2
  go_ret
  exact ⟨ret_bool (by unfold namesOp; simp [h13, h14, h21, h22, h23]), rfl⟩
end Go.Proofs.Ytleihdakmibmhaa
