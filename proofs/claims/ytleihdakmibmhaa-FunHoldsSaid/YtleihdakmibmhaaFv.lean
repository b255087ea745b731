/- The document's Where, Right, Depth, Parent. -/
import Derived.Test.YtleihdakmibmhaaFr
import Derived.Test.YtleihdakmibmhaaFu
import Derived.Test.YtleihdakmibmhaaFi
namespace Go.Proofs.Ytleihdakmibmhaa
open Go.RowKit Go.Shelf
attribute [local go_sem] Oper.semAt_some

section
variable {F : Fd} {v : Value}
theorem rplaces_at {w : World} (h : FunI w 0 w.heap.size v F) {A : Option Addr} {c : Nat} : Calls Try.prog 32 #[v] (w.alloc (.cells #[.int .i64 F.p, .slice A F.ns.length c] 24)) fun e w' =>
    ((∃ st g, placesF F = .ok st ∧ e = .returned (.tuple #[.slice (some ⟨g, 0, none⟩) F.ns.length F.ns.length, .int .i64 0, .bool false]) ∧ Hid (PlS w' g F.ns.length st)) ∨
      (∃ k : Nat, placesF F = .bad k ∧ e = .returned (.tuple #[.slice none 0 0, .int .i64 (k : Int), .bool true]))) ∧ Hid (Below w.heap.size w w') := by
  have hb : Below w.heap.size w (w.alloc (.cells #[.int .i64 F.p, .slice A F.ns.length c] 24)) := (Below.refl _ w).alloc (Nat.le_refl _) _
  refine (rPlaces_ok _ (h.below hb (Nat.le_refl _)) hb.size).mono fun e w' q => ?_
  rcases q with ⟨st, g, h1, h2, h3, h4⟩ | ⟨k, h1, h2, h3⟩
  · exact ⟨.inl ⟨st, g, h1, h2, Lib.hid h3⟩, Lib.hid (hb.trans (h4.mono hb.size))⟩
  · exact ⟨.inr ⟨k, h1, h2⟩, Lib.hid (hb.trans (h3.mono hb.size))⟩

set_option maxRecDepth 100000 in
set_option maxHeartbeats 1600000 in
theorem rWhere_ok (w : World) (h : FunI w 0 w.heap.size v F) : Calls Try.prog 12 #[v] w fun e w' => e = .returned (.tuple #[.int .i64 (whereF F).1, .int .i64 (whereF F).2]) ∧ Below w.heap.size w w' := by
  obtain ⟨A, c, rfl⟩ := h.form
  have HP := Lib.hid (rplaces_at h (A := A) (c := c))
  clear h
  cases hp : placesF F with
  | ok st =>
    have hw : whereF F = (0, 0) := by unfold whereF; rw [hp]
    rw [hw]
    rw [hp] at HP
    clear hp hw
    go_enter Try.func12, Try.ntmps12
    go_wp2_with (go_at_call 32; (with_reducible refine HP.out.mono ?_); rintro e w1 ⟨(⟨st', g, hp', rfl, hS⟩ | ⟨k, hp', rfl⟩), hB⟩; rotate_left; (· cases hp'))
    go_ret2
    exact ⟨rfl, hB.out⟩
  | bad k =>
    have hw : whereF F = ((k : Int), 60) := by unfold whereF; rw [hp]
    rw [hw]
    rw [hp] at HP
    clear hp hw
    go_enter Try.func12, Try.ntmps12
    go_wp2_with (go_at_call 32; (with_reducible refine HP.out.mono ?_); rintro e w1 ⟨(⟨st', g, hp', rfl, hS⟩ | ⟨k', hp', rfl⟩), hB⟩; (· cases hp'))
    go_ret2
    simp only [Out.bad.injEq] at hp'
    subst hp'
    exact ⟨rfl, hB.out⟩
set_option maxRecDepth 100000 in
set_option maxHeartbeats 1600000 in
theorem rRight_ok (w : World) (h : FunI w 0 w.heap.size v F) : Calls Try.prog 46 #[v] w fun e w' => e = .returned (.bool (goodF F)) ∧ Below w.heap.size w w' := by
  obtain ⟨A, c, rfl⟩ := h.form
  have HP := Lib.hid (rplaces_at h (A := A) (c := c))
  clear h
  unfold goodF
  cases hp : placesF F with
  | ok st =>
    rw [hp] at HP
    clear hp
    go_enter Try.func46, Try.ntmps46
    go_wp2_with (go_at_call 32; (with_reducible refine HP.out.mono ?_); rintro e w1 ⟨(⟨st', g, hp', rfl, hS⟩ | ⟨k, hp', rfl⟩), hB⟩; rotate_left; (· cases hp'))
    go_ret
    exact ⟨rfl, hB.out⟩
  | bad k =>
    rw [hp] at HP
    clear hp
    go_enter Try.func46, Try.ntmps46
    go_wp2_with (go_at_call 32; (with_reducible refine HP.out.mono ?_); rintro e w1 ⟨(⟨st', g, hp', rfl, hS⟩ | ⟨k', hp', rfl⟩), hB⟩; (· cases hp'))
    go_ret
    exact ⟨rfl, hB.out⟩
set_option maxRecDepth 100000 in
set_option maxHeartbeats 1600000 in
theorem rDepth_ok (node : Int) (w : World) (h : FunI w 0 w.heap.size v F) : Calls Try.prog 16 #[v, .int .i64 node] w fun e w' => e = .returned (.tuple #[.int .i64 (depthF F node).1, .int .i64 (depthF F node).2]) ∧ Below w.heap.size w w' := by
  obtain ⟨A, c, rfl⟩ := h.form
  have HP := Lib.hid (rplaces_at h (A := A) (c := c))
  clear h
  cases hp : placesF F with
  | bad k =>
    have hw : depthF F node = (0, 60) := by unfold depthF; rw [hp]
    rw [hw]
    rw [hp] at HP
    clear hp hw
    go_enter Try.func16, Try.ntmps16
    go_wp2_with (go_at_call 32; (with_reducible refine HP.out.mono ?_); rintro e w1 ⟨(⟨st', g, hp', rfl, hS⟩ | ⟨k', hp', rfl⟩), hB⟩; (· cases hp'))
    go_ret2
    exact ⟨rfl, hB.out⟩
  | ok st =>
    have hl := places_len hp
    by_cases hr : 0 ≤ node ∧ node < F.ns.length
    · have hw : depthF F node = (st.2.getD node.toNat 0, 0) := by unfold depthF; rw [hp]; simp only [show hasB node F.ns.length = true from decide_eq_true hr, if_true]
      rw [hw]
      obtain ⟨n, rfl⟩ : ∃ n : Nat, node = (n : Int) := ⟨node.toNat, by omega⟩
      rw [Int.toNat_natCast]
      have hn : n < F.ns.length := by omega
      have n0 : (0 : Int) ≤ (n : Int) := hr.1
      have n1 : (n : Int) < (F.ns.length : Int) := hr.2
      rw [hp] at HP
      have HP' := Lib.hid (HP.out.mono (R' := fun e w' => (∃ g, e = .returned (.tuple #[.slice (some ⟨g, 0, none⟩) F.ns.length F.ns.length, .int .i64 0, .bool false]) ∧ w'.cell? ⟨g, n * 2 + 1, none⟩ = some (.int .i64 (st.2.getD n 0))) ∧ Hid (Below w.heap.size w w')) (fun e w' q => by
        obtain ⟨q1, q2⟩ := q
        rcases q1 with ⟨st', g, h1, h2, h3⟩ | ⟨k, h1, _⟩
        · simp only [Out.ok.injEq] at h1
          subst h1
          exact ⟨⟨g, h2, (h3.out.at_ hn).2.1⟩, q2⟩
        · cases h1))
      clear hp hw HP hr
      obtain ⟨q, hq⟩ : ∃ q, st.2.getD n 0 = q := ⟨_, rfl⟩
      rw [hq] at HP' ⊢
      clear hq
      go_enter Try.func16, Try.ntmps16
      go_wp2_with (go_at_call 32; (with_reducible refine HP'.out.mono ?_); rintro e w1 ⟨⟨g, rfl, c0⟩, hB⟩)
      go_ret2
      exact ⟨rfl, hB.out⟩
    · have hw : depthF F node = (0, 4) := by unfold depthF; rw [hp]; simp only [show hasB node F.ns.length = false from decide_eq_false hr]; rfl
      rw [hw]
      rw [hp] at HP
      clear hp hw
      by_cases h0 : node < 0
      · clear hr
        go_enter Try.func16, Try.ntmps16
        go_wp2_with (go_at_call 32; (with_reducible refine HP.out.mono ?_); rintro e w1 ⟨(⟨st', g, hp', rfl, hS⟩ | ⟨k, hp', rfl⟩), hB⟩; rotate_left; (· cases hp'))
        go_ret2
        exact ⟨rfl, hB.out⟩
      · have h1 : ¬ node < (F.ns.length : Int) := fun h => hr ⟨by omega, h⟩
        clear hr
        go_enter Try.func16, Try.ntmps16
        go_wp2_with (go_at_call 32; (with_reducible refine HP.out.mono ?_); rintro e w1 ⟨(⟨st', g, hp', rfl, hS⟩ | ⟨k, hp', rfl⟩), hB⟩; rotate_left; (· cases hp'))
        go_ret2
        exact ⟨rfl, hB.out⟩
set_option maxRecDepth 100000 in
set_option maxHeartbeats 1600000 in
theorem rParent_ok (node : Int) (w : World) (h : FunI w 0 w.heap.size v F) : Calls Try.prog 18 #[v, .int .i64 node] w fun e w' => e = .returned (.tuple #[.int .i64 (parentF F node).1, .int .i64 (parentF F node).2]) ∧ Below w.heap.size w w' := by
  obtain ⟨A, c, rfl⟩ := h.form
  have HP := Lib.hid (rplaces_at h (A := A) (c := c))
  clear h
  cases hp : placesF F with
  | bad k =>
    have hw : parentF F node = (0, 60) := by unfold parentF; rw [hp]
    rw [hw]
    rw [hp] at HP
    clear hp hw
    go_enter Try.func18, Try.ntmps18
    go_wp2_with (go_at_call 32; (with_reducible refine HP.out.mono ?_); rintro e w1 ⟨(⟨st', g, hp', rfl, hS⟩ | ⟨k', hp', rfl⟩), hB⟩; (· cases hp'))
    go_ret2
    exact ⟨rfl, hB.out⟩
  | ok st =>
    have hl := places_len hp
    have hP := placesP hp
    by_cases hr : 0 ≤ node ∧ node < F.ns.length
    · obtain ⟨n, rfl⟩ : ∃ n : Nat, node = (n : Int) := ⟨node.toNat, by omega⟩
      have hn : n < F.ns.length := by omega
      have n0 : (0 : Int) ≤ (n : Int) := hr.1
      have n1 : (n : Int) < (F.ns.length : Int) := hr.2
      rw [hp] at HP
      by_cases hz : n = 0
      · have hw : parentF F (n : Int) = (0, 5) := by
          unfold parentF
          rw [hp]
          simp only [show hasB (n : Int) F.ns.length = true from decide_eq_true hr, if_true, Int.toNat_natCast]
          rw [if_pos (by rw [hz]; exact hP.root.1)]
        rw [hw]
        have hzb : ((n : Int) == 0) = true := by simp [hz]
        clear hp hw hr hz hP
        go_enter Try.func18, Try.ntmps18
        go_wp2_with (go_at_call 32; (with_reducible refine HP.out.mono ?_); rintro e w1 ⟨(⟨st', g, hp', rfl, hS⟩ | ⟨k, hp', rfl⟩), hB⟩; rotate_left; (· cases hp'))
        go_ret2
        exact ⟨rfl, hB.out⟩
      · have hge := hP.ge n (by omega) hn
        have hw : parentF F (n : Int) = (st.1.getD n 0, 0) := by
          unfold parentF
          rw [hp]
          simp only [show hasB (n : Int) F.ns.length = true from decide_eq_true hr, if_true, Int.toNat_natCast]
          rw [if_neg (by unfold pa at hge; omega)]
        rw [hw]
        have hzb : ((n : Int) == 0) = false := by simp [hz]
        have HP' := Lib.hid (HP.out.mono (R' := fun e w' => (∃ g, e = .returned (.tuple #[.slice (some ⟨g, 0, none⟩) F.ns.length F.ns.length, .int .i64 0, .bool false]) ∧ w'.cell? ⟨g, n * 2, none⟩ = some (.int .i64 (st.1.getD n 0))) ∧ Hid (Below w.heap.size w w')) (fun e w' q => by
          obtain ⟨q1, q2⟩ := q
          rcases q1 with ⟨st', g, h1, h2, h3⟩ | ⟨k, h1, _⟩
          · simp only [Out.ok.injEq] at h1
            subst h1
            exact ⟨⟨g, h2, (h3.out.at_ hn).1⟩, q2⟩
          · cases h1))
        clear hp hw HP hr hz hge hP
        obtain ⟨q, hq⟩ : ∃ q, st.1.getD n 0 = q := ⟨_, rfl⟩
        rw [hq] at HP' ⊢
        clear hq
        go_enter Try.func18, Try.ntmps18
        go_wp2_with (go_at_call 32; (with_reducible refine HP'.out.mono ?_); rintro e w1 ⟨⟨g, rfl, c0⟩, hB⟩)
        go_ret2
        exact ⟨rfl, hB.out⟩
    · have hw : parentF F node = (0, 4) := by unfold parentF; rw [hp]; simp only [show hasB node F.ns.length = false from decide_eq_false hr]; rfl
      rw [hw]
      rw [hp] at HP
      clear hp hw hP
      by_cases h0 : node < 0
      · clear hr
        go_enter Try.func18, Try.ntmps18
        go_wp2_with (go_at_call 32; (with_reducible refine HP.out.mono ?_); rintro e w1 ⟨(⟨st', g, hp', rfl, hS⟩ | ⟨k, hp', rfl⟩), hB⟩; rotate_left; (· cases hp'))
        go_ret2
        exact ⟨rfl, hB.out⟩
      · have h1 : ¬ node < (F.ns.length : Int) := fun h => hr ⟨by omega, h⟩
        clear hr
        go_enter Try.func18, Try.ntmps18
        go_wp2_with (go_at_call 32; (with_reducible refine HP.out.mono ?_); rintro e w1 ⟨(⟨st', g, hp', rfl, hS⟩ | ⟨k, hp', rfl⟩), hB⟩; rotate_left; (· cases hp'))
        go_ret2
        exact ⟨rfl, hB.out⟩
end
end Go.Proofs.Ytleihdakmibmhaa
