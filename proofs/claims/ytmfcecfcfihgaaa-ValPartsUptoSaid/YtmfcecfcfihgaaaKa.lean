/- demandKind, combine. -/
import Derived.Test.YtmfcecfcfihgaaaMb
namespace Go.Proofs.Ytmfcecfcfihgaaa
open Go.RowKit Go.Shelf
attribute [local go_sem] Oper.semAt_some

def bad (k : Int) : List PanicEntry := [{ v := .iface 190 (.int .i64 k), recovered := false }]
def kindsB (k : Int) (l : List V) : Bool := l.all fun x => x.k == k
def KindsTo (k : Int) (l : List V) (j : Nat) : Prop := ∀ (i : Nat) (x : V), i < j → l[i]? = some x → x.k = k
theorem kindsTo_next {k : Int} {l : List V} {j : Nat} {x : V} (h : KindsTo k l j) (hx : l[j]? = some x) (he : x.k = k) : KindsTo k l (j + 1) := by
  intro i y hi hy
  rcases Nat.lt_or_eq_of_le (Nat.le_of_lt_succ hi) with h1 | h1
  · exact h i y h1 hy
  · subst h1; rw [hx] at hy; cases hy; exact he
theorem kinds_all {k : Int} {l : List V} (h : KindsTo k l l.length) : kindsB k l = true := by
  unfold kindsB
  rw [List.all_eq_true]
  intro x hx
  obtain ⟨i, hi, rfl⟩ := List.mem_iff_getElem.1 hx
  simpa using h i _ hi (List.getElem?_eq_getElem hi)
theorem kinds_not {k : Int} {l : List V} {j : Nat} {x : V} (hx : l[j]? = some x) (he : x.k ≠ k) : kindsB k l = false := by
  unfold kindsB
  rw [List.all_eq_false]
  exact ⟨x, List.mem_of_getElem? hx, by simpa using he⟩
/-- How a function ends that may raise an error. -/
def RPost (w : World) (ok : Bool) (k : Int) (e : Ending) (w' : World) : Prop := ((ok = true ∧ e = .returned (.tuple #[])) ∨ (ok = false ∧ e = .panicked (bad k))) ∧ Below w.heap.size w w'

set_option maxRecDepth 100000 in
set_option maxHeartbeats 1600000 in
theorem demandKind_ok {hi : Nat} {s : Value} {l : List V} (k : Int) (w : World) (h : Ls w 0 hi s l) (hh : hi ≤ w.heap.size) :
    Calls Try.prog 139 #[.int .i64 k, s] w (RPost w (kindsB k l) 41) := by
  obtain ⟨A, c, rfl, hc1, hc2⟩ := h.form
  have hm : l.length ≤ maxLen := Nat.le_trans hc1 hc2
  unfold maxLen at hm
  go_enter Try.func139, Try.ntmps139
  go_wp2_with fail
  go_loopw [8] (fun p wr => ∃ j : Nat, j ≤ l.length ∧ p = .int .i64 (j : Int) ∧ Below w.heap.size w wr ∧ KindsTo k l j) (fun p _ => l.length - (intOf p).toNat)
  case atStart => exact ⟨0, Nat.zero_le _, rfl, Below.refl _ w, by intro i x hi; omega⟩
  case round =>
    obtain ⟨j, hj, rfl, hB, hN⟩ := hrel
    have hj0 : (0 : Int) ≤ (j : Int) := by omega
    by_cases hlt : j < l.length
    · have hltI : (j : Int) < (l.length : Int) := by omega
      obtain ⟨x, hx⟩ : ∃ x, l[j]? = some x := ⟨_, List.getElem?_eq_getElem hlt⟩
      obtain ⟨b, o, s, rfl, hb, _, _, q0, q1, q2, hix⟩ := (h.after (hB.mono hh)).at_ hx
      obtain ⟨X, cx, rfl, _, _, _⟩ := hix.slice
      by_cases he : x.k = k
      · have hN' := Lib.hid (kindsTo_next hN hx he)
        have heB : (x.k != k) = false := by simp [he]
        have HB := Lib.hid hB
        clear hx he hB h hN hix
        go_wp2_with fail
        exact ⟨⟨j + 1, by omega, by go_num, HB.out.alloc HB.out.size _, hN'.out⟩, by simp [intOf]; omega⟩
      · have hE := kinds_not hx he
        have heB : (x.k != k) = true := by simp [he]
        have HE := Lib.hid hE
        have HB := Lib.hid hB
        clear hE hx he hB h hN hix
        go_wp2_with fail
        exact ⟨rfl, .inr ⟨HE.out, rfl⟩, HB.out.alloc HB.out.size _⟩
    · have hltI : ¬ (j : Int) < (l.length : Int) := by omega
      have hE : kindsB k l = true := by
        obtain rfl : j = l.length := by omega
        exact kinds_all hN
      have HE := Lib.hid hE
      have HB := Lib.hid hB
      clear hE hN h hB
      go_wp2_with fail
      refine bodyPost_end (results_none rfl _ _ _) rfl ?_
      exact ⟨.inl ⟨HE.out, rfl⟩, HB.out⟩

set_option maxRecDepth 100000 in
theorem add2_ok (x y : Int) (w : World) : Calls Try.prog 127 #[.int .i64 x, .int .i64 y] w fun e w' => e = .returned (.int .i64 (wrap64 (x + y))) ∧ w = w' := by
  go_enter Try.func127, Try.ntmps127
  go_wp2_with fail
  go_ret
  exact ⟨rfl, rfl⟩
set_option maxRecDepth 100000 in
theorem sub2_ok (x y : Int) (w : World) : Calls Try.prog 129 #[.int .i64 x, .int .i64 y] w fun e w' => e = .returned (.int .i64 (wrap64 (x - y))) ∧ w = w' := by
  go_enter Try.func129, Try.ntmps129
  go_wp2_with fail
  go_ret
  exact ⟨rfl, rfl⟩
set_option maxRecDepth 100000 in
theorem less2_ok (x y : Int) (w : World) : Calls Try.prog 133 #[.int .i64 x, .int .i64 y] w fun e w' => e = .returned (.bool (decide (x < y))) ∧ w = w' := by
  go_enter Try.func133, Try.ntmps133
  go_wp2_with fail
  go_ret
  exact ⟨rfl, rfl⟩

/-- Two boxes that hold values. -/
structure TB (w : World) (x0 y0 z0 x1 y1 z1 : Value) (W : World) : Prop where
  a : Blk W w.heap.size 36 #[x0, y0, z0]
  b : Blk W (w.heap.size + 1) 36 #[x1, y1, z1]
  bl : Below w.heap.size w W
theorem TB.below {w W W' : World} {x0 y0 z0 x1 y1 z1 : Value} (h : TB w x0 y0 z0 x1 y1 z1 W) (hb : Below W.heap.size W W') : TB w x0 y0 z0 x1 y1 z1 W' :=
  ⟨h.a.keep (hb.block _ h.a.lt), h.b.keep (hb.block _ h.b.lt), h.bl.trans (hb.mono h.bl.size)⟩
theorem TB.alloc {w W : World} {x0 y0 z0 x1 y1 z1 : Value} (h : TB w x0 y0 z0 x1 y1 z1 W) (o : Obj) : TB w x0 y0 z0 x1 y1 z1 (W.alloc o) := h.below ((Below.refl _ W).alloc (Nat.le_refl _) o)
theorem TB.new (w : World) (x0 y0 z0 x1 y1 z1 : Value) : TB w x0 y0 z0 x1 y1 z1 ((w.alloc (.cells #[x0, y0, z0] 36)).alloc (.cells #[x1, y1, z1] 36)) :=
  ⟨(Blk.new w _ _).alloc _, by have := Blk.new (w.alloc (.cells #[x0, y0, z0] 36)) 36 #[x1, y1, z1]; rwa [World.size_alloc] at this, below2 w _ _⟩
structure TF (w : World) (x0 y0 z0 x1 y1 z1 : Value) (W : World) : Prop where
  a0 : W.cell? ⟨w.heap.size, 0, none⟩ = some x0
  a1 : W.cell? ⟨w.heap.size, 1, none⟩ = some y0
  a2 : W.cell? ⟨w.heap.size, 2, none⟩ = some z0
  b0 : W.cell? ⟨w.heap.size + 1, 0, none⟩ = some x1
  b1 : W.cell? ⟨w.heap.size + 1, 1, none⟩ = some y1
  b2 : W.cell? ⟨w.heap.size + 1, 2, none⟩ = some z1
  lt : w.heap.size + 1 < W.heap.size
  h : Hid (TB w x0 y0 z0 x1 y1 z1 W)
theorem TB.facts {w W : World} {x0 y0 z0 x1 y1 z1 : Value} (h : TB w x0 y0 z0 x1 y1 z1 W) : TF w x0 y0 z0 x1 y1 z1 W :=
  ⟨h.a.cells3.1, h.a.cells3.2.1, h.a.cells3.2.2, h.b.cells3.1, h.b.cells3.2.1, h.b.cells3.2.2, h.b.lt, Lib.hid h⟩

/-- What is wrong with two values, of which numbers are asked. -/
def numErr (T U : V) : Int := if rightB T && rightB U then (if kindsB 2 [T, U] then 0 else 41) else 40
/-- How combine ends. -/
def CPost (w : World) (err : Int) (v : Value) (e : Ending) (w' : World) : Prop := ((err = 0 ∧ e = .returned v) ∨ (err ≠ 0 ∧ e = .panicked (bad err))) ∧ Below w.heap.size w w'

set_option maxRecDepth 100000 in
set_option maxHeartbeats 3200000 in
theorem combine_add {hi : Nat} {u v : Value} {T U : V} (w : World) (h : In w 0 hi u T) (h' : In w 0 hi v U) (hh : hi ≤ w.heap.size) :
    Calls Try.prog 126 #[u, v, .func (.func 127) #[] #[]] w (CPost w (numErr T U) (.int .i64 (wrap64 (T.n + U.n)))) := by
  obtain ⟨A, ca, rfl, _, _, _⟩ := h.val
  obtain ⟨B, cb, rfl, _, _, _⟩ := h'.val
  have hT2 := TB.new w (.int .i64 T.k) (.int .i64 T.n) (.slice A T.l.length ca) (.int .i64 U.k) (.int .i64 U.n) (.slice B U.l.length cb)
  have hd := (demand2_ok _ (Ls.pair (W := (w.alloc (.cells #[.int .i64 T.k, .int .i64 T.n, .slice A T.l.length ca] 36)).alloc (.cells #[.int .i64 U.k, .int .i64 U.n, .slice B U.l.length cb] 36)) (by simp; omega) 36 (h.after ((below2 w _ _).mono hh)) (h'.after ((below2 w _ _).mono hh))) (by simp)).mono
    (R' := fun e w' => ((rightB T && rightB U) = true ∧ e = .returned (.tuple #[]) ∨ (rightB T && rightB U) = false ∧ e = .panicked badVal) ∧ TF w (.int .i64 T.k) (.int .i64 T.n) (.slice A T.l.length ca) (.int .i64 U.k) (.int .i64 U.n) (.slice B U.l.length cb) w')
    (fun e w' q => ⟨q.1, ((hT2.alloc _).below q.2).facts⟩)
  have hk : ∀ w1, Hid (TB w (.int .i64 T.k) (.int .i64 T.n) (.slice A T.l.length ca) (.int .i64 U.k) (.int .i64 U.n) (.slice B U.l.length cb) w1) → Calls Try.prog 139 #[.int .i64 2, .slice (some ⟨w1.heap.size, 0, none⟩) 2 2] (w1.alloc (.cells #[.int .i64 T.k, .int .i64 T.n, .slice A T.l.length ca, .int .i64 U.k, .int .i64 U.n, .slice B U.l.length cb] 36))
      fun e w' => (kindsB 2 [T, U] = true ∧ e = .returned (.tuple #[]) ∨ kindsB 2 [T, U] = false ∧ e = .panicked (bad 41)) ∧ TF w (.int .i64 T.k) (.int .i64 T.n) (.slice A T.l.length ca) (.int .i64 U.k) (.int .i64 U.n) (.slice B U.l.length cb) w' := fun w1 h1 =>
    (demandKind_ok 2 _ (Ls.pair (Nat.le_trans hh h1.out.bl.size) 36 (h.after (h1.out.bl.mono hh)) (h'.after (h1.out.bl.mono hh))) (by simp)).mono fun e w' q => ⟨q.1, ((h1.out.alloc _).below q.2).facts⟩
  have HK := Lib.hid hk
  have hc := add2_ok
  clear h h' hk hT2
  simp only [World.size_alloc] at hd
  unfold numErr
  generalize hR : (rightB T && rightB U) = ok at hd ⊢
  go_enter Try.func126, Try.ntmps126
  go_wp2_with (first | (go_at_call 122; refine hd.mono ?_; rintro e w1 ⟨(⟨rfl, rfl⟩ | ⟨rfl, rfl⟩), ⟨a0, a1, a2, b0, b1, b2, lt, hT⟩⟩) | (go_at_call 139; refine (HK.out _ hT).mono ?_; rintro e w2 ⟨(⟨hq, rfl⟩ | ⟨hq, rfl⟩), ⟨d0, d1, d2, e0, e1, e2, lt2, hT2⟩⟩) | (go_at_call 127; refine (hc _ _ _).mono ?_; rintro e w3 ⟨rfl, rfl⟩))
  · go_ret
    exact ⟨.inl ⟨rfl, rfl⟩, hT2.out.bl⟩
  · exact ⟨rfl, .inr ⟨by decide, rfl⟩, hT2.out.bl⟩
  · exact ⟨rfl, .inr ⟨by decide, rfl⟩, hT.out.bl⟩

set_option maxRecDepth 100000 in
set_option maxHeartbeats 3200000 in
theorem combine_sub {hi : Nat} {u v : Value} {T U : V} (w : World) (h : In w 0 hi u T) (h' : In w 0 hi v U) (hh : hi ≤ w.heap.size) :
    Calls Try.prog 126 #[u, v, .func (.func 129) #[] #[]] w (CPost w (numErr T U) (.int .i64 (wrap64 (T.n - U.n)))) := by
  obtain ⟨A, ca, rfl, _, _, _⟩ := h.val
  obtain ⟨B, cb, rfl, _, _, _⟩ := h'.val
  have hT2 := TB.new w (.int .i64 T.k) (.int .i64 T.n) (.slice A T.l.length ca) (.int .i64 U.k) (.int .i64 U.n) (.slice B U.l.length cb)
  have hd := (demand2_ok _ (Ls.pair (W := (w.alloc (.cells #[.int .i64 T.k, .int .i64 T.n, .slice A T.l.length ca] 36)).alloc (.cells #[.int .i64 U.k, .int .i64 U.n, .slice B U.l.length cb] 36)) (by simp; omega) 36 (h.after ((below2 w _ _).mono hh)) (h'.after ((below2 w _ _).mono hh))) (by simp)).mono
    (R' := fun e w' => ((rightB T && rightB U) = true ∧ e = .returned (.tuple #[]) ∨ (rightB T && rightB U) = false ∧ e = .panicked badVal) ∧ TF w (.int .i64 T.k) (.int .i64 T.n) (.slice A T.l.length ca) (.int .i64 U.k) (.int .i64 U.n) (.slice B U.l.length cb) w')
    (fun e w' q => ⟨q.1, ((hT2.alloc _).below q.2).facts⟩)
  have hk : ∀ w1, Hid (TB w (.int .i64 T.k) (.int .i64 T.n) (.slice A T.l.length ca) (.int .i64 U.k) (.int .i64 U.n) (.slice B U.l.length cb) w1) → Calls Try.prog 139 #[.int .i64 2, .slice (some ⟨w1.heap.size, 0, none⟩) 2 2] (w1.alloc (.cells #[.int .i64 T.k, .int .i64 T.n, .slice A T.l.length ca, .int .i64 U.k, .int .i64 U.n, .slice B U.l.length cb] 36))
      fun e w' => (kindsB 2 [T, U] = true ∧ e = .returned (.tuple #[]) ∨ kindsB 2 [T, U] = false ∧ e = .panicked (bad 41)) ∧ TF w (.int .i64 T.k) (.int .i64 T.n) (.slice A T.l.length ca) (.int .i64 U.k) (.int .i64 U.n) (.slice B U.l.length cb) w' := fun w1 h1 =>
    (demandKind_ok 2 _ (Ls.pair (Nat.le_trans hh h1.out.bl.size) 36 (h.after (h1.out.bl.mono hh)) (h'.after (h1.out.bl.mono hh))) (by simp)).mono fun e w' q => ⟨q.1, ((h1.out.alloc _).below q.2).facts⟩
  have HK := Lib.hid hk
  have hc := sub2_ok
  clear h h' hk hT2
  simp only [World.size_alloc] at hd
  unfold numErr
  generalize hR : (rightB T && rightB U) = ok at hd ⊢
  go_enter Try.func126, Try.ntmps126
  go_wp2_with (first | (go_at_call 122; refine hd.mono ?_; rintro e w1 ⟨(⟨rfl, rfl⟩ | ⟨rfl, rfl⟩), ⟨a0, a1, a2, b0, b1, b2, lt, hT⟩⟩) | (go_at_call 139; refine (HK.out _ hT).mono ?_; rintro e w2 ⟨(⟨hq, rfl⟩ | ⟨hq, rfl⟩), ⟨d0, d1, d2, e0, e1, e2, lt2, hT2⟩⟩) | (go_at_call 129; refine (hc _ _ _).mono ?_; rintro e w3 ⟨rfl, rfl⟩))
  · go_ret
    exact ⟨.inl ⟨rfl, rfl⟩, hT2.out.bl⟩
  · exact ⟨rfl, .inr ⟨by decide, rfl⟩, hT2.out.bl⟩
  · exact ⟨rfl, .inr ⟨by decide, rfl⟩, hT.out.bl⟩

set_option maxRecDepth 100000 in
set_option maxHeartbeats 3200000 in
theorem combine_less {hi : Nat} {u v : Value} {T U : V} (w : World) (h : In w 0 hi u T) (h' : In w 0 hi v U) (hh : hi ≤ w.heap.size) :
    Calls Try.prog 132 #[u, v, .func (.func 133) #[] #[]] w (CPost w (numErr T U) (.bool (decide (T.n < U.n)))) := by
  obtain ⟨A, ca, rfl, _, _, _⟩ := h.val
  obtain ⟨B, cb, rfl, _, _, _⟩ := h'.val
  have hT2 := TB.new w (.int .i64 T.k) (.int .i64 T.n) (.slice A T.l.length ca) (.int .i64 U.k) (.int .i64 U.n) (.slice B U.l.length cb)
  have hd := (demand2_ok _ (Ls.pair (W := (w.alloc (.cells #[.int .i64 T.k, .int .i64 T.n, .slice A T.l.length ca] 36)).alloc (.cells #[.int .i64 U.k, .int .i64 U.n, .slice B U.l.length cb] 36)) (by simp; omega) 36 (h.after ((below2 w _ _).mono hh)) (h'.after ((below2 w _ _).mono hh))) (by simp)).mono
    (R' := fun e w' => ((rightB T && rightB U) = true ∧ e = .returned (.tuple #[]) ∨ (rightB T && rightB U) = false ∧ e = .panicked badVal) ∧ TF w (.int .i64 T.k) (.int .i64 T.n) (.slice A T.l.length ca) (.int .i64 U.k) (.int .i64 U.n) (.slice B U.l.length cb) w')
    (fun e w' q => ⟨q.1, ((hT2.alloc _).below q.2).facts⟩)
  have hk : ∀ w1, Hid (TB w (.int .i64 T.k) (.int .i64 T.n) (.slice A T.l.length ca) (.int .i64 U.k) (.int .i64 U.n) (.slice B U.l.length cb) w1) → Calls Try.prog 139 #[.int .i64 2, .slice (some ⟨w1.heap.size, 0, none⟩) 2 2] (w1.alloc (.cells #[.int .i64 T.k, .int .i64 T.n, .slice A T.l.length ca, .int .i64 U.k, .int .i64 U.n, .slice B U.l.length cb] 36))
      fun e w' => (kindsB 2 [T, U] = true ∧ e = .returned (.tuple #[]) ∨ kindsB 2 [T, U] = false ∧ e = .panicked (bad 41)) ∧ TF w (.int .i64 T.k) (.int .i64 T.n) (.slice A T.l.length ca) (.int .i64 U.k) (.int .i64 U.n) (.slice B U.l.length cb) w' := fun w1 h1 =>
    (demandKind_ok 2 _ (Ls.pair (Nat.le_trans hh h1.out.bl.size) 36 (h.after (h1.out.bl.mono hh)) (h'.after (h1.out.bl.mono hh))) (by simp)).mono fun e w' q => ⟨q.1, ((h1.out.alloc _).below q.2).facts⟩
  have HK := Lib.hid hk
  have hc := less2_ok
  clear h h' hk hT2
  simp only [World.size_alloc] at hd
  unfold numErr
  generalize hR : (rightB T && rightB U) = ok at hd ⊢
  go_enter Try.func132, Try.ntmps132
  go_wp2_with (first | (go_at_call 122; refine hd.mono ?_; rintro e w1 ⟨(⟨rfl, rfl⟩ | ⟨rfl, rfl⟩), ⟨a0, a1, a2, b0, b1, b2, lt, hT⟩⟩) | (go_at_call 139; refine (HK.out _ hT).mono ?_; rintro e w2 ⟨(⟨hq, rfl⟩ | ⟨hq, rfl⟩), ⟨d0, d1, d2, e0, e1, e2, lt2, hT2⟩⟩) | (go_at_call 133; refine (hc _ _ _).mono ?_; rintro e w3 ⟨rfl, rfl⟩))
  · go_ret
    exact ⟨.inl ⟨rfl, rfl⟩, hT2.out.bl⟩
  · exact ⟨rfl, .inr ⟨by decide, rfl⟩, hT2.out.bl⟩
  · exact ⟨rfl, .inr ⟨by decide, rfl⟩, hT.out.bl⟩
end Go.Proofs.Ytmfcecfcfihgaaa
