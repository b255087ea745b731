/- The document's own Eq, First, Second, Truth. -/
import Derived.Test.YthfmbeecpjeegaaEc
import Derived.Test.YthfmbeecpjeegaaNc
namespace Go.Proofs.Ythfmbeecpjeegaa
open Go.RowKit Go.Shelf
attribute [local go_sem] Oper.semAt_some

theorem same_right {T U : V} (h : rightB T = true) (h' : rightB U = true) : V.same T U = sameB T U := by
  unfold sameB
  have h1 := (right_root h).1
  have h2 := (right_root h').1
  simp [h1, h2]


set_option maxRecDepth 100000 in
set_option maxHeartbeats 3200000 in
theorem rEq_ok {hi : Nat} {u v : Value} {T U : V} (w : World) (h : In w 0 hi u T) (h' : In w 0 hi v U) (hh : hi ≤ w.heap.size) (hT : T.size ≤ 1000000000000) (hU : U.size ≤ 1000000000000) :
    Calls Try.prog 50 #[u, v] w (MadeR w (eqV T U).1 (eqV T U).2) := by
  obtain ⟨A, ca, rfl, _, _, _⟩ := h.val
  obtain ⟨B, cb, rfl, _, _, _⟩ := h'.val
  have hb := (TB.new w (.int .i64 T.k) (.int .i64 T.n) (.slice A T.l.length ca) (.int .i64 U.k) (.int .i64 U.n) (.slice B U.l.length cb)).alloc (.cells #[.int .i64 0, .int .i64 0, .slice none 0 0] 25)
  have hq0 := Blk.new ((w.alloc (.cells #[.int .i64 T.k, .int .i64 T.n, .slice A T.l.length ca] 25)).alloc (.cells #[.int .i64 U.k, .int .i64 U.n, .slice B U.l.length cb] 25)) 25 #[.int .i64 0, .int .i64 0, .slice none 0 0]
  rw [World.size_alloc, World.size_alloc] at hq0
  have hR1 := (rRight_ok _ (h.after (hb.bl.mono hh)) (Nat.le_trans hh hb.bl.size) hT).mono
    (R' := fun e w' => e = .returned (.bool (rightB T)) ∧ TF w (.int .i64 T.k) (.int .i64 T.n) (.slice A T.l.length ca) (.int .i64 U.k) (.int .i64 U.n) (.slice B U.l.length cb) w' ∧ QF (w.heap.size + 1 + 1) w') (fun e w' q => ⟨q.1, (hb.below q.2).facts, (QF.of hq0).below q.2⟩)
  have hR2 : ∀ w1, Hid (TB w (.int .i64 T.k) (.int .i64 T.n) (.slice A T.l.length ca) (.int .i64 U.k) (.int .i64 U.n) (.slice B U.l.length cb) w1) → Hid (Blk w1 (w.heap.size + 1 + 1) 25 #[.int .i64 0, .int .i64 0, .slice none 0 0]) → Calls Try.prog 11 #[.agg #[.int .i64 U.k, .int .i64 U.n, .slice B U.l.length cb]] w1 fun e w' => e = .returned (.bool (rightB U)) ∧ TF w (.int .i64 T.k) (.int .i64 T.n) (.slice A T.l.length ca) (.int .i64 U.k) (.int .i64 U.n) (.slice B U.l.length cb) w' ∧ QF (w.heap.size + 1 + 1) w' := fun w1 g1 g2 =>
    (rRight_ok _ (h'.after (g1.out.bl.mono hh)) (Nat.le_trans hh g1.out.bl.size) hU).mono (fun e w' q => ⟨q.1, (g1.out.below q.2).facts, (QF.of g2.out).below q.2⟩)
  have hS : ∀ w1, Hid (TB w (.int .i64 T.k) (.int .i64 T.n) (.slice A T.l.length ca) (.int .i64 U.k) (.int .i64 U.n) (.slice B U.l.length cb) w1) → Hid (Blk w1 (w.heap.size + 1 + 1) 25 #[.int .i64 0, .int .i64 0, .slice none 0 0]) → Calls Try.prog 65 #[.agg #[.int .i64 T.k, .int .i64 T.n, .slice A T.l.length ca], .agg #[.int .i64 U.k, .int .i64 U.n, .slice B U.l.length cb]] w1 fun e w' => e = .returned (.bool (V.same T U)) ∧ TF w (.int .i64 T.k) (.int .i64 T.n) (.slice A T.l.length ca) (.int .i64 U.k) (.int .i64 U.n) (.slice B U.l.length cb) w' ∧ QF (w.heap.size + 1 + 1) w' := fun w1 g1 g2 =>
    (rsame_ok hi T U _ _ w1 (h.after (g1.out.bl.mono hh)) (h'.after (g1.out.bl.mono hh)) (Nat.le_trans hh g1.out.bl.size)).mono (fun e w' q => ⟨q.1, (g1.out.below q.2).facts, (QF.of g2.out).below q.2⟩)
  have hI : ∀ (w1 : World), Hid (TB w (.int .i64 T.k) (.int .i64 T.n) (.slice A T.l.length ca) (.int .i64 U.k) (.int .i64 U.n) (.slice B U.l.length cb) w1) → Hid (Blk w1 (w.heap.size + 1 + 1) 25 #[.int .i64 0, .int .i64 0, .slice none 0 0]) → ∀ x, Calls Try.prog 86 #[.bool x] w1 fun e w' => e = .returned (.agg #[.int .i64 2, .int .i64 (yesV x), .slice none 0 0]) ∧ TF w (.int .i64 T.k) (.int .i64 T.n) (.slice A T.l.length ca) (.int .i64 U.k) (.int .i64 U.n) (.slice B U.l.length cb) w' ∧ QF (w.heap.size + 1 + 1) w' := fun w1 g1 g2 x =>
    (rTruth1_ok x w1).mono fun e w' q => ⟨q.1, (g1.out.below q.2).facts, (QF.of g2.out).below q.2⟩
  have HR2 := Lib.hid hR2
  have HI := Lib.hid hI
  have HS := Lib.hid hS
  clear hR2 hI hS h h' hb hq0 hT hU
  unfold eqV
  go_enter Try.func50, Try.ntmps50
  cases hr : rightB T
  · rw [hr] at hR1
    simp only [Bool.false_and, Bool.false_eq_true, if_false]
    clear hr
    go_wp2_with (first | (go_at_call 11; (with_reducible refine hR1.mono ?_); rintro e w1 ⟨rfl, ⟨a0, a1, a2, b0, b1, b2, lt, hB⟩, ⟨r0, r1, r2, f0, f1, f2, hq⟩⟩) | (go_at_call 11; (with_reducible refine (HR2.out _ hB hq).mono ?_); rintro e w1 ⟨rfl, ⟨a0, a1, a2, b0, b1, b2, lt, hB⟩, ⟨r0, r1, r2, f0, f1, f2, hq⟩⟩) | (go_at_call 65; (with_reducible refine (HS.out _ hB hq).mono ?_); rintro e w1 ⟨rfl, ⟨a0, a1, a2, b0, b1, b2, lt, hB⟩, ⟨r0, r1, r2, f0, f1, f2, hq⟩⟩) | (go_at_call 86; (with_reducible refine (HI.out _ hB hq _).mono ?_); rintro e w1 ⟨rfl, ⟨a0, a1, a2, b0, b1, b2, lt, hB⟩, ⟨r0, r1, r2, f0, f1, f2, hq⟩⟩))
    obtain ⟨t0, t1, t2, HF⟩ := (QF.mk r0 r1 r2 f0 f1 f2 hq).zero hB.out.bl (by omega)
    simp only [zeroV, V.k, V.n, V.l, List.length_nil] at t0 t1 t2
    exact bodyPost_ret (v := .tuple #[.agg #[.int .i64 0, .int .i64 0, .slice none 0 0], .int .i64 40]) (by simp [results, Try.results50, go_sem, t0, t1, t2]) rfl (HF 40).out
  · rw [hr] at hR1
    cases hu : rightB U
    · rw [hu] at HR2
      simp only [Bool.and_false, Bool.false_eq_true, if_false]
      clear hr hu
      go_wp2_with (first | (go_at_call 11; (with_reducible refine hR1.mono ?_); rintro e w1 ⟨rfl, ⟨a0, a1, a2, b0, b1, b2, lt, hB⟩, ⟨r0, r1, r2, f0, f1, f2, hq⟩⟩) | (go_at_call 11; (with_reducible refine (HR2.out _ hB hq).mono ?_); rintro e w1 ⟨rfl, ⟨a0, a1, a2, b0, b1, b2, lt, hB⟩, ⟨r0, r1, r2, f0, f1, f2, hq⟩⟩) | (go_at_call 65; (with_reducible refine (HS.out _ hB hq).mono ?_); rintro e w1 ⟨rfl, ⟨a0, a1, a2, b0, b1, b2, lt, hB⟩, ⟨r0, r1, r2, f0, f1, f2, hq⟩⟩) | (go_at_call 86; (with_reducible refine (HI.out _ hB hq _).mono ?_); rintro e w1 ⟨rfl, ⟨a0, a1, a2, b0, b1, b2, lt, hB⟩, ⟨r0, r1, r2, f0, f1, f2, hq⟩⟩))
      obtain ⟨t0, t1, t2, HF⟩ := (QF.mk r0 r1 r2 f0 f1 f2 hq).zero hB.out.bl (by omega)
      simp only [zeroV, V.k, V.n, V.l, List.length_nil] at t0 t1 t2
      exact bodyPost_ret (v := .tuple #[.agg #[.int .i64 0, .int .i64 0, .slice none 0 0], .int .i64 40]) (by simp [results, Try.results50, go_sem, t0, t1, t2]) rfl (HF 40).out
    · rw [hu] at HR2
      simp only [Bool.and_self, if_true]
      rw [same_right hr hu] at HS
      clear hr hu
      generalize sameB T U = x at HS ⊢
      go_wp2_with (first | (go_at_call 11; (with_reducible refine hR1.mono ?_); rintro e w1 ⟨rfl, ⟨a0, a1, a2, b0, b1, b2, lt, hB⟩, ⟨r0, r1, r2, f0, f1, f2, hq⟩⟩) | (go_at_call 11; (with_reducible refine (HR2.out _ hB hq).mono ?_); rintro e w1 ⟨rfl, ⟨a0, a1, a2, b0, b1, b2, lt, hB⟩, ⟨r0, r1, r2, f0, f1, f2, hq⟩⟩) | (go_at_call 65; (with_reducible refine (HS.out _ hB hq).mono ?_); rintro e w1 ⟨rfl, ⟨a0, a1, a2, b0, b1, b2, lt, hB⟩, ⟨r0, r1, r2, f0, f1, f2, hq⟩⟩) | (go_at_call 86; (with_reducible refine (HI.out _ hB hq _).mono ?_); rintro e w1 ⟨rfl, ⟨a0, a1, a2, b0, b1, b2, lt, hB⟩, ⟨r0, r1, r2, f0, f1, f2, hq⟩⟩))
      obtain ⟨t0, t1, t2, HF⟩ := (QF.mk r0 r1 r2 f0 f1 f2 hq).leaf (n := yesV x) w64_two (w64_yes _) hB.out.bl (by omega)
      simp only [V.k, V.n, V.l, List.length_nil] at t0 t1 t2
      exact bodyPost_ret (v := .tuple #[.agg #[.int .i64 2, .int .i64 (yesV x), .slice none 0 0], .int .i64 0]) (by simp [results, Try.results50, go_sem, t0, t1, t2]) rfl (HF 0).out


/-- A value that is handed back and lies below hi, with an error. -/
def LowR (w : World) (hi : Nat) (T : V) (err : Int) (e : Ending) (w' : World) : Prop :=
  ∃ S c, e = .returned (.tuple #[.agg #[.int .i64 T.k, .int .i64 T.n, .slice S T.l.length c], .int .i64 err]) ∧ In w' 0 hi (.agg #[.int .i64 T.k, .int .i64 T.n, .slice S T.l.length c]) T ∧ Below w.heap.size w w'
theorem low_put {w W : World} {q hi : Nat} {T : V} {S : Option Addr} {c : Nat} (h : Blk W q 25 #[.int .i64 0, .int .i64 0, .slice none 0 0]) (hin : In W 0 hi (.agg #[.int .i64 T.k, .int .i64 T.n, .slice S T.l.length c]) T) (hh : hi ≤ q) (hb : Below w.heap.size w W) (hq : w.heap.size ≤ q) (err : Int) :
    Hid (LowR w hi T err (.returned (.tuple #[.agg #[.int .i64 T.k, .int .i64 T.n, .slice S T.l.length c], .int .i64 err])) (((W.setCell ⟨q, 0, none⟩ (.int .i64 T.k)).setCell ⟨q, 1, none⟩ (.int .i64 T.n)).setCell ⟨q, 2, none⟩ (.slice S T.l.length c))) := by
  have hlt := h.lt
  have hk : Keep (fun j => j = q) W (((W.setCell ⟨q, 0, none⟩ (.int .i64 T.k)).setCell ⟨q, 1, none⟩ (.int .i64 T.n)).setCell ⟨q, 2, none⟩ (.slice S T.l.length c)) := keep_set3 (F := fun j => j = q) (Keep.refl _ W) rfl _ _ _
  exact Lib.hid ⟨S, c, rfl, hin.keep fun b _ hlt' => hk.block b (by omega) (by omega), hb.trans (hk.below (fun k e => by omega) hb.size)⟩
def halfV (i : Nat) (T : V) : V × Int := if halfErr T = 0 then ((T.l[i]?).getD zeroV, 0) else (zeroV, halfErr T)
set_option maxRecDepth 100000 in
set_option maxHeartbeats 3200000 in
theorem rHalf_ok {hi : Nat} {u : Value} {T : V} (i : Nat) (hi2 : i < 2) (w : World) (h : In w 0 hi u T) (hh : hi ≤ w.heap.size) (hT : T.size ≤ 1000000000000) :
    Calls Try.prog 87 #[u, .int .i64 (i : Int)] w (LowR w hi (halfV i T).1 (halfV i T).2) := by
  obtain ⟨A, ca, rfl, hc1, _, hls⟩ := h.val
  have hb := (BF.new w (.int .i64 T.k) (.int .i64 T.n) (.slice A T.l.length ca)).below ((Below.refl _ _).alloc (Nat.le_refl _) (.cells #[.int .i64 0, .int .i64 0, .slice none 0 0] 25))
  have hq0 := Blk.new (w.alloc (.cells #[.int .i64 T.k, .int .i64 T.n, .slice A T.l.length ca] 25)) 25 #[.int .i64 0, .int .i64 0, .slice none 0 0]
  rw [World.size_alloc] at hq0
  have hR := (rRight_ok _ (h.after (hb.bl.mono hh)) (Nat.le_trans hh hb.bl.size) hT).mono
    (R' := fun e w' => e = .returned (.bool (rightB T)) ∧ BF w (.int .i64 T.k) (.int .i64 T.n) (.slice A T.l.length ca) w' ∧ QF (w.heap.size + 1) w') (fun e w' q => ⟨q.1, hb.below q.2, (QF.of hq0).below q.2⟩)
  have HL := Lib.hid hls
  clear h hls hb hq0 hT
  have hi0 : (0 : Int) ≤ (i : Int) := by omega
  unfold halfV halfErr
  by_cases hgood : rightB T = true ∧ T.k = 3
  · have hl2 := right_pair hgood.1 hgood.2
    obtain ⟨x, hx⟩ : ∃ x, T.l[i]? = some x := ⟨_, List.getElem?_eq_getElem (by omega)⟩
    obtain ⟨b, o, s, rfl, hbb, hbh, _, q0, q1, q2, hix⟩ := HL.out.at_ hx
    obtain ⟨X, cx, rfl, _, _, _⟩ := hix.slice
    have hlI : (i : Int) < 2 := by omega
    have hkB : (T.k == 3) = true := by simp [hgood.2]
    have hkN : (T.k != 3) = false := by simp [hgood.2]
    have hel : ∀ w1, Hid (Blk w1 w.heap.size 25 #[.int .i64 T.k, .int .i64 T.n, .slice (some ⟨b, o, none⟩) T.l.length ca] ∧ Below w.heap.size w w1) → b < w1.heap.size ∧ w1.cell? ⟨b, o + i * 3, none⟩ = some (.int .i64 x.k) ∧ w1.cell? ⟨b, o + i * 3 + 1, none⟩ = some (.int .i64 x.n) ∧ w1.cell? ⟨b, o + i * 3 + 2, none⟩ = some (.slice X x.l.length cx) ∧ Hid (In w1 0 hi (.agg #[.int .i64 x.k, .int .i64 x.n, .slice X x.l.length cx]) x) := fun w1 h1 => by
      have hb1 := h1.out.2
      exact ⟨Nat.lt_of_lt_of_le hbb hb1.size, (cell_same (p := ⟨b, o + i * 3, none⟩) (hb1.block b hbb)).trans q0, (cell_same (p := ⟨b, o + i * 3 + 1, none⟩) (hb1.block b hbb)).trans q1, (cell_same (p := ⟨b, o + i * 3 + 2, none⟩) (hb1.block b hbb)).trans q2, Lib.hid (hix.after (hb1.mono hh))⟩
    have HE := Lib.hid hel
    rw [hgood.1] at hR ⊢
    rw [hkB, hx]
    have hl2' : T.l.length = 2 := hl2
    simp only [hl2'] at *
    simp only [if_true, Option.getD_some]
    clear hel hgood hkB hix q0 q1 q2 hx hl2 hl2' HL
    go_enter Try.func87, Try.ntmps87
    go_wp2_with (go_at_call 11; refine hR.mono ?_; rintro e w1 ⟨rfl, ⟨a0, a1, a2, lt, hB⟩, ⟨r0, r1, r2, f0, f1, f2, hq⟩⟩; obtain ⟨hbw, l0, l1, l2, hin⟩ := HE.out _ hB)
    obtain ⟨t0, t1, t2, HF⟩ := (QF.mk r0 r1 r2 f0 f1 f2 hq).put hin.out (Nat.le_trans hh (Nat.le_succ _)) hB.out.2 (Nat.le_succ _)
    exact bodyPost_ret (v := .tuple #[.agg #[.int .i64 x.k, .int .i64 x.n, .slice X x.l.length cx], .int .i64 0]) (by simp [results, Try.results87, go_sem, t0, t1, t2]) rfl (low_put hq.out hin.out (Nat.le_trans hh (Nat.le_succ _)) hB.out.2 (Nat.le_succ _) 0).out
  · by_cases hr : rightB T = true
    · have hkB : (T.k == 3) = false := by
        simp
        exact fun hk => hgood ⟨hr, hk⟩
      have hkN : (T.k != 3) = true := by
        simp
        exact fun hk => hgood ⟨hr, hk⟩
      rw [hr] at hR ⊢
      rw [hkB]
      simp only [if_true, Bool.false_eq_true, if_false, show ¬ (41 : Int) = 0 from by decide]
      clear hgood hkB hr HL
      go_enter Try.func87, Try.ntmps87
      go_wp2_with (go_at_call 11; refine hR.mono ?_; rintro e w1 ⟨rfl, ⟨a0, a1, a2, lt, hB⟩, ⟨r0, r1, r2, f0, f1, f2, hq⟩⟩)
      obtain ⟨t0, t1, t2, HF⟩ := (QF.mk r0 r1 r2 f0 f1 f2 hq).zero hB.out.2 (by omega)
      simp only [zeroV, V.k, V.n, V.l, List.length_nil] at t0 t1 t2
      exact bodyPost_ret (v := .tuple #[.agg #[.int .i64 0, .int .i64 0, .slice none 0 0], .int .i64 41]) (by simp [results, Try.results87, go_sem, t0, t1, t2]) rfl (low_put (T := zeroV) (S := none) (c := 0) hq.out (zero_in _ _ hi) (Nat.le_trans hh (Nat.le_succ _)) hB.out.2 (Nat.le_succ _) 41).out
    · have hr' : rightB T = false := by simpa using hr
      rw [hr'] at hR ⊢
      simp only [Bool.false_eq_true, if_false, show ¬ (40 : Int) = 0 from by decide]
      clear hgood hr hr' HL
      go_enter Try.func87, Try.ntmps87
      go_wp2_with (go_at_call 11; refine hR.mono ?_; rintro e w1 ⟨rfl, ⟨a0, a1, a2, lt, hB⟩, ⟨r0, r1, r2, f0, f1, f2, hq⟩⟩)
      obtain ⟨t0, t1, t2, HF⟩ := (QF.mk r0 r1 r2 f0 f1 f2 hq).zero hB.out.2 (by omega)
      simp only [zeroV, V.k, V.n, V.l, List.length_nil] at t0 t1 t2
      exact bodyPost_ret (v := .tuple #[.agg #[.int .i64 0, .int .i64 0, .slice none 0 0], .int .i64 40]) (by simp [results, Try.results87, go_sem, t0, t1, t2]) rfl (low_put (T := zeroV) (S := none) (c := 0) hq.out (zero_in _ _ hi) (Nat.le_trans hh (Nat.le_succ _)) hB.out.2 (Nat.le_succ _) 40).out

/-- What comes back is put into a cell. -/
structure QR (w : World) (q : Nat) (T : V) (S : Option Addr) (c : Nat) (W : World) : Prop where
  r0 : W.cell? ⟨q, 0, none⟩ = some (.int .i64 0)
  r1 : W.cell? ⟨q, 1, none⟩ = some (.int .i64 0)
  r2 : W.cell? ⟨q, 2, none⟩ = some (.slice none 0 0)
  f0 : W.frozen? ⟨q, 0, none⟩ = false
  f1 : W.frozen? ⟨q, 1, none⟩ = false
  f2 : W.frozen? ⟨q, 2, none⟩ = false
  e : Hid (QE w q T S c W)


set_option maxRecDepth 100000 in
set_option maxHeartbeats 3200000 in
theorem rFirst_ok {hi : Nat} {u : Value} {T : V} (w : World) (h : In w 0 hi u T) (hh : hi ≤ w.heap.size) (hT : T.size ≤ 1000000000000) :
    Calls Try.prog 52 #[u] w (MadeR w (halfV 0 T).1 (halfV 0 T).2) := by
  obtain ⟨A, ca, rfl, _, _, _⟩ := h.val
  have hq0 := Blk.new (w.alloc (.cells #[.int .i64 T.k, .int .i64 T.n, .slice A T.l.length ca] 25)) 25 #[.int .i64 0, .int .i64 0, .slice none 0 0]
  rw [World.size_alloc] at hq0
  have hb2 := below2 w (.cells #[.int .i64 T.k, .int .i64 T.n, .slice A T.l.length ca] 25) (.cells #[.int .i64 0, .int .i64 0, .slice none 0 0] 25)
  have hc : Calls Try.prog 87 #[.agg #[.int .i64 T.k, .int .i64 T.n, .slice A T.l.length ca], .int .i64 0] ((w.alloc (.cells #[.int .i64 T.k, .int .i64 T.n, .slice A T.l.length ca] 25)).alloc (.cells #[.int .i64 0, .int .i64 0, .slice none 0 0] 25)) fun e w' => ∃ S c, e = .returned (.tuple #[.agg #[.int .i64 (halfV 0 T).1.k, .int .i64 (halfV 0 T).1.n, .slice S (halfV 0 T).1.l.length c], .int .i64 (halfV 0 T).2]) ∧ QF (w.heap.size + 1) w' ∧ Hid (Below w.heap.size w w' ∧ In w' 0 w.heap.size (.agg #[.int .i64 (halfV 0 T).1.k, .int .i64 (halfV 0 T).1.n, .slice S (halfV 0 T).1.l.length c]) (halfV 0 T).1) :=
    (rHalf_ok 0 (by omega) _ ((h.after (hb2.mono hh)).mono (Nat.le_refl _) hh) hb2.size hT).mono (fun e w' q => by
      obtain ⟨S, c, rfl, hi', hbb⟩ := q
      exact ⟨S, c, rfl, (QF.of hq0).below hbb, Lib.hid ⟨hb2.trans (hbb.mono hb2.size), hi'⟩⟩)
  clear h hq0 hT hb2
  generalize halfV 0 T = p at hc ⊢
  obtain ⟨Y, err⟩ := p
  simp only at hc ⊢
  go_enter Try.func52, Try.ntmps52
  go_wp2_with (go_at_call 87; refine hc.mono ?_; rintro e w1 ⟨S, c, rfl, ⟨r0, r1, r2, f0, f1, f2, hq⟩, hin⟩)
  obtain ⟨t0, t1, t2, HF⟩ := (QF.mk r0 r1 r2 f0 f1 f2 hq).put hin.out.2 (Nat.le_succ _) hin.out.1 (Nat.le_succ _)
  exact bodyPost_ret (v := .tuple #[.agg #[.int .i64 Y.k, .int .i64 Y.n, .slice S Y.l.length c], .int .i64 err]) (by simp [results, Try.results52, go_sem, t0, t1, t2]) rfl (HF err).out


set_option maxRecDepth 100000 in
set_option maxHeartbeats 3200000 in
theorem rSecond_ok {hi : Nat} {u : Value} {T : V} (w : World) (h : In w 0 hi u T) (hh : hi ≤ w.heap.size) (hT : T.size ≤ 1000000000000) :
    Calls Try.prog 53 #[u] w (MadeR w (halfV 1 T).1 (halfV 1 T).2) := by
  obtain ⟨A, ca, rfl, _, _, _⟩ := h.val
  have hq0 := Blk.new (w.alloc (.cells #[.int .i64 T.k, .int .i64 T.n, .slice A T.l.length ca] 25)) 25 #[.int .i64 0, .int .i64 0, .slice none 0 0]
  rw [World.size_alloc] at hq0
  have hb2 := below2 w (.cells #[.int .i64 T.k, .int .i64 T.n, .slice A T.l.length ca] 25) (.cells #[.int .i64 0, .int .i64 0, .slice none 0 0] 25)
  have hc : Calls Try.prog 87 #[.agg #[.int .i64 T.k, .int .i64 T.n, .slice A T.l.length ca], .int .i64 1] ((w.alloc (.cells #[.int .i64 T.k, .int .i64 T.n, .slice A T.l.length ca] 25)).alloc (.cells #[.int .i64 0, .int .i64 0, .slice none 0 0] 25)) fun e w' => ∃ S c, e = .returned (.tuple #[.agg #[.int .i64 (halfV 1 T).1.k, .int .i64 (halfV 1 T).1.n, .slice S (halfV 1 T).1.l.length c], .int .i64 (halfV 1 T).2]) ∧ QF (w.heap.size + 1) w' ∧ Hid (Below w.heap.size w w' ∧ In w' 0 w.heap.size (.agg #[.int .i64 (halfV 1 T).1.k, .int .i64 (halfV 1 T).1.n, .slice S (halfV 1 T).1.l.length c]) (halfV 1 T).1) :=
    (rHalf_ok 1 (by omega) _ ((h.after (hb2.mono hh)).mono (Nat.le_refl _) hh) hb2.size hT).mono (fun e w' q => by
      obtain ⟨S, c, rfl, hi', hbb⟩ := q
      exact ⟨S, c, rfl, (QF.of hq0).below hbb, Lib.hid ⟨hb2.trans (hbb.mono hb2.size), hi'⟩⟩)
  clear h hq0 hT hb2
  generalize halfV 1 T = p at hc ⊢
  obtain ⟨Y, err⟩ := p
  simp only at hc ⊢
  go_enter Try.func53, Try.ntmps53
  go_wp2_with (go_at_call 87; refine hc.mono ?_; rintro e w1 ⟨S, c, rfl, ⟨r0, r1, r2, f0, f1, f2, hq⟩, hin⟩)
  obtain ⟨t0, t1, t2, HF⟩ := (QF.mk r0 r1 r2 f0 f1 f2 hq).put hin.out.2 (Nat.le_succ _) hin.out.1 (Nat.le_succ _)
  exact bodyPost_ret (v := .tuple #[.agg #[.int .i64 Y.k, .int .i64 Y.n, .slice S Y.l.length c], .int .i64 err]) (by simp [results, Try.results53, go_sem, t0, t1, t2]) rfl (HF err).out


set_option maxRecDepth 100000 in
set_option maxHeartbeats 3200000 in
theorem rTruth_ok {hi : Nat} {u : Value} {T : V} (w : World) (h : In w 0 hi u T) (hh : hi ≤ w.heap.size) (hT : T.size ≤ 1000000000000) :
    Calls Try.prog 54 #[u] w fun e w' => e = .returned (.tuple #[.bool (truthB T), .int .i64 (truthErr T)]) ∧ Below w.heap.size w w' := by
  obtain ⟨A, ca, rfl, _, _, _⟩ := h.val
  have hb := BF.new w (.int .i64 T.k) (.int .i64 T.n) (.slice A T.l.length ca)
  have h2 := (rTwo_ok _ (h.after (hb.bl.mono hh)) (h.after (hb.bl.mono hh)) (Nat.le_trans hh hb.bl.size) hT hT).mono
    (R' := fun e w' => e = .returned (.int .i64 (numErr T T)) ∧ BF w (.int .i64 T.k) (.int .i64 T.n) (.slice A T.l.length ca) w') (fun e w' q => ⟨q.1, hb.below q.2⟩)
  have hE : numErr T T = truthErr T := by
    unfold numErr truthErr
    rw [kinds_two, Bool.and_self, Bool.and_self]
  rw [hE] at h2
  clear h hb hT hE
  unfold truthB
  generalize truthErr T = err at h2 ⊢
  by_cases he : err = 0
  · subst he
    rw [if_pos rfl]
    go_enter Try.func54, Try.ntmps54
    go_wp2_with (go_at_call 85; refine h2.mono ?_; rintro e w1 ⟨rfl, ⟨a0, a1, a2, lt, hB⟩⟩)
    all_goals
      go_ret2
      exact ⟨rfl, hB.out.2⟩
  · have hne : (err == 0) = false := by simp [he]
    rw [if_neg he]
    clear he
    go_enter Try.func54, Try.ntmps54
    go_wp2_with (go_at_call 85; refine h2.mono ?_; rintro e w1 ⟨rfl, ⟨a0, a1, a2, lt, hB⟩⟩)
    go_ret2
    exact ⟨rfl, hB.out.2⟩

end Go.Proofs.Ythfmbeecpjeegaa
