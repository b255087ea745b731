/- walk: it goes over the parts of a value, each ahead of its own. -/
import Derived.Test.YtmfcecfcfihgaaaVc
import Derived.Test.YtmfcecfcfihgaaaRs
import Derived.Test.YtmfcecfcfihgaaaVw
namespace Go.Proofs.Ytmfcecfcfihgaaa
open Go.RowKit Go.Shelf
attribute [local go_sem] Oper.semAt_some store_nilFunc store_func

/-- What walk yields: a number, and a part with its depth. -/
def encW (w0 : World) (hi : Nat) (_ : World) (i : Nat) (x : Nat × V) (xa : Array Value) : Prop :=
  ∃ s, xa = #[.int .i64 (i : Int), .agg #[.int .i64 x.2.k, .int .i64 x.2.n, s, .int .i64 (x.1 : Int)]] ∧ In w0 0 hi (.agg #[.int .i64 x.2.k, .int .i64 x.2.n, s]) x.2

/-- The iterator's own cells: yield, the number, visit. -/
structure WS (W : World) (yb nb vb l : Nat) (num : Nat) : Prop where
  y : Blk W yb 168 #[.func (.yield l) #[] #[]]
  n : Blk W nb 3 #[.int .i64 (num : Int)]
  v : Blk W vb 169 #[.func (.func 142) #[] #[.pointer (some ⟨yb, 0, none⟩), .pointer (some ⟨nb, 0, none⟩), .pointer (some ⟨vb, 0, none⟩)]]
theorem WS.ne {W : World} {yb nb vb l num : Nat} (h : WS W yb nb vb l num) : yb ≠ nb ∧ vb ≠ nb ∧ yb ≠ vb := ⟨h.y.ne h.n (by decide), h.v.ne h.n (by decide), h.y.ne h.v (by decide)⟩
theorem WS.keep {W W' : World} {yb nb vb l num : Nat} (h : WS W yb nb vb l num) (hy : W'.heap[yb]? = W.heap[yb]?) (hn : W'.heap[nb]? = W.heap[nb]?) (hv : W'.heap[vb]? = W.heap[vb]?) : WS W' yb nb vb l num :=
  ⟨h.y.keep hy, h.n.keep hn, h.v.keep hv⟩
theorem WS.alloc {W : World} {yb nb vb l num : Nat} (h : WS W yb nb vb l num) (o : Obj) : WS (W.alloc o) yb nb vb l num := ⟨h.y.alloc o, h.n.alloc o, h.v.alloc o⟩
theorem WS.since {W W' : World} {yb nb vb l num B : Nat} (h : WS W yb nb vb l num) (hs : Since B W W') (hy : B ≤ yb) (hn : B ≤ nb) (hv : B ≤ vb) : WS W' yb nb vb l num :=
  h.keep (hs.same _ hy h.y.lt) (hs.same _ hn h.n.lt) (hs.same _ hv h.v.lt)
theorem WS.set {W : World} {yb nb vb l num : Nat} (h : WS W yb nb vb l num) (m : Nat) : WS (W.setCell ⟨nb, 0, none⟩ (.int .i64 (m : Int))) yb nb vb l m :=
  ⟨h.y.far h.ne.1 _, by simpa using h.n.set 0 (.int .i64 (m : Int)), h.v.far h.ne.2.1 _⟩

/-- The blocks from B on lie as they lay, but for the number's. -/
structure KeepN (B nb : Nat) (W W' : World) : Prop where
  size : W.heap.size ≤ W'.heap.size
  same : ∀ k, B ≤ k → k ≠ nb → k < W.heap.size → W'.heap[k]? = W.heap[k]?
theorem KeepN.refl (B nb : Nat) (W : World) : KeepN B nb W W := ⟨Nat.le_refl _, fun _ _ _ _ => rfl⟩
theorem KeepN.trans {B nb : Nat} {X Y Z : World} (h : KeepN B nb X Y) (k : KeepN B nb Y Z) : KeepN B nb X Z :=
  ⟨Nat.le_trans h.size k.size, fun i h1 h2 h3 => (k.same i h1 h2 (Nat.lt_of_lt_of_le h3 h.size)).trans (h.same i h1 h2 h3)⟩
theorem KeepN.alloc {B nb : Nat} {X Y : World} (h : KeepN B nb X Y) (o : Obj) : KeepN B nb X (Y.alloc o) := h.trans ⟨by simp, fun k _ _ hk => Below.heap_alloc _ _ _ hk⟩
theorem KeepN.set {B nb : Nat} {X Y : World} (h : KeepN B nb X Y) (v : Value) : KeepN B nb X (Y.setCell ⟨nb, 0, none⟩ v) := h.trans ⟨by simp [World.setCell], fun k _ hk _ => Below.heap_setCell _ _ _ _ hk⟩
theorem KeepN.of_since {B nb : Nat} {X Y : World} (h : Since B X Y) : KeepN B nb X Y := ⟨h.size, fun k h1 _ h3 => h.same k h1 h3⟩

/-- What a visit goes by. -/
structure Visits (xs : List (Nat × V)) (w0 : World) (hi B yb nb vb l : Nat) (J Jx : List (Nat × V) → World → Prop) (Jp : List PanicEntry → World → Prop) : Prop where
  hJ : OwnB B J
  hS : ∀ pre W, J pre W → Below hi w0 W ∧ pre.length ≤ 1000000
  hY : ∀ pre x rest W1 xa, xs = pre ++ x :: rest → J pre W1 → encW w0 hi W1 pre.length x xa → YieldAt Fence.wide 4 Try.prog l xa W1 fun e W' =>
      (e = .returned (.bool true) ∧ J (pre ++ [x]) W' ∧ Since B W1 W') ∨ (e = .returned (.bool false) ∧ Jx (pre ++ [x]) W' ∧ Since B W1 W') ∨ ∃ ch, e = .panicked ch ∧ Jp ch W'
  y : B ≤ yb
  n : B ≤ nb
  v : B ≤ vb

/-- How a visit ends. -/
def VPost (xs : List (Nat × V)) (B yb nb vb l : Nat) (J Jx : List (Nat × V) → World → Prop) (Jp : List PanicEntry → World → Prop) (W : World) (pre' : List (Nat × V)) (e : Ending) (W' : World) : Prop :=
  (e = .returned (.bool true) ∧ J pre' W' ∧ WS W' yb nb vb l pre'.length ∧ KeepN B nb W W') ∨
  (e = .returned (.bool false) ∧ ∃ p, p <+: xs ∧ Jx p W') ∨ (∃ ch, e = .panicked ch ∧ Jp ch W')
theorem VPost.since {xs : List (Nat × V)} {B yb nb vb l : Nat} {J Jx : List (Nat × V) → World → Prop} {Jp : List PanicEntry → World → Prop} {W0 W : World} {pre' : List (Nat × V)} {e : Ending} {W' : World}
    (h : VPost xs B yb nb vb l J Jx Jp W pre' e W') (hk : KeepN B nb W0 W) : VPost xs B yb nb vb l J Jx Jp W0 pre' e W' := by
  rcases h with ⟨h1, h2, h3, h4⟩ | h | h
  · exact .inl ⟨h1, h2, h3, hk.trans h4⟩
  · exact .inr (.inl h)
  · exact .inr (.inr h)

theorem preL_take {d : Nat} {l : List V} {j : Nat} {x : V} (hx : l[j]? = some x) : V.preL d (l.take (j + 1)) = V.preL d (l.take j) ++ V.pre d x ∧ V.preL d l = V.preL d (l.take j) ++ (V.pre d x ++ V.preL d (l.drop (j + 1))) := by
  obtain ⟨hlt, hge⟩ := List.getElem?_eq_some_iff.1 hx
  have e1 : l.take (j + 1) = l.take j ++ [x] := by rw [List.take_succ_eq_append_getElem hlt, hge]
  have e2 : l = l.take j ++ (x :: l.drop (j + 1)) := by
    conv => lhs; rw [← List.take_append_drop j l]
    rw [List.drop_eq_getElem_cons hlt, hge]
  refine ⟨by rw [e1, V.preL_append]; simp [V.preL], ?_⟩
  conv => lhs; rw [e2]
  rw [V.preL_append]
  simp [V.preL]

/-- What a visit of a list keeps, behind j of its values. -/
structure VInv (W : World) (B yb nb vb l bx : Nat) (J : List (Nat × V) → World → Prop) (pre' : List (Nat × V)) (cs : Array Value) (wr : World) : Prop where
  j : J pre' wr
  ws : WS wr yb nb vb l pre'.length
  bx : Blk wr bx 118 cs
  k : KeepN B nb W wr

set_option maxRecDepth 100000 in
set_option maxHeartbeats 3200000 in
theorem visit_ok {xs : List (Nat × V)} {w0 : World} {hi B yb nb vb l : Nat} {J Jx : List (Nat × V) → World → Prop} {Jp : List PanicEntry → World → Prop} (hV : Visits xs w0 hi B yb nb vb l J Jx Jp) :
    ∀ (T : V) (pre rest : List (Nat × V)) (d : Nat) (s : Value) (W : World), xs = pre ++ (V.pre d T ++ rest) → d ≤ pre.length → J pre W → WS W yb nb vb l pre.length → In w0 0 hi (.agg #[.int .i64 T.k, .int .i64 T.n, s]) T →
      Calls Try.prog 142 #[.agg #[.int .i64 T.k, .int .i64 T.n, s, .int .i64 (d : Int)], .pointer (some ⟨yb, 0, none⟩), .pointer (some ⟨nb, 0, none⟩), .pointer (some ⟨vb, 0, none⟩)] W (VPost xs B yb nb vb l J Jx Jp W (pre ++ V.pre d T)) := by
  intro T
  induction T using V.ind with
  | h k n ls ih =>
    intro pre rest d s W hx hd hJ0 hw hin
    obtain ⟨s', e, _, _, hls⟩ := hin.parts
    simp only [Value.agg.injEq, Array.mk.injEq, List.cons.injEq, and_true, true_and] at e
    subst e
    have hls : Ls w0 0 hi s ls := hls
    obtain ⟨A, c, rfl, hc1, hc2⟩ := hls.form
    unfold maxLen at hc2
    have hpl := (hV.hS _ _ hJ0).2
    have y0 := hw.y.cell 0
    have n0 := hw.n.cell 0
    have v0 := hw.v.cell 0
    have fy := hw.y.frozen 0
    have fn0 := hw.n.frozen 0
    have ylt := hw.y.lt
    have nlt := hw.n.lt
    have vlt := hw.v.lt
    simp at y0 n0 v0
    have hB : B ≤ W.heap.size := Nat.le_of_lt (Nat.lt_of_le_of_lt hV.y ylt)
    obtain ⟨W1, hW1⟩ : ∃ W1, W.alloc (.cells #[.int .i64 k, .int .i64 n, .slice A ls.length c, .int .i64 (d : Int)] 118) = W1 := ⟨_, rfl⟩
    have hJ1 : J pre W1 := by rw [← hW1]; exact hV.hJ _ _ _ hJ0 ((Keep.refl _ W).alloc _)
    have hsplit : xs = pre ++ (d, V.mk k n ls) :: (V.preL (d + 1) ls ++ rest) := by rw [hx]; simp [V.pre]
    obtain ⟨fn, tmps, assign, body, hy, hR⟩ := hV.hY pre (d, V.mk k n ls) _ W1 _ hsplit hJ1 ⟨_, rfl, hin⟩
    have hws1 : WS W1 yb nb vb l pre.length := by rw [← hW1]; exact hw.alloc _
    have hbx1 : Blk W1 W.heap.size 118 #[.int .i64 k, .int .i64 n, .slice A ls.length c, .int .i64 (d : Int)] := by rw [← hW1]; exact Blk.new _ _ _
    have hkn1 : KeepN B nb W W1 := by rw [← hW1]; exact (KeepN.refl _ _ _).alloc _
    rw [← hW1] at hy
    have hR' := hR
    rw [show RoundIn Fence.wide 4 Try.prog l fn tmps assign body W1 = RoundIn Fence.wide 4 Try.prog l fn tmps assign body (W.alloc (.cells #[.int .i64 k, .int .i64 n, .slice A ls.length c, .int .i64 (d : Int)] 118)) from by rw [hW1]] at hR'
    have HI := Lib.hid hin
    have HIH := Lib.hid ih
    have HV := Lib.hid hV
    have HJ := Lib.hid hJ1
    have HW := Lib.hid hW1
    have HX := Lib.hid hsplit
    have HS := Lib.hid hws1
    have HB := Lib.hid hbx1
    have HK := Lib.hid hkn1
    have HL := Lib.hid hls
    clear ih hin hV hJ0 hJ1 hW1 hsplit hx hws1 hbx1 hkn1 hls hw
    simp only [V.k, V.n] at hy ⊢
    go_enter Try.func142, Try.ntmps142
    refine (wpIn_wide (n := 5)).1 ?_
    gi_wp2
    refine hR'.mono ?_
    rintro e W3 (⟨rfl, hJ3, hs3⟩ | ⟨rfl, hJx3, hs3⟩ | ⟨ch, rfl, hp⟩)
    · have hws3 : WS W3 yb nb vb l pre.length := HS.out.since hs3 HV.out.y HV.out.n HV.out.v
      have hbx3 := HB.out.keep (hs3.same _ hB HB.out.lt)
      have hkn3 := HK.out.trans (KeepN.of_since (nb := nb) hs3)
      have n3 := hws3.n.cell 0
      have f3 := hws3.n.frozen 0
      simp at n3
      have x2 := hbx3.cell 2
      simp at x2
      have hne : W.heap.size ≠ nb := by omega
      obtain ⟨W4, hW4⟩ : ∃ W4, W3.setCell ⟨nb, 0, none⟩ (.int .i64 ((pre.length : Int) + 1)) = W4 := ⟨_, rfl⟩
      have hws4 : WS W4 yb nb vb l (pre.length + 1) := by
        rw [← hW4]; simpa using hws3.set (pre.length + 1)
      have hbx4 := hbx3.far (p := ⟨nb, 0, none⟩) hne (.int .i64 ((pre.length : Int) + 1))
      rw [hW4] at hbx4
      have hkn4 := hkn3.set (.int .i64 ((pre.length : Int) + 1))
      rw [hW4] at hkn4
      have hJ4 : J (pre ++ [(d, V.mk k n ls)]) W4 := by
        rw [← hW4]
        exact HV.out.hJ _ _ _ hJ3 ((Keep.refl _ W3).setCell (.inl HV.out.n) _)
      have HS4 := Lib.hid hws4
      have HB4 := Lib.hid hbx4
      have HK4 := Lib.hid hkn4
      have HJ4 := Lib.hid hJ4
      have z2 := hbx4.cell 2
      simp at z2
      clear hws3 hbx3 hkn3 hJ3 hws4 hbx4 hkn4 hJ4 hs3 hy hR hR'
      gi_wp2
      have e0 : V.preL (d + 1) (ls.take 0) = [] := by simp [V.preL]
      gi_loopw [19] (fun p wr => ∃ j : Nat, j ≤ ls.length ∧ p = .int .i64 (j : Int) ∧ VInv W B yb nb vb l W.heap.size J (pre ++ [(d, V.mk k n ls)] ++ V.preL (d + 1) (ls.take j)) #[.int .i64 k, .int .i64 n, .slice A ls.length c, .int .i64 (d : Int)] wr) (fun p _ => ls.length - (intOf p).toNat)
      case atStart =>
        refine ⟨0, Nat.zero_le _, rfl, ?_⟩
        rw [e0, List.append_nil]
        exact ⟨HJ4.out, by simpa using HS4.out, HB4.out, HK4.out⟩
      case round =>
        obtain ⟨j, hj, rfl, hI⟩ := hrel
        have hj0 : (0 : Int) ≤ (j : Int) := by omega
        by_cases hlt : j < ls.length
        · have hltI : (j : Int) < (ls.length : Int) := by omega
          obtain ⟨x, hxj⟩ : ∃ x, ls[j]? = some x := ⟨_, List.getElem?_eq_getElem hlt⟩
          have hSn := HV.out.hS _ _ hI.j
          obtain ⟨b, o, s, rfl, hbl0, hbh, _, q0, q1, q2, hinx⟩ := HL.out.at_ hxj
          obtain ⟨X, cx, rfl⟩ : ∃ X cx, s = .slice X x.l.length cx := by
            obtain ⟨s', e, _, _, h⟩ := hinx.parts
            simp only [Value.agg.injEq, Array.mk.injEq, List.cons.injEq, and_true, true_and] at e
            subst e
            obtain ⟨X, cx, h, _⟩ := h.form
            exact ⟨X, cx, h⟩
          have hbl : b < wr.heap.size := Nat.lt_of_lt_of_le hbl0 hSn.1.size
          have r0 := (cell_same (p := ⟨b, o + j * 3, none⟩) (hSn.1.block b hbh)).trans q0
          have r1 := (cell_same (p := ⟨b, o + j * 3 + 1, none⟩) (hSn.1.block b hbh)).trans q1
          have r2 := (cell_same (p := ⟨b, o + j * 3 + 2, none⟩) (hSn.1.block b hbh)).trans q2
          obtain ⟨p1, p2⟩ := preL_take (d := d + 1) hxj
          have g0 := hI.ws.v.cell 0
          have gx := hI.bx.cell 3
          have glt := hI.ws.v.lt
          have gl2 := hI.bx.lt
          simp at g0 gx
          obtain ⟨W5, hW5⟩ : ∃ W5, wr.alloc (.cells #[.int .i64 x.k, .int .i64 x.n, .slice X x.l.length cx] 36) = W5 := ⟨_, rfl⟩
          have hJ5 : J (pre ++ [(d, V.mk k n ls)] ++ V.preL (d + 1) (ls.take j)) W5 := by
            rw [← hW5]; exact HV.out.hJ _ _ _ hI.j ((Keep.refl _ wr).alloc _)
          have hws5 : WS W5 yb nb vb l (pre ++ [(d, V.mk k n ls)] ++ V.preL (d + 1) (ls.take j)).length := by rw [← hW5]; exact hI.ws.alloc _
          have hk5 : KeepN B nb W W5 := by rw [← hW5]; exact hI.k.alloc _
          have hbx5 := hI.bx.alloc (.cells #[.int .i64 x.k, .int .i64 x.n, .slice X x.l.length cx] 36)
          rw [hW5] at hbx5
          have hcall := HIH.out x (List.mem_of_getElem? hxj) (pre ++ [(d, V.mk k n ls)] ++ V.preL (d + 1) (ls.take j)) (V.preL (d + 1) (ls.drop (j + 1)) ++ rest) (d + 1) _ W5
            (by rw [HX.out, p2]; simp) (by simp; omega) hJ5 hws5 hinx
          have hcall := callsIn_wide (n := 4) |>.2 hcall
          rw [show ((d + 1 : Nat) : Int) = (d : Int) + 1 from by omega, ← hW5, hW5] at hcall
          rw [← hW5] at hcall
          have hdI : (d : Int) ≤ 1000000 := by omega
          have hf92 : Fence.wide.fn 142 := trivial
          have HI5 := Lib.hid (And.intro hI (And.intro hk5 hbx5))
          have HP := Lib.hid (And.intro p1 p2)
          have HW5 := Lib.hid hW5
          have HW4 := Lib.hid hW4
          clear hI hk5 hbx5 p1 p2 hSn hJ5 hws5 hW5 hW4 q0 q1 q2 hinx e0 hxj hbl0 hbh
          gi_wp2_with (gi_at_call 142; refine hcall.mono ?_; rintro e w' (⟨rfl, hJ6, hws6, hk6⟩ | ⟨rfl, p, hp, hx6⟩ | ⟨ch, rfl, hp⟩))
          · have hr : VInv W B yb nb vb l W.heap.size J (pre ++ [(d, V.mk k n ls)] ++ V.preL (d + 1) (ls.take (j + 1))) #[.int .i64 k, .int .i64 n, .slice (some ⟨b, o, none⟩) ls.length c, .int .i64 (d : Int)] w' := by
              rw [HP.out.1, ← List.append_assoc]
              rw [HW5.out] at hk6
              exact ⟨hJ6, hws6, HI5.out.2.2.keep (hk6.same _ hB hne HI5.out.2.2.lt), HI5.out.2.1.trans hk6⟩
            exact ⟨⟨j + 1, by omega, by go_num, hr⟩, by simp [intOf]; omega⟩
          · refine bodyPost_ret (v := .bool false) (by simp [results, Try.results142, go_sem]) rfl ?_
            exact .inr (.inl ⟨rfl, p, hp, hx6⟩)
          · exact ⟨rfl, .inr (.inr ⟨ch, rfl, hp⟩)⟩
        · have hltI : ¬ (j : Int) < (ls.length : Int) := by omega
          have hE : pre ++ [(d, V.mk k n ls)] ++ V.preL (d + 1) (ls.take j) = pre ++ V.pre d (V.mk k n ls) := by
            rw [List.take_of_length_le (by omega)]; simp [V.pre]
          rw [hE] at hI
          have HI5 := Lib.hid hI
          clear hI hE e0
          gi_wp2
          refine bodyPost_ret (v := .bool true) (by simp [results, Try.results142, go_sem]) rfl ?_
          exact .inl ⟨rfl, HI5.out.j, HI5.out.ws, HI5.out.k⟩
    · gi_wp2
      refine bodyPost_ret (v := .bool false) (by simp [results, Try.results142, go_sem]) rfl ?_
      exact .inr (.inl ⟨rfl, _, ⟨_, by rw [List.append_assoc]; exact HX.out.symm⟩, hJx3⟩)
    · gi_wp2
      exact ⟨rfl, .inr (.inr ⟨ch, rfl, hp⟩)⟩
end Go.Proofs.Ytmfcecfcfihgaaa
