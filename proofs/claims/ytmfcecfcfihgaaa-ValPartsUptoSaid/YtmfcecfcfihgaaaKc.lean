/- half, First, Second, Truth. -/
import Derived.Test.YtmfcecfcfihgaaaKb
namespace Go.Proofs.Ytmfcecfcfihgaaa
open Go.RowKit Go.Shelf
attribute [local go_sem] Oper.semAt_some

theorem right_root {T : V} (h : rightB T = true) : T.size ≤ 256 ∧ shapeB T = true := by
  unfold rightB at h
  simp only [Bool.and_eq_true, decide_eq_true_eq, List.all_eq_true] at h
  refine ⟨h.1, ?_⟩
  have := h.2 (0, T) (by cases T; simp [V.pre])
  exact this
theorem right_pair {T : V} (h : rightB T = true) (hk : T.k = 3) : T.l.length = 2 := by
  have h1 := (right_root h).2
  unfold shapeB at h1
  rw [hk] at h1
  simp [shapeOf] at h1
  exact h1.2
theorem size_child {T x : V} {i : Nat} (hx : T.l[i]? = some x) : x.size < T.size := by
  cases T with
  | mk k n l =>
    rw [V.size_mk]
    have hx : l[i]? = some x := hx
    obtain ⟨hlt, hge⟩ := List.getElem?_eq_some_iff.1 hx
    have e : l = l.take i ++ (x :: l.drop (i + 1)) := by
      conv => lhs; rw [← List.take_append_drop i l]
      rw [List.drop_eq_getElem_cons hlt, hge]
    rw [e, V.sizeL_append, V.sizeL_cons]
    omega

/-- A box that holds a value, and a cell for what is handed back. -/
structure HB (w : World) (x y z : Value) (W : World) : Prop where
  a : Blk W w.heap.size 36 #[x, y, z]
  r : Blk W (w.heap.size + 1) 36 #[.int .i64 0, .int .i64 0, .slice none 0 0]
  bl : Below w.heap.size w W
theorem HB.below {w W W' : World} {x y z : Value} (h : HB w x y z W) (hb : Below W.heap.size W W') : HB w x y z W' :=
  ⟨h.a.keep (hb.block _ h.a.lt), h.r.keep (hb.block _ h.r.lt), h.bl.trans (hb.mono h.bl.size)⟩
theorem HB.alloc {w W : World} {x y z : Value} (h : HB w x y z W) (o : Obj) : HB w x y z (W.alloc o) := h.below ((Below.refl _ W).alloc (Nat.le_refl _) o)
theorem HB.new (w : World) (x y z : Value) : HB w x y z ((w.alloc (.cells #[x, y, z] 36)).alloc (.cells #[.int .i64 0, .int .i64 0, .slice none 0 0] 36)) :=
  ⟨(Blk.new w _ _).alloc _, by have := Blk.new (w.alloc (.cells #[x, y, z] 36)) 36 #[.int .i64 0, .int .i64 0, .slice none 0 0]; rwa [World.size_alloc] at this, below2 w _ _⟩
structure HF (w : World) (x y z : Value) (W : World) : Prop where
  a0 : W.cell? ⟨w.heap.size, 0, none⟩ = some x
  a1 : W.cell? ⟨w.heap.size, 1, none⟩ = some y
  a2 : W.cell? ⟨w.heap.size, 2, none⟩ = some z
  r0 : W.cell? ⟨w.heap.size + 1, 0, none⟩ = some (.int .i64 0)
  r1 : W.cell? ⟨w.heap.size + 1, 1, none⟩ = some (.int .i64 0)
  r2 : W.cell? ⟨w.heap.size + 1, 2, none⟩ = some (.slice none 0 0)
  f0 : W.frozen? ⟨w.heap.size + 1, 0, none⟩ = false
  f1 : W.frozen? ⟨w.heap.size + 1, 1, none⟩ = false
  f2 : W.frozen? ⟨w.heap.size + 1, 2, none⟩ = false
  lt : w.heap.size + 1 < W.heap.size
  h : Hid (HB w x y z W)
theorem HB.facts {w W : World} {x y z : Value} (h : HB w x y z W) : HF w x y z W :=
  ⟨h.a.cells3.1, h.a.cells3.2.1, h.a.cells3.2.2, h.r.cells3.1, h.r.cells3.2.1, h.r.cells3.2.2, h.r.frozen _, h.r.frozen _, h.r.frozen _, h.r.lt, Lib.hid h⟩

def halfErr (T : V) : Int := if rightB T then (if T.k == 3 then 0 else 41) else 40
/-- How half ends: with x, or an error. -/
def HPost (w : World) (err : Int) (x : Option V) (e : Ending) (w' : World) : Prop :=
  ((err = 0 ∧ ∃ y, x = some y ∧ ∃ S c, e = .returned (.agg #[.int .i64 y.k, .int .i64 y.n, .slice S y.l.length c]) ∧ In w' w.heap.size w'.heap.size (.agg #[.int .i64 y.k, .int .i64 y.n, .slice S y.l.length c]) y) ∨ (err ≠ 0 ∧ e = .panicked (bad err))) ∧ Below w.heap.size w w'

theorem kinds_one (k : Int) (T : V) : kindsB k [T] = (T.k == k) := by simp [kindsB]

set_option maxRecDepth 100000 in
set_option maxHeartbeats 3200000 in
theorem half_ok {hi : Nat} {u : Value} {T : V} (i : Nat) (hi2 : i < 2) (w : World) (h : In w 0 hi u T) (hh : hi ≤ w.heap.size) :
    Calls Try.prog 137 #[u, .int .i64 (i : Int)] w (HPost w (halfErr T) T.l[i]?) := by
  obtain ⟨A, ca, rfl, hc1, _, hls⟩ := h.val
  have hT2 := HB.new w (.int .i64 T.k) (.int .i64 T.n) (.slice A T.l.length ca)
  have hd := (demand1_ok _ (Ls.one (W := (w.alloc (.cells #[.int .i64 T.k, .int .i64 T.n, .slice A T.l.length ca] 36)).alloc (.cells #[.int .i64 0, .int .i64 0, .slice none 0 0] 36)) (by simp; omega) 36 (h.after ((below2 w _ _).mono hh))) (by simp)).mono
    (R' := fun e w' => (rightB T = true ∧ e = .returned (.tuple #[]) ∨ rightB T = false ∧ e = .panicked badVal) ∧ HF w (.int .i64 T.k) (.int .i64 T.n) (.slice A T.l.length ca) w')
    (fun e w' q => ⟨q.1, ((hT2.alloc _).below q.2).facts⟩)
  have hk : ∀ w1, Hid (HB w (.int .i64 T.k) (.int .i64 T.n) (.slice A T.l.length ca) w1) → Calls Try.prog 139 #[.int .i64 3, .slice (some ⟨w1.heap.size, 0, none⟩) 1 1] (w1.alloc (.cells #[.int .i64 T.k, .int .i64 T.n, .slice A T.l.length ca] 36))
      fun e w' => ((T.k == 3) = true ∧ e = .returned (.tuple #[]) ∨ (T.k == 3) = false ∧ e = .panicked (bad 41)) ∧ HF w (.int .i64 T.k) (.int .i64 T.n) (.slice A T.l.length ca) w' := fun w1 h1 => by
    have := (demandKind_ok 3 _ (Ls.one (Nat.le_trans hh h1.out.bl.size) 36 (h.after (h1.out.bl.mono hh))) (by simp)).mono (R' := fun e w' => (kindsB 3 [T] = true ∧ e = .returned (.tuple #[]) ∨ kindsB 3 [T] = false ∧ e = .panicked (bad 41)) ∧ HF w (.int .i64 T.k) (.int .i64 T.n) (.slice A T.l.length ca) w')
      (fun e w' q => ⟨q.1, ((h1.out.alloc _).below q.2).facts⟩)
    rw [kinds_one] at this
    exact this
  have HK := Lib.hid hk
  have HH := Lib.hid h
  have HL := Lib.hid hls
  clear h hk hT2 hls
  simp only [World.size_alloc] at hd
  have hi0 : (0 : Int) ≤ (i : Int) := by omega
  unfold halfErr
  by_cases hgood : rightB T = true ∧ T.k = 3
  · have hl2 := right_pair hgood.1 hgood.2
    obtain ⟨x, hx⟩ : ∃ x, T.l[i]? = some x := ⟨_, List.getElem?_eq_getElem (by omega)⟩
    have hsx : x.size ≤ 256 := Nat.le_of_lt (Nat.lt_of_lt_of_le (size_child hx) (right_root hgood.1).1)
    obtain ⟨b, o, s, rfl, hb, hbh, _, q0, q1, q2, hix⟩ := HL.out.at_ hx
    obtain ⟨X, cx, rfl, _, _, _⟩ := hix.slice
    have hlI : (i : Int) < 2 := by omega
    have hkB : (T.k == 3) = true := by simp [hgood.2]
    have hcp : ∀ w1, Hid (HB w (.int .i64 T.k) (.int .i64 T.n) (.slice (some ⟨b, o, none⟩) T.l.length ca) w1) → Calls Try.prog 22 #[.agg #[.int .i64 x.k, .int .i64 x.n, .slice X x.l.length cx]] w1
        fun e w' => ∃ S c', e = .returned (.agg #[.int .i64 x.k, .int .i64 x.n, .slice S x.l.length c']) ∧ HF w (.int .i64 T.k) (.int .i64 T.n) (.slice (some ⟨b, o, none⟩) T.l.length ca) w' ∧ Hid (In w' w1.heap.size w'.heap.size (.agg #[.int .i64 x.k, .int .i64 x.n, .slice S x.l.length c']) x ∧ w1.heap.size ≤ w'.heap.size) := fun w1 h1 =>
      (Copy_ok w1 (hix.after (h1.out.bl.mono hh)) (Nat.le_trans hh h1.out.bl.size) hsx).mono fun e w' q => by
        obtain ⟨v', rfl, hv, hbb⟩ := q
        obtain ⟨S, c', rfl, _⟩ := hv.val
        exact ⟨S, c', rfl, (h1.out.below hbb).facts, Lib.hid ⟨hv, hbb.size⟩⟩
    have hel : ∀ w1, Hid (HB w (.int .i64 T.k) (.int .i64 T.n) (.slice (some ⟨b, o, none⟩) T.l.length ca) w1) → b < w1.heap.size ∧ w1.cell? ⟨b, o + i * 3, none⟩ = some (.int .i64 x.k) ∧ w1.cell? ⟨b, o + i * 3 + 1, none⟩ = some (.int .i64 x.n) ∧ w1.cell? ⟨b, o + i * 3 + 2, none⟩ = some (.slice X x.l.length cx) := fun w1 h1 => by
      have hb1 := h1.out.bl
      exact ⟨Nat.lt_of_lt_of_le hb hb1.size, (cell_same (p := ⟨b, o + i * 3, none⟩) (hb1.block b hb)).trans q0, (cell_same (p := ⟨b, o + i * 3 + 1, none⟩) (hb1.block b hb)).trans q1, (cell_same (p := ⟨b, o + i * 3 + 2, none⟩) (hb1.block b hb)).trans q2⟩
    have HCP := Lib.hid hcp
    have HE := Lib.hid hel
    have hr := hgood.1
    rw [hr, hkB, hx]
    rw [hr] at hd
    rw [hkB] at HK
    have hl2' : T.l.length = 2 := hl2
    simp only [hl2'] at *
    clear hcp hel hgood hsx hkB hr hix q0 q1 q2 hx hl2 hl2'
    go_enter Try.func137, Try.ntmps137
    go_wp2_with (first | (go_at_call 122; refine hd.mono ?_; rintro e w1 ⟨(⟨_, rfl⟩ | ⟨hf, rfl⟩), ⟨a0, a1, a2, r0, r1, r2, f0, f1, f2, lt, hT⟩⟩) | (go_at_call 139; refine (HK.out _ hT).mono ?_; rintro e w2 ⟨(⟨_, rfl⟩ | ⟨hf, rfl⟩), ⟨d0, d1, d2, s0, s1, s2, g0, g1, g2, lt2, hT2⟩⟩; obtain ⟨hbw, l0, l1, l2⟩ := HE.out _ hT2) | (go_at_call 22; refine (HCP.out _ hT2).mono ?_; rintro e w3 ⟨S, c', rfl, ⟨x0, x1, x2, t0, t1, t2, y0, y1, y2, lt3, hT3⟩, hv⟩))
    · obtain ⟨k0, k1, k2⟩ := set3_cells t0 t1 t2 (.int .i64 x.k) (.int .i64 x.n) (.slice S x.l.length c')
      refine bodyPost_ret (v := .agg #[.int .i64 x.k, .int .i64 x.n, .slice S x.l.length c']) (by simp [results, Try.results137, go_sem, k0, k1, k2]) rfl ?_
      obtain ⟨e1, e2⟩ := made_end hv.out.1 hT2.out.bl hv.out.2 hT3.out.bl (keep_set3 (q := w.heap.size + 1) (Keep.refl _ w3) ⟨by omega, by omega⟩ (.int .i64 x.k) (.int .i64 x.n) (.slice S x.l.length c'))
      exact ⟨.inl ⟨rfl, x, rfl, S, c', rfl, e1⟩, e2⟩
    · exact absurd hf (by simp)
    · exact absurd hf (by simp)
  · by_cases hr : rightB T = true
    · have hkB : (T.k == 3) = false := by
        simp
        exact fun hk => hgood ⟨hr, hk⟩
      rw [hr, hkB]
      rw [hr] at hd
      rw [hkB] at HK
      clear hgood hkB hr
      go_enter Try.func137, Try.ntmps137
      go_wp2_with (first | (go_at_call 122; refine hd.mono ?_; rintro e w1 ⟨(⟨_, rfl⟩ | ⟨hf, rfl⟩), ⟨a0, a1, a2, r0, r1, r2, f0, f1, f2, lt, hT⟩⟩) | (go_at_call 139; refine (HK.out _ hT).mono ?_; rintro e w2 ⟨(⟨hf, _⟩ | ⟨_, rfl⟩), ⟨d0, d1, d2, s0, s1, s2, g0, g1, g2, lt2, hT2⟩⟩; first | exact absurd hf (by simp) | skip))
      exact ⟨rfl, .inr ⟨by decide, rfl⟩, hT2.out.bl⟩
    · have hr' : rightB T = false := by simpa using hr
      rw [hr']
      rw [hr'] at hd
      clear hgood hr hr'
      go_enter Try.func137, Try.ntmps137
      go_wp2_with (go_at_call 122; refine hd.mono ?_; rintro e w1 ⟨(⟨hf, _⟩ | ⟨_, rfl⟩), ⟨a0, a1, a2, r0, r1, r2, f0, f1, f2, lt, hT⟩⟩; first | exact absurd hf (by simp) | skip)
      exact ⟨rfl, .inr ⟨by decide, rfl⟩, hT.out.bl⟩



/-- What First and Second hand back. -/
def halfV0 (T : V) : V × Int := if halfErr T = 0 then ((T.l[0]?).getD zeroV, 0) else (zeroV, halfErr T)
set_option maxRecDepth 100000 in
set_option maxHeartbeats 3200000 in
theorem First_ok {hi : Nat} {u : Value} {T : V} (w : World) (h : In w 0 hi u T) (hh : hi ≤ w.heap.size) :
    Calls Try.prog 76 #[u] w (MadeP w (halfV0 T).1 (halfV0 T).2) := by
  obtain ⟨A, ca, rfl, _, _, _⟩ := h.val
  have hmf : ∀ (fn : Fn) (first cap : Array Value) (w : World), (Instr.makeFunc fn first cap).run Try.prog w = .ok (.func fn first cap) w := fun _ _ _ _ => rfl
  have hrb := RB.new ((Below.refl _ w).alloc (Nat.le_refl _) (.cells #[.int .i64 T.k, .int .i64 T.n, .slice A T.l.length ca] 36))
  rw [World.size_alloc] at hrb
  obtain ⟨W3, hW3⟩ : ∃ W3, ((w.alloc (.cells #[.int .i64 T.k, .int .i64 T.n, .slice A T.l.length ca] 36)).alloc (.cells #[.int .i64 0, .int .i64 0, .slice none 0 0] 36)).alloc (.cells #[.int .i64 0] 52) = W3 := ⟨_, rfl⟩
  rw [hW3] at hrb
  have hc := (half_ok 0 (by omega) W3 (h.after (hrb.bl.mono hh)) (Nat.le_trans hh hrb.bl.size)).mono
    (R' := fun e w' => ((halfErr T = 0 ∧ ∃ y S c, T.l[0]? = some y ∧ e = .returned (.agg #[.int .i64 y.k, .int .i64 y.n, .slice S y.l.length c]) ∧ Hid (In w' (w.heap.size + 1 + 1 + 1) w'.heap.size (.agg #[.int .i64 y.k, .int .i64 y.n, .slice S y.l.length c]) y)) ∨ (halfErr T ≠ 0 ∧ e = .panicked (bad (halfErr T)))) ∧ RF w (w.heap.size + 1) w')
    (fun e w' q => ⟨by
      rcases q.1 with ⟨h0, y, hy, S, c, he, hv⟩ | h0
      · exact .inl ⟨h0, y, S, c, hy, he, Lib.hid (hv.mono (by rw [← hW3]; simp) (Nat.le_refl _))⟩
      · exact .inr h0, (hrb.below q.2).facts⟩)
  rw [← hW3] at hc
  clear h hrb hW3
  unfold halfV0
  generalize halfErr T = err at hc ⊢
  go_enter_defers Try.func76, Try.ntmps76
  go_wp2_with (go_at_call 137; refine hc.mono ?_; rintro e w1 ⟨(⟨rfl, y, S, c, hy, rfl, hv⟩ | ⟨hne, rfl⟩), ⟨r0, r1, r2, f0, f1, f2, e0, g0, hR⟩⟩)
  · obtain ⟨c1, c2, c3, d0, d1, d2, HF⟩ := good_end hR.out hv.out (by omega)
    refine leaves_cons (f := 136) (args := #[.pointer (some ⟨w.heap.size + 1 + 1, 0, none⟩)]) (by simp) (by simp [go_sem]) ?_
    refine (idle_First _ _ _ c1 c2).mono ?_
    rintro e u' w'' ⟨rfl, rfl, rfl⟩
    simp [Leaves, settle, results, Try.results76, go_sem, c3, d0, d1, d2]
    exact HF.out
  · obtain ⟨c3, d0, d1, d2, HF⟩ := fall_end hR.out err
    refine leaves_cons (f := 136) (args := #[.pointer (some ⟨w.heap.size + 1 + 1, 0, none⟩)]) (by simp) (by simp [go_sem]) ?_
    refine (catch_First _ _ _ [] _ e0 g0).mono ?_
    rintro e u' w'' ⟨rfl, rfl, rfl⟩
    simp [Leaves, settle, results, Try.results76, go_sem, c3, d0, d1, d2]
    exact HF.out


/-- What First and Second hand back. -/
def halfV1 (T : V) : V × Int := if halfErr T = 0 then ((T.l[1]?).getD zeroV, 0) else (zeroV, halfErr T)
/-- A box that holds a value, and a cell for an error. -/
structure EB (w : World) (x y z : Value) (W : World) : Prop where
  a : Blk W w.heap.size 36 #[x, y, z]
  e : Blk W (w.heap.size + 1) 52 #[.int .i64 0]
  bl : Below w.heap.size w W
theorem EB.below {w W W' : World} {x y z : Value} (h : EB w x y z W) (hb : Below W.heap.size W W') : EB w x y z W' :=
  ⟨h.a.keep (hb.block _ h.a.lt), h.e.keep (hb.block _ h.e.lt), h.bl.trans (hb.mono h.bl.size)⟩
theorem EB.alloc {w W : World} {x y z : Value} (h : EB w x y z W) (o : Obj) : EB w x y z (W.alloc o) := h.below ((Below.refl _ W).alloc (Nat.le_refl _) o)
theorem EB.new (w : World) (x y z : Value) : EB w x y z ((w.alloc (.cells #[x, y, z] 36)).alloc (.cells #[.int .i64 0] 52)) :=
  ⟨(Blk.new w _ _).alloc _, by have := Blk.new (w.alloc (.cells #[x, y, z] 36)) 52 #[.int .i64 0]; rwa [World.size_alloc] at this, below2 w _ _⟩
structure EF (w : World) (x y z : Value) (W : World) : Prop where
  a0 : W.cell? ⟨w.heap.size, 0, none⟩ = some x
  a1 : W.cell? ⟨w.heap.size, 1, none⟩ = some y
  a2 : W.cell? ⟨w.heap.size, 2, none⟩ = some z
  e0 : W.cell? ⟨w.heap.size + 1, 0, none⟩ = some (.int .i64 0)
  g0 : W.frozen? ⟨w.heap.size + 1, 0, none⟩ = false
  lt : w.heap.size + 1 < W.heap.size
  h : Hid (EB w x y z W)
theorem EB.facts {w W : World} {x y z : Value} (h : EB w x y z W) : EF w x y z W :=
  ⟨h.a.cells3.1, h.a.cells3.2.1, h.a.cells3.2.2, by simpa using h.e.cell 0, h.e.frozen _, h.e.lt, Lib.hid h⟩
def truthErr (T : V) : Int := if rightB T then (if T.k == 2 then 0 else 41) else 40
def truthB (T : V) : Bool := if truthErr T = 0 then T.n != 0 else false

set_option maxRecDepth 100000 in
set_option maxHeartbeats 3200000 in
theorem Truth_ok {hi : Nat} {u : Value} {T : V} (w : World) (h : In w 0 hi u T) (hh : hi ≤ w.heap.size) :
    Calls Try.prog 77 #[u] w fun e w' => e = .returned (.tuple #[.bool (truthB T), .int .i64 (truthErr T)]) ∧ Below w.heap.size w w' := by
  obtain ⟨A, ca, rfl, hc1, _, _⟩ := h.val
  have hmf : ∀ (fn : Fn) (first cap : Array Value) (w : World), (Instr.makeFunc fn first cap).run Try.prog w = .ok (.func fn first cap) w := fun _ _ _ _ => rfl
  have hT2 := EB.new w (.int .i64 T.k) (.int .i64 T.n) (.slice A T.l.length ca)
  have hd := (demand1_ok _ (Ls.one (W := (w.alloc (.cells #[.int .i64 T.k, .int .i64 T.n, .slice A T.l.length ca] 36)).alloc (.cells #[.int .i64 0] 52)) (by simp; omega) 36 (h.after ((below2 w _ _).mono hh))) (by simp)).mono
    (R' := fun e w' => (rightB T = true ∧ e = .returned (.tuple #[]) ∨ rightB T = false ∧ e = .panicked badVal) ∧ EF w (.int .i64 T.k) (.int .i64 T.n) (.slice A T.l.length ca) w')
    (fun e w' q => ⟨q.1, ((hT2.alloc _).below q.2).facts⟩)
  have hk : ∀ w1, Hid (EB w (.int .i64 T.k) (.int .i64 T.n) (.slice A T.l.length ca) w1) → Calls Try.prog 139 #[.int .i64 2, .slice (some ⟨w1.heap.size, 0, none⟩) 1 1] (w1.alloc (.cells #[.int .i64 T.k, .int .i64 T.n, .slice A T.l.length ca] 36))
      fun e w' => ((T.k == 2) = true ∧ e = .returned (.tuple #[]) ∨ (T.k == 2) = false ∧ e = .panicked (bad 41)) ∧ EF w (.int .i64 T.k) (.int .i64 T.n) (.slice A T.l.length ca) w' := fun w1 h1 => by
    have := (demandKind_ok 2 _ (Ls.one (Nat.le_trans hh h1.out.bl.size) 36 (h.after (h1.out.bl.mono hh))) (by simp)).mono (R' := fun e w' => (kindsB 2 [T] = true ∧ e = .returned (.tuple #[]) ∨ kindsB 2 [T] = false ∧ e = .panicked (bad 41)) ∧ EF w (.int .i64 T.k) (.int .i64 T.n) (.slice A T.l.length ca) w')
      (fun e w' q => ⟨q.1, ((h1.out.alloc _).below q.2).facts⟩)
    rw [kinds_one] at this
    exact this
  have HK := Lib.hid hk
  clear h hk hT2
  simp only [World.size_alloc] at hd
  unfold truthB truthErr
  generalize (T.k == 2) = kb at HK ⊢
  generalize rightB T = rb at hd ⊢
  go_enter_defers Try.func77, Try.ntmps77
  go_wp2_with (first | (go_at_call 122; refine hd.mono ?_; rintro e w1 ⟨(⟨rfl, rfl⟩ | ⟨rfl, rfl⟩), ⟨a0, a1, a2, e0, g0, lt, hT⟩⟩) | (go_at_call 139; refine (HK.out _ hT).mono ?_; rintro e w2 ⟨(⟨rfl, rfl⟩ | ⟨rfl, rfl⟩), ⟨d0, d1, d2, s0, t0, lt2, hT2⟩⟩))
  · have hc2 : (w2.setCell ⟨w.heap.size + 1, 0, none⟩ (.int .i64 0)).cell? ⟨w.heap.size + 1, 0, none⟩ = some (.int .i64 0) := World.cell?_setCell_same _ _ _ s0
    have hc3 : ((w2.setCell ⟨w.heap.size + 1, 0, none⟩ (.int .i64 0)).setCell ⟨w.heap.size + 1, 0, none⟩ (.int .i64 0)).cell? ⟨w.heap.size + 1, 0, none⟩ = some (.int .i64 0) := World.cell?_setCell_same _ _ _ hc2
    refine leaves_cons (f := 138) (args := #[.pointer (some ⟨w.heap.size + 1, 0, none⟩)]) (by simp) (by simp [go_sem]) ?_
    refine (idle_Truth _ _ _ hc2 (by rw [World.frozen?_setCell]; exact t0)).mono ?_
    rintro e u' w'' ⟨rfl, rfl, rfl⟩
    simp [Leaves, settle, results, Try.results77, go_sem, hc3]
    exact (hT2.out.bl.setCell (by simp) _).setCell (by simp) _
  · have hc3 : (w2.setCell ⟨w.heap.size + 1, 0, none⟩ (.int .i64 41)).cell? ⟨w.heap.size + 1, 0, none⟩ = some (.int .i64 41) := World.cell?_setCell_same _ _ _ s0
    refine leaves_cons (f := 138) (args := #[.pointer (some ⟨w.heap.size + 1, 0, none⟩)]) (by simp) (by simp [go_sem]) ?_
    refine (catch_Truth _ _ _ [] _ s0 t0).mono ?_
    rintro e u' w'' ⟨rfl, rfl, rfl⟩
    simp [Leaves, settle, results, Try.results77, go_sem, hc3]
    exact hT2.out.bl.setCell (by simp) _
  all_goals
    try (exfalso; simp_all; done)
  all_goals
    have hc3 : (w1.setCell ⟨w.heap.size + 1, 0, none⟩ (.int .i64 40)).cell? ⟨w.heap.size + 1, 0, none⟩ = some (.int .i64 40) := World.cell?_setCell_same _ _ _ e0
    refine leaves_cons (f := 138) (args := #[.pointer (some ⟨w.heap.size + 1, 0, none⟩)]) (by simp) (by simp [go_sem]) ?_
    refine (catch_Truth _ _ _ [] _ e0 g0).mono ?_
    rintro e u' w'' ⟨rfl, rfl, rfl⟩
    simp [Leaves, settle, results, Try.results77, go_sem, hc3]
    exact hT.out.bl.setCell (by simp) _

end Go.Proofs.Ytmfcecfcfihgaaa
