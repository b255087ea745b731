/- The document's own Parts. -/
import Derived.Test.YtmfcecfcfihgaaaEg
namespace Go.Proofs.Ytmfcecfcfihgaaa
open Go.RowKit Go.Shelf
attribute [local go_sem] Oper.semAt_some

theorem partInfo : (Try.prog.info? 45).map (fun i => (i.zero, i.size, i.bytes)) = some (some (.agg #[.int .i64 0, .int .i64 0, .int .i64 0, .slice none 0 0]), 4, 48) := by kernel_rfl

/-- Cells that hold parts, one behind the other. -/
def EncP4 (w : World) (hi : Nat) : List (Nat × V) → List Value → Prop
  | [], xs => xs = []
  | p :: q, xs => ∃ s ys, xs = .int .i64 (p.1 : Int) :: .int .i64 p.2.k :: .int .i64 p.2.n :: s :: ys ∧ In w 0 hi (.agg #[.int .i64 p.2.k, .int .i64 p.2.n, s]) p.2 ∧ EncP4 w hi q ys
theorem EncP4.len {w : World} {hi : Nat} {q : List (Nat × V)} : ∀ {xs : List Value}, EncP4 w hi q xs → xs.length = q.length * 4 := by
  induction q with
  | nil => intro xs h; cases h; rfl
  | cons x q ih =>
    rintro xs ⟨s, ys, rfl, _, h⟩
    have := ih h
    simp only [List.length_cons]
    omega
theorem EncP4.append' {w : World} {hi : Nat} {q r : List (Nat × V)} {ys xs : List Value} (h : EncP4 w hi q xs) (h' : EncP4 w hi r ys) : EncP4 w hi (q ++ r) (xs ++ ys) := by
  induction q generalizing xs with
  | nil => cases h; simpa using h'
  | cons x q ih =>
    obtain ⟨s, zs, rfl, h1, h⟩ := h
    exact ⟨s, zs ++ ys, by simp, h1, ih h⟩
theorem EncP4.one_cell {w : World} {hi : Nat} {q : List (Nat × V)} : ∀ {xs : List Value}, EncP4 w hi q xs → ∀ x ∈ xs, x.oneCell' = true := by
  induction q with
  | nil => intro xs h; cases h; simp
  | cons x q ih =>
    rintro xs ⟨s, zs, rfl, h1, h⟩ y hy
    obtain ⟨A, c, rfl, _⟩ := h1.slice
    simp only [List.mem_cons] at hy
    rcases hy with rfl | rfl | rfl | rfl | hy
    · rfl
    · rfl
    · rfl
    · rfl
    · exact ih h y hy
theorem EncP4.keep {w w' : World} {hi : Nat} {q : List (Nat × V)} : ∀ {xs : List Value}, EncP4 w hi q xs → (∀ b, b < hi → w'.heap[b]? = w.heap[b]?) → EncP4 w' hi q xs := by
  induction q with
  | nil => intro xs h _; exact h
  | cons x q ih =>
    rintro xs ⟨s, ys, rfl, h1, h⟩ hk
    exact ⟨s, ys, rfl, h1.keep (fun b _ hb => hk b hb), ih h hk⟩
theorem EncP4.at_ {w : World} {hi : Nat} : ∀ {l : List (Nat × V)} {xs : List Value}, EncP4 w hi l xs → ∀ (i : Nat) (x : Nat × V), l[i]? = some x →
    ∃ s, xs[i * 4]? = some (.int .i64 (x.1 : Int)) ∧ xs[i * 4 + 1]? = some (.int .i64 x.2.k) ∧ xs[i * 4 + 2]? = some (.int .i64 x.2.n) ∧ xs[i * 4 + 3]? = some s ∧ In w 0 hi (.agg #[.int .i64 x.2.k, .int .i64 x.2.n, s]) x.2
  | [], _, _, i, x, hx => by simp at hx
  | y :: l, _, ⟨s, ys, rfl, h1, h⟩, 0, x, hx => by
    simp at hx
    subst hx
    exact ⟨s, rfl, rfl, rfl, rfl, h1⟩
  | y :: l, _, ⟨s, ys, rfl, h1, h⟩, i + 1, x, hx => by
    obtain ⟨s', a0, a1, a2, a3, a4⟩ := EncP4.at_ h i x (by simpa using hx)
    refine ⟨s', ?_, ?_, ?_, ?_, a4⟩
    · rw [show (i + 1) * 4 = i * 4 + 1 + 1 + 1 + 1 from by omega]; simpa using a0
    · rw [show (i + 1) * 4 + 1 = i * 4 + 1 + 1 + 1 + 1 + 1 from by omega]; simpa using a1
    · rw [show (i + 1) * 4 + 2 = i * 4 + 2 + 1 + 1 + 1 + 1 from by omega]; simpa using a2
    · rw [show (i + 1) * 4 + 3 = i * 4 + 3 + 1 + 1 + 1 + 1 from by omega]; simpa using a3

/-- A slice of the call's own that holds parts. -/
structure PartsL (w : World) (hi : Nat) (L : List (Nat × V)) (s : Value) (W : World) : Prop where
  ex : ∃ xs, Row W 45 4 s L.length xs ∧ EncP4 W hi L xs
  own : ∀ j, s.ownBlock = some j → w.heap.size ≤ j
  bl : Below w.heap.size w W
theorem PartsL.below {w W W' : World} {hi : Nat} {L : List (Nat × V)} {s : Value} (h : PartsL w hi L s W) (hh : hi ≤ w.heap.size) (hb : Below W.heap.size W W') : PartsL w hi L s W' := by
  obtain ⟨xs, h1, h2⟩ := h.ex
  exact ⟨⟨xs, h1.keep fun j hj => hb.block j (h1.lt j hj), h2.keep fun b hb' => hb.block b (by have := h.bl.size; omega)⟩, h.own, h.bl.trans (hb.mono h.bl.size)⟩
def PPost (w : World) (hi : Nat) (L : List (Nat × V)) (e : Ending) (w' : World) : Prop := ∃ s, e = .returned s ∧ PartsL w hi L s w'
theorem preL_one (d : Nat) (x : V) : V.preL d [x] = V.pre d x := by simp [V.preL]
theorem preL_len_take {l : List V} (j d : Nat) : (V.preL d (l.take j)).length ≤ V.sizeL l := by
  rw [V.preL_length]
  have e : V.sizeL l = V.sizeL (l.take j) + V.sizeL (l.drop j) := by rw [← V.sizeL_append, List.take_append_drop]
  omega

/-- What parts keeps, behind j values. -/
structure PQ (w : World) (hi d : Nat) (k n : Int) (l : List V) (s : Value) (j : Nat) (v : Value) (W : World) : Prop where
  p : PartsL w hi ((d, .mk k n l) :: V.preL (d + 1) (l.take j)) v W
  b : BF w (.int .i64 k) (.int .i64 n) s W
  o : ∀ i, v.ownBlock = some i → w.heap.size + 1 ≤ i
theorem row_src {w : World} {e : TypeId} {size n c : Nat} {O : Option Addr} {ys : List Value} (h : Row w e size (.slice O n c) n ys) : n ≠ 0 → ∃ p, O = some p ∧ ∀ j x, ys[j]? = some x → w.cell? (p.add j) = some x := by
  intro hn
  rcases h.2 with ⟨_, h2⟩ | ⟨g, cap, cur, hv, _⟩
  · exact absurd h2 hn
  · simp only [Value.slice.injEq] at hv
    obtain ⟨rfl, _, rfl⟩ := hv
    refine ⟨_, rfl, fun j x hx => ?_⟩
    have hj : j < ys.length := (List.getElem?_eq_some_iff.1 hx).1
    have := (h.cells rfl j (by rw [← h.1]; exact hj)).1
    rw [Addr.add_lit]
    simpa [hx] using this
theorem PQ.next {w wr w1 w3 : World} {hi d : Nat} {k n : Int} {l : List V} {x : V} {s u v u2 : Value} {j m3 : Nat} {xs ys : List Value} (hh : hi ≤ w.heap.size) (h : PQ w hi d k n l s j u wr) (ht : l.take (j + 1) = l.take j ++ [x])
    (h2 : PartsL wr hi (V.pre (d + 1) x) u2 w1) (h1 : EncP4 wr hi ((d, .mk k n l) :: V.preL (d + 1) (l.take j)) xs) (h3 : EncP4 w1 hi (V.pre (d + 1) x) ys) (hm : m3 = ((d, .mk k n l) :: V.preL (d + 1) (l.take j)).length + (V.pre (d + 1) x).length)
    (hr : Row w3 45 4 v m3 (xs ++ ys)) (hg : w1.grownBy w3 u.ownBlock) (ho : v.ownBlock = u.ownBlock ∨ v.ownBlock = some w1.heap.size) : PQ w hi d k n l s (j + 1) v w3 := by
  have hs1 : w.heap.size + 1 ≤ wr.heap.size := h.b.lt
  have hs2 := h2.bl.size
  have hb1 : Below (w.heap.size + 1) wr w3 := below_grown (h2.bl.mono hs1) hg (Nat.le_trans hs1 hs2) h.o
  have hb3 : Below (w.heap.size + 1) w1 w3 := below_grown (Below.refl _ _) hg (Nat.le_trans hs1 hs2) h.o
  have hL : (d, V.mk k n l) :: V.preL (d + 1) (l.take (j + 1)) = ((d, V.mk k n l) :: V.preL (d + 1) (l.take j)) ++ V.pre (d + 1) x := by rw [ht, V.preL_append, preL_one]; rfl
  refine ⟨⟨⟨xs ++ ys, ?_, ?_⟩, own_next ho h.p.own (by omega), h.p.bl.trans (hb1.mono (by omega))⟩, BF.of (h.b.h.out.1.keep (hb1.block _ (Nat.lt_succ_self _))) (h.b.h.out.2.trans (hb1.mono (by omega))), own_next ho h.o (by omega)⟩
  · rw [hL, List.length_append, ← hm]; exact hr
  · rw [hL]; exact (h1.keep (fun b hb => hb1.block b (by omega))).append' (h3.keep (fun b hb => hb3.block b (by omega)))

set_option maxRecDepth 100000 in
set_option maxHeartbeats 6400000 in
theorem rparts_ok (hi : Nat) (T : V) : ∀ (d : Nat) (v : Value) (w : World), In w 0 hi v T → hi ≤ w.heap.size → d + T.size ≤ 1000 → Calls Try.prog 80 #[v, .int .i64 (d : Int)] w (PPost w hi (V.pre d T)) := by
  induction T using V.ind with
  | h k n l ih =>
    intro d v w hin hh hd
    obtain ⟨i0, hi0, hz0, hz1, hz2⟩ := info_parts partInfo
    obtain ⟨A, c, rfl, hc1, hc2, hl⟩ := hin.val
    unfold maxLen at hc2
    have hl' : Ls w 0 hi (.slice A l.length c) l := hl
    have hsz : (V.mk k n l).size = 1 + V.sizeL l := V.size_mk k n l
    have hlen := V.len_le_sizeL l
    have hin' : In w 0 hi (.agg #[.int .i64 k, .int .i64 n, .slice A l.length c]) (.mk k n l) := hin
    simp only [V.k, V.n, V.l] at hc1 hc2 ⊢
    have hbx := BF.new w (.int .i64 k) (.int .i64 n) (.slice A l.length c)
    have hq0 : PQ w hi d k n l (.slice A l.length c) 0 (.slice (some ⟨w.heap.size + 1, 0, none⟩) 1 1) ((w.alloc (.cells #[.int .i64 k, .int .i64 n, .slice A l.length c] 36)).alloc (.cells #[.int .i64 (d : Int), .int .i64 k, .int .i64 n, .slice A l.length c] 45)) := by
      have hb2 := below2 w (.cells #[.int .i64 k, .int .i64 n, .slice A l.length c] 36) (.cells #[.int .i64 (d : Int), .int .i64 k, .int .i64 n, .slice A l.length c] 45)
      have hr := Row.made (w.alloc (.cells #[.int .i64 k, .int .i64 n, .slice A l.length c] 36)) 45 4 1 #[.int .i64 (d : Int), .int .i64 k, .int .i64 n, .slice A l.length c] (by unfold maxLen; omega) rfl
      rw [World.size_alloc] at hr
      exact ⟨⟨⟨_, hr, ⟨_, [], rfl, hin'.after (hb2.mono hh), rfl⟩⟩, by intro j hj; simp [Value.ownBlock] at hj; omega, hb2⟩, hbx.below ((Below.refl _ _).alloc (Nat.le_refl _) _), by intro j hj; simp [Value.ownBlock] at hj; omega⟩
    have HQ := Lib.hid hq0
    have HI := Lib.hid ih
    have HL := Lib.hid hl'
    have HD := Lib.hid hd
    have HSZ := Lib.hid hsz
    clear hq0 ih hl' hl hin hin' hbx hd hsz
    go_enter Try.func80, Try.ntmps80
    go_wp2_with fail
    go_loopw [5, 6] (fun o p wr => ∃ j : Nat, j ≤ l.length ∧ p = .int .i64 (j : Int) ∧ PQ w hi d k n l (.slice A l.length c) j o wr) (fun _ p _ => l.length - (intOf p).toNat)
    case atStart => exact ⟨0, Nat.zero_le _, rfl, HQ.out⟩
    case round =>
      obtain ⟨j, hj, rfl, hQ⟩ := hrel
      clear HQ
      have hj0 : (0 : Int) ≤ (j : Int) := by omega
      obtain ⟨a0, a1, a2, lt, hB⟩ := hQ.b
      obtain ⟨xs, hrow, henc⟩ := hQ.p.ex
      obtain ⟨O, co, rfl, _, _⟩ := hrow.form
      by_cases hlt : j < l.length
      · have hltI : (j : Int) < (l.length : Int) := by omega
        obtain ⟨x, hx⟩ : ∃ x, l[j]? = some x := ⟨_, List.getElem?_eq_getElem hlt⟩
        have hbl := hQ.p.bl
        obtain ⟨b, o, sx, rfl, hb, hbh, _, q0, q1, q2, hix⟩ := (HL.out.after (hbl.mono hh)).at_ hx
        obtain ⟨X, cx, rfl, _, _, _⟩ := hix.slice
        have hxs : x.size ≤ V.sizeL l := by
          have := V.sizeL_append (l.take j) (l.drop j)
          rw [List.take_append_drop, List.drop_eq_getElem_cons hlt, V.sizeL_cons] at this
          have e : l[j] = x := (List.getElem?_eq_some_iff.1 hx).2
          rw [e] at this
          omega
        have hd1 : d + 1 + x.size ≤ 1000 := by have h1 := HD.out; have h2 := HSZ.out; omega
        have hcall := HI.out x (List.mem_of_getElem? hx) (d + 1) _ wr hix (Nat.le_trans hh hbl.size) hd1
        have hdI : ((d + 1 : Nat) : Int) = (d : Int) + 1 := by omega
        rw [hdI] at hcall
        have hd0 : (0 : Int) ≤ (d : Int) := by omega
        have hd2 : (d : Int) ≤ 1000 := by have h1 := HD.out; omega
        have hpl := preL_len_take (l := l) j (d + 1)
        have htk : l.take (j + 1) = l.take j ++ [x] := by
          rw [List.take_succ_eq_append_getElem hlt, (List.getElem?_eq_some_iff.1 hx).2]
        have hNx : (V.pre (d + 1) x).length = x.size := V.pre_length x (d + 1)
        have hsum : (V.preL (d + 1) (l.take j)).length + x.size ≤ V.sizeL l := by
          have h1 := preL_len_take (l := l) (j + 1) (d + 1)
          rw [htk, V.preL_append, preL_one, List.length_append, hNx] at h1
          exact h1
        have HC := Lib.hid hcall
        have HQ := Lib.hid hQ
        have HROW := Lib.hid hrow
        have HENC := Lib.hid henc
        have HTK := Lib.hid htk
        have HNX := Lib.hid hNx
        have HSUM := Lib.hid hsum
        have hlim : V.sizeL l ≤ 1000 := by have h1 := HD.out; have h2 := HSZ.out; omega
        clear hcall hQ hrow henc hx hix hbl htk hNx hsum hpl hdI hxs
        go_wp2_with (first
          | (go_at_call 80; refine HC.out.mono ?_; rintro e w1 ⟨s2, rfl, hp2⟩; obtain ⟨ys, hr2, he2⟩ := hp2.ex; obtain ⟨O2, c2, rfl, _, _⟩ := hr2.form; have HP2 := Lib.hid hp2; have HR2 := Lib.hid hr2; have HE2 := Lib.hid he2; clear hp2 hr2 he2)
          | (at_builtin
             refine wpList_append_src _ rfl (.tmp 18) (.tmp 26) 38 rfl 45 i0 (.agg #[.int .i64 0, .int .i64 0, .int .i64 0, .slice none 0 0]) 4 48 Try.underlying38 hi0 hz0 hz1 hz2 rfl _ _ xs rfl (HROW.out.keep fun i hi' => HP2.out.bl.block i (HROW.out.lt i hi')) _ _ _ ys rfl HE2.out.len (row_src HR2.out) HE2.out.one_cell (by have := HNX.out; have := HSUM.out; unfold maxLen; (try simp only [List.length_cons]); omega) (by have := HNX.out; have := HSUM.out; (try simp only [List.length_cons]); omega) ?_
             intro v3 w3 hr3 hg3 ho3
             have hq3 := PQ.next hh HQ.out HTK.out HP2.out HENC.out HE2.out rfl hr3 hg3 ho3
             have HQ3 := Lib.hid hq3
             clear hr3 hg3 ho3 hq3))
        exact ⟨⟨j + 1, by omega, by go_num, HQ3.out⟩, by simp [intOf]; omega⟩
      · have hltI : ¬ (j : Int) < (l.length : Int) := by omega
        obtain rfl : j = l.length := by omega
        have hP := hQ.p
        rw [List.take_length] at hP
        have HP := Lib.hid hP
        clear hP hQ hrow henc hlt
        go_wp2_with fail
        go_ret
        exact ⟨_, rfl, HP.out⟩

theorem PartsL.from {w w1 W : World} {hi : Nat} {L : List (Nat × V)} {s : Value} (h : PartsL w1 hi L s W) (hb : Below w.heap.size w w1) : PartsL w hi L s W :=
  ⟨h.ex, fun j hj => Nat.le_trans hb.size (h.own j hj), hb.trans (h.bl.mono hb.size)⟩
/-- What the document's Parts of T are. -/
def wantOf (T : V) : List (Nat × V) := if rightB T = true then V.pre 0 T else []

set_option maxRecDepth 100000 in
set_option maxHeartbeats 1600000 in
theorem rParts_ok {hi : Nat} {v : Value} {T : V} (w : World) (h : In w 0 hi v T) (hh : hi ≤ w.heap.size) (hT : T.size ≤ 256) : Calls Try.prog 21 #[v] w (PPost w hi (wantOf T)) := by
  obtain ⟨A, c, rfl, hc1, hc2, _⟩ := h.val
  have hbx := BF.new w (.int .i64 T.k) (.int .i64 T.n) (.slice A T.l.length c)
  have hr := (rRight_ok _ (h.after (hbx.bl.mono hh)) (Nat.le_trans hh hbx.bl.size) (Nat.le_trans hT (by omega))).mono
    (R' := fun e w' => e = .returned (.bool (rightB T)) ∧ BF w (.int .i64 T.k) (.int .i64 T.n) (.slice A T.l.length c) w') (fun e w' q => ⟨q.1, hbx.below q.2⟩)
  have hp : ∀ w1, BF w (.int .i64 T.k) (.int .i64 T.n) (.slice A T.l.length c) w1 → Calls Try.prog 80 #[.agg #[.int .i64 T.k, .int .i64 T.n, .slice A T.l.length c], .int .i64 0] w1 (PPost w hi (V.pre 0 T)) := fun w1 hb =>
    (rparts_ok hi T 0 _ w1 (h.after (hb.bl.mono hh)) (Nat.le_trans hh hb.bl.size) (by omega)).mono fun e w' q => by
      obtain ⟨s, rfl, hq⟩ := q
      exact ⟨s, rfl, hq.from hb.bl⟩
  have HP := Lib.hid hp
  clear h hbx hT hp
  unfold wantOf
  go_enter Try.func21, Try.ntmps21
  cases hs : rightB T
  · rw [hs] at hr
    clear hs
    go_wp2_with (go_at_call 79; refine hr.mono ?_; rintro e w1 ⟨rfl, ⟨d0, d1, d2, lt, hB⟩⟩)
    go_ret
    exact ⟨_, rfl, ⟨[], ⟨rfl, .inl ⟨rfl, rfl⟩⟩, rfl⟩, by intro j hj; simp [Value.ownBlock] at hj, hB.out.2⟩
  · rw [hs] at hr
    clear hs
    go_wp2_with (first | (go_at_call 79; refine hr.mono ?_; rintro e w1 ⟨rfl, ⟨d0, d1, d2, lt, hB⟩⟩) | (go_at_call 80; refine (HP.out _ ⟨d0, d1, d2, lt, hB⟩).mono ?_; rintro e w2 ⟨s, rfl, hq⟩; have HQ := Lib.hid hq; clear hq))
    go_ret
    exact ⟨_, rfl, HQ.out⟩
end Go.Proofs.Ytmfcecfcfihgaaa
