/- The document's own Size. -/
import Derived.Test.YtmfcecfcfihgaaaNr
namespace Go.Proofs.Ytmfcecfcfihgaaa
open Go.RowKit Go.Shelf
attribute [local go_sem] Oper.semAt_some

/-- Cells that hold values, one behind the other. -/
def Enc (w : World) (hi : Nat) : List V → List Value → Prop
  | [], xs => xs = []
  | x :: q, xs => ∃ s ys, xs = .int .i64 x.k :: .int .i64 x.n :: s :: ys ∧ In w 0 hi (.agg #[.int .i64 x.k, .int .i64 x.n, s]) x ∧ Enc w hi q ys
theorem Enc.len {w : World} {hi : Nat} {q : List V} : ∀ {xs : List Value}, Enc w hi q xs → xs.length = q.length * 3 := by
  induction q with
  | nil => intro xs h; cases h; rfl
  | cons x q ih =>
    rintro xs ⟨s, ys, rfl, _, h⟩
    have := ih h
    simp only [List.length_cons]
    omega
theorem Enc.append' {w : World} {hi : Nat} {q r : List V} {ys xs : List Value} (h : Enc w hi q xs) (h' : Enc w hi r ys) : Enc w hi (q ++ r) (xs ++ ys) := by
  induction q generalizing xs with
  | nil => cases h; simpa using h'
  | cons x q ih =>
    obtain ⟨s, zs, rfl, h1, h⟩ := h
    exact ⟨s, zs ++ ys, by simp, h1, ih h⟩
theorem Enc.one_cell {w : World} {hi : Nat} {q : List V} : ∀ {xs : List Value}, Enc w hi q xs → ∀ x ∈ xs, x.oneCell' = true := by
  induction q with
  | nil => intro xs h; cases h; simp
  | cons x q ih =>
    rintro xs ⟨s, zs, rfl, h1, h⟩ y hy
    obtain ⟨A, c, rfl, _⟩ := h1.slice
    simp only [List.mem_cons] at hy
    rcases hy with rfl | rfl | rfl | hy
    · rfl
    · rfl
    · rfl
    · exact ih h y hy
theorem enc_of {w : World} {hi b o : Nat} {f : Nat → Value} : ∀ (l : List V) (k : Nat), (∀ i, i < l.length → Three w b (o + (k + i) * 3) (f (k + i))) → (∀ i x, l[i]? = some x → In w 0 hi (f (k + i)) x) →
    ∃ xs, Enc w hi l xs ∧ ∀ j x, xs[j]? = some x → w.cell? ⟨b, o + k * 3 + j, none⟩ = some x
  | [], k, _, _ => ⟨[], rfl, by simp⟩
  | x :: l, k, h1, h2 => by
    obtain ⟨xs, g1, g2⟩ := enc_of (w := w) (hi := hi) (b := b) (o := o) (f := f) l (k + 1) (fun i hi' => by have := h1 (i + 1) (by simpa using hi'); rwa [show k + (i + 1) = k + 1 + i from by omega] at this) (fun i y hy => by have := h2 (i + 1) y (by simpa using hy); rwa [show k + (i + 1) = k + 1 + i from by omega] at this)
    obtain ⟨a0, a1, a2, e, c0, c1, c2⟩ := h1 0 (by simp)
    have hin := h2 0 x (by simp)
    obtain ⟨s, e', _⟩ := hin.parts
    rw [e] at e' hin
    obtain ⟨rfl, rfl, rfl⟩ := agg3 e'
    refine ⟨_ :: _ :: _ :: xs, ⟨_, _, rfl, hin, g1⟩, fun j y hy => ?_⟩
    match j, hy with
    | 0, hy => simp at hy; subst hy; simpa using c0
    | 1, hy => simp at hy; subst hy; simpa using c1
    | 2, hy => simp at hy; subst hy; simpa using c2
    | j + 3, hy =>
      have := g2 j y (by simpa using hy)
      rwa [show o + (k + 1) * 3 + j = o + k * 3 + (j + 3) from by omega] at this
theorem Ls.enc {w : World} {hi n c : Nat} {A : Option Addr} {l : List V} (h : Ls w 0 hi (.slice A n c) l) :
    ∃ xs, Enc w hi l xs ∧ (n ≠ 0 → ∃ b o, A = some ⟨b, o, none⟩ ∧ b < hi ∧ ∀ j x, xs[j]? = some x → w.cell? ⟨b, o + j, none⟩ = some x) := by
  obtain ⟨A', c', b, o, f, hv, h1, h2, hA, hc, hR⟩ := h.ex
  simp only [Value.slice.injEq] at hv
  obtain ⟨rfl, rfl, rfl⟩ := hv
  obtain ⟨xs, g1, g2⟩ := enc_of (w := w) (hi := hi) (b := b) (o := o) (f := f) l 0 (fun i hi' => by simpa using hc i hi') (fun i x hx => by simpa using hR i x hx)
  refine ⟨xs, g1, fun hn => ?_⟩
  have hne : l ≠ [] := by rintro rfl; simp at hn
  obtain ⟨rfl, _, h5⟩ := hA hne
  refine ⟨_, _, rfl, h5, fun j x hx => ?_⟩
  have := g2 j x hx
  simpa using this

/-- The queue of Size. -/
structure SQ (w : World) (hi : Nat) (T : V) (k : Nat) (q : List V) (v : Value) (W : World) : Prop where
  ex : ∃ xs, Row W 36 3 v q.length xs ∧ Enc w hi q xs
  own : ∀ j, v.ownBlock = some j → w.heap.size ≤ j
  bl : Below w.heap.size w W
  sum : k + V.sizeL q = T.size
  le : k ≤ 257

theorem SQ.next {w W' : World} {hi k : Nat} {T x : V} {q : List V} {v : Value} {ys zs : List Value} {n : Nat} (hs : k + V.sizeL (x :: q) = T.size) (hle : k ≤ 256) (hb : Below w.heap.size w W')
    (hr : Row W' 36 3 v n (ys ++ zs)) (hn : n = q.length + x.l.length) (ho : ∀ j, v.ownBlock = some j → w.heap.size ≤ j) (h1 : Enc w hi q ys) (h2 : Enc w hi x.l zs) : SQ w hi T (k + 1) (q ++ x.l) v W' := by
  refine ⟨⟨_, by rw [List.length_append, ← hn]; exact hr, h1.append' h2⟩, ho, hb, ?_, by omega⟩
  rw [V.sizeL_append]
  rw [V.sizeL_cons, x.eta, V.size_mk] at hs
  simp only [V.l] at hs ⊢
  omega

set_option maxRecDepth 100000 in
set_option maxHeartbeats 3200000 in
theorem rSize_ok {hi : Nat} {v : Value} {T : V} (w : World) (h : In w 0 hi v T) (hh : hi ≤ w.heap.size) (hT : T.size ≤ 1000000000000) :
    Calls Try.prog 19 #[v] w fun e w' => e = .returned (.int .i64 (T.sz : Int)) ∧ Below w.heap.size w w' := by
  obtain ⟨i0, hi0, hz0, hz1, hz2⟩ := info_parts valInfo
  obtain ⟨A, c, rfl, hc1, hc2, hl⟩ := h.val
  have hQ0 : ∀ W, Below w.heap.size w W → SQ w hi T 0 [T] (.slice (some ⟨W.heap.size, 0, none⟩) 1 1) (W.alloc (.cells #[.int .i64 T.k, .int .i64 T.n, .slice A T.l.length c] 36)) := fun W hb =>
    ⟨⟨_, Row.made W 36 3 1 #[.int .i64 T.k, .int .i64 T.n, .slice A T.l.length c] (by unfold maxLen; omega) rfl, ⟨_, [], rfl, h, rfl⟩⟩, by intro j hj; simp [Value.ownBlock] at hj; have := hb.size; omega, hb.alloc hb.size _, by simp [V.sizeL_cons, V.sizeL_nil], by omega⟩
  have hq := hQ0 _ ((Below.refl _ w).alloc (Nat.le_refl _) (.cells #[.int .i64 T.k, .int .i64 T.n, .slice A T.l.length c] 36))
  rw [World.size_alloc] at hq
  have HQ := Lib.hid hq
  clear hQ0 hq h hl
  unfold maxLen at hc2
  go_enter Try.func19, Try.ntmps19
  go_wp2_with fail
  go_loopw [3, 4] (fun q p wr => ∃ (k : Nat) (l : List V), p = .int .i64 (k : Int) ∧ SQ w hi T k l q wr) (fun _ p _ => 257 - (intOf p).toNat)
  case atStart => exact ⟨0, [T], rfl, HQ.out⟩
  case round =>
    obtain ⟨k, q, rfl, hS⟩ := hrel
    clear HQ
    have hk0 : (0 : Int) ≤ (k : Int) := by omega
    obtain ⟨xs, hrow, hen⟩ := hS.ex
    have hlen := V.len_le_sizeL q
    have hsum := hS.sum
    obtain ⟨A3, c3, rfl, hd1, hd2⟩ := hrow.form
    cases q with
    | nil =>
      have hE : (k : Int) = (T.sz : Int) := by have := hS.le; rw [V.sizeL_nil] at hsum; unfold V.sz; omega
      have HE := Lib.hid hE
      have HB := Lib.hid hS.bl
      clear hE hS hrow hen hd1 hlen hsum
      go_wp2_with fail
      go_ret
      exact ⟨by rw [HE.out]; rfl, HB.out⟩
    | cons x q =>
      simp only [List.length_cons] at hrow hd1 ⊢
      have hqp : (0 : Int) < (q.length : Int) + 1 := by omega
      by_cases hk : k ≤ 256
      · have hkI : (k : Int) ≤ 256 := by omega
        have hlim : q.length + x.l.length + 1 ≤ T.size := by
          have h1 := V.len_le_sizeL q
          have h2 := V.len_le_sizeL x.l
          have h3 : x.size = 1 + V.sizeL x.l := by
            cases x
            exact V.size_mk _ _ _
          rw [V.sizeL_cons] at hsum
          omega
        obtain ⟨g, cap, cur, hv, hblk, _, _, _, _⟩ := hrow.addr (by omega)
        simp only [Value.slice.injEq] at hv
        obtain ⟨rfl, _, rfl⟩ := hv
        have hcells := hrow.cells rfl
        obtain ⟨s, ys, rfl, hin, heny⟩ := hen
        obtain ⟨B, d, rfl, he1, he2, hls⟩ := hin.slice
        have c0 := (hcells 0 (by omega)).1
        have c1 := (hcells 1 (by omega)).1
        have c2 := (hcells 2 (by omega)).1
        simp at c0 c1 c2
        obtain ⟨zs, henz, hz⟩ := hls.enc
        have hS1 : ∀ W', Below wr.heap.size wr W' → (q.length ≠ 0 → ∃ p, (if c3 = 1 then (some ⟨g, 0, none⟩ : Option Addr) else some ⟨g, 3, none⟩) = some p ∧ ∀ j x, ys[j]? = some x → W'.cell? (p.add j) = some x) := by
          intro W' hb hne
          rw [if_neg (by omega)]
          refine ⟨_, rfl, fun j y hy => ?_⟩
          have hj := (List.getElem?_eq_some_iff.1 hy).1
          have hyl := heny.len
          rw [Addr.add_lit]
          refine (cell_same (hb.block g hblk.lt)).trans ?_
          have := (hcells (3 + j) (by omega)).1
          rw [this, Nat.add_comm]
          simpa using hy
        have hS2 : ∀ W', Below wr.heap.size wr W' → (x.l.length ≠ 0 → ∃ p, B = some p ∧ ∀ j y, zs[j]? = some y → W'.cell? (p.add j) = some y) := by
          intro W' hb hne
          obtain ⟨pb, po, hp, hpb, hc⟩ := hz hne
          refine ⟨_, hp, fun j y hy => ?_⟩
          have hbw : Below w.heap.size w W' := hS.bl.trans (hb.mono hS.bl.size)
          rw [Addr.add_lit]
          exact (cell_same (p := ⟨pb, po + j, none⟩) (hbw.block pb (by omega))).trans (hc j y hy)
        have HS1 := Lib.hid hS1
        have HS2 := Lib.hid hS2
        have HS := Lib.hid hS
        clear hS1 hS2 hS hz hcells
        go_wp2_with fail
        have q1 : (1 : Int) ≤ (q.length : Int) + 1 := by omega
        have q2 : (1 : Int) ≤ (c3 : Int) := by omega
        have q3 : 1 ≤ c3 := by omega
        have q4 : 1 ≤ q.length + 1 := by omega
        go_region_law (first
          | (fail_if_success (have := hr1)
             refine step_append_src rfl (.tmp 18) (.tmp 20) 34 rfl 36 i0 (.agg #[.int .i64 0, .int .i64 0, .slice none 0 0]) 3 40 Try.underlying34 hi0 hz0 hz1 hz2 rfl (.slice (some ⟨_, 0, none⟩) 0 0) 0 [] rfl (by exact (Row.made_at (wr.alloc _) _ (by simp) 36 3 0 #[] [] rfl (by unfold maxLen; omega) rfl).drew) _ q.length _ ys rfl heny.len (by exact HS1.out _ (((Below.refl _ wr).alloc (Nat.le_refl _) _).alloc (by simp) _).drew) heny.one_cell (by unfold maxLen; omega) (by omega) ?_
             intro v1 w1 hr1 hg1 ho1
             simp only [Nat.zero_add, List.nil_append] at hr1
             obtain ⟨A1, cc1, rfl, _, _⟩ := hr1.form
             have hb1 : Below (wr.heap.size + 1) (wr.alloc (.cells #[.int .i64 x.k, .int .i64 x.n, .slice B x.l.length d] 36)) w1 := below_grown ((Below.refl _ _).alloc (by simp) _).drew hg1 (by simp) (own_lit (by omega))
             have hq1 := own_next ho1 (own_lit (n := wr.heap.size + 1) (by omega)) (by simp)
             have hx2 := ((Blk.new wr 36 #[.int .i64 x.k, .int .i64 x.n, .slice B x.l.length d]).keep (hb1.block _ (by simp))).cells3.2.2
             have hx3 : wr.heap.size < w1.heap.size := lt_of_cell hx2
             have hb1' : Below wr.heap.size wr w1 := ((Below.refl _ wr).alloc (Nat.le_refl _) _).trans (hb1.mono (by omega)))
          | (have hr1' := hr1
             refine step_append_src rfl (.tmp 21) (.tmp 23) 34 rfl 36 i0 (.agg #[.int .i64 0, .int .i64 0, .slice none 0 0]) 3 40 Try.underlying34 hi0 hz0 hz1 hz2 rfl (.slice A1 q.length cc1) q.length ys rfl hr1 _ x.l.length _ zs rfl henz.len (by exact HS2.out _ hb1') henz.one_cell (by unfold maxLen; omega) (by omega) ?_
             intro v2 w2 hr2 hg2 ho2
             obtain ⟨A2, cc2, rfl, _, _⟩ := hr2.form
             have hb2 : Below wr.heap.size wr w2 := below_grown hb1' hg2 hb1'.size (fun k e => Nat.le_trans (by omega) (hq1 k e))
             have hq2 := own_next ho2 hq1 hx3
             have hQn := SQ.next HS.out.sum hk (HS.out.bl.trans (hb2.mono HS.out.bl.size)) hr2 rfl (fun k e => Nat.le_trans (Nat.le_trans HS.out.bl.size (Nat.le_succ _)) (hq2 k e)) heny henz))
        all_goals go_wp2_with fail
        all_goals exact ⟨⟨k + 1, _, by go_num, hQn⟩, by simp [intOf]; omega⟩
      · have hkI : ¬ (k : Int) ≤ 256 := by omega
        have hE : (k : Int) = (T.sz : Int) := by have := hS.le; unfold V.sz; omega
        have HE := Lib.hid hE
        have HB := Lib.hid hS.bl
        clear hE hS hrow hen hlen hsum
        go_wp2_with fail
        go_ret
        exact ⟨by rw [HE.out]; rfl, HB.out⟩
end Go.Proofs.Ytmfcecfcfihgaaa
