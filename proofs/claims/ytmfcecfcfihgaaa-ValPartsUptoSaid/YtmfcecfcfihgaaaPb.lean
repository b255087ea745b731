/- place. -/
import Derived.Test.YtmfcecfcfihgaaaPa
namespace Go.Proofs.Ytmfcecfcfihgaaa
open Go.RowKit Go.Shelf
attribute [local go_sem] Oper.semAt_some

/-- The rest of a room: m values from off on, in the block g. -/
def RoomV (A : Option Addr) (g off m : Nat) : Prop := m ≠ 0 → A = some ⟨g, off, none⟩
/-- What a row of cells keeps: its length, and all but the cells from a to b. -/
structure Within (W W' : World) (g : Nat) (t : TypeId) (a b : Nat) : Prop where
  ex : ∃ cs cs', Blk W g t cs ∧ Blk W' g t cs' ∧ cs'.size = cs.size ∧ ∀ i, i < a ∨ b ≤ i → cs'[i]? = cs[i]?
  k : Keep (fun j => j = g) W W'
theorem Within.refl {W : World} {g : Nat} {t : TypeId} {cs : Array Value} (h : Blk W g t cs) (a b : Nat) : Within W W g t a b := ⟨⟨cs, cs, h, h, rfl, fun _ _ => rfl⟩, Keep.refl _ _⟩
theorem Blk.same {W : World} {g : Nat} {t : TypeId} {cs cs' : Array Value} (h : Blk W g t cs) (h' : Blk W g t cs') : cs = cs' := by
  unfold Blk at h h'
  rw [h] at h'
  simp only [Option.some.injEq, Obj.cells.injEq] at h'
  exact h'.1
theorem Within.trans {W W' W'' : World} {g : Nat} {t : TypeId} {a b : Nat} (h : Within W W' g t a b) (h' : Within W' W'' g t a b) : Within W W'' g t a b := by
  obtain ⟨cs, cs', h1, h2, h3, h4⟩ := h.ex
  obtain ⟨ds, ds', k1, k2, k3, k4⟩ := h'.ex
  have := h2.same k1
  subst this
  exact ⟨⟨cs, ds', h1, k2, k3.trans h3, fun i hi => (k4 i hi).trans (h4 i hi)⟩, h.k.trans h'.k⟩
theorem Within.mono {W W' : World} {g : Nat} {t : TypeId} {a b a' b' : Nat} (h : Within W W' g t a b) (ha : a' ≤ a) (hb : b ≤ b') : Within W W' g t a' b' := by
  obtain ⟨cs, cs', h1, h2, h3, h4⟩ := h.ex
  exact ⟨⟨cs, cs', h1, h2, h3, fun i hi => h4 i (by omega)⟩, h.k⟩
theorem Within.alloc {W W' : World} {g : Nat} {t : TypeId} {a b : Nat} (h : Within W W' g t a b) (o : Obj) : Within W (W'.alloc o) g t a b := by
  obtain ⟨cs, cs', h1, h2, h3, h4⟩ := h.ex
  exact ⟨⟨cs, cs', h1, h2.alloc o, h3, h4⟩, h.k.alloc o⟩
theorem Within.drewN {W W' : World} {g : Nat} {t : TypeId} {a b : Nat} (h : Within W W' g t a b) (n : Nat) : Within W (W'.drewN n) g t a b := by
  obtain ⟨cs, cs', h1, h2, h3, h4⟩ := h.ex
  exact ⟨⟨cs, cs', h1, h2.drewN n, h3, h4⟩, h.k.drewN n⟩
theorem Within.set {W W' : World} {g : Nat} {t : TypeId} {a b : Nat} (h : Within W W' g t a b) {i : Nat} (h1 : a ≤ i) (h2 : i < b) (u : Value) : Within W (W'.setCell ⟨g, i, none⟩ u) g t a b := by
  obtain ⟨cs, cs', e1, e2, e3, e4⟩ := h.ex
  exact ⟨⟨cs, _, e1, e2.set i u, by simpa using e3, fun j hj => by rw [Array.getElem?_setIfInBounds_ne (by omega)]; exact e4 j hj⟩, h.k.setCell (.inl rfl) _⟩
theorem Within.cell {W W' : World} {g : Nat} {t : TypeId} {a b : Nat} (h : Within W W' g t a b) {i : Nat} (hi : i < a ∨ b ≤ i) : W'.cell? ⟨g, i, none⟩ = W.cell? ⟨g, i, none⟩ := by
  obtain ⟨cs, cs', h1, h2, h3, h4⟩ := h.ex
  rw [h2.cell i, h1.cell i, h4 i hi]
theorem Within.blk {W W' : World} {g : Nat} {t : TypeId} {a b : Nat} {cs : Array Value} (h : Within W W' g t a b) (hb : Blk W g t cs) : ∃ cs', Blk W' g t cs' ∧ cs'.size = cs.size := by
  obtain ⟨cs0, cs', h1, h2, h3, h4⟩ := h.ex
  have := hb.same h1
  subst this
  exact ⟨cs', h2, h3⟩

theorem Within.far {W W' : World} {g : Nat} {t : TypeId} {a b : Nat} (h : Within W W' g t a b) {p : Addr} (hp : W.heap.size ≤ p.block) (hg : p.block ≠ g) (u : Value) : Within W (W'.setCell p u) g t a b := by
  obtain ⟨cs, cs', h1, h2, h3, h4⟩ := h.ex
  exact ⟨⟨cs, cs', h1, h2.far (fun e => hg e.symm) u, h3, h4⟩, h.k.setCell (.inr hp) u⟩
theorem Within.of_below {W W' : World} {g : Nat} {t : TypeId} {cs : Array Value} (hb : Blk W g t cs) (h : Below W.heap.size W W') (a b : Nat) : Within W W' g t a b :=
  ⟨⟨cs, cs, hb, hb.keep (h.block _ hb.lt), rfl, fun _ _ => rfl⟩, Keep.of_below h (fun _ h1 h2 => absurd h1 (by omega))⟩

/-- What place returns, and where it lies. -/
def PlacePost (w : World) (g off : Nat) (T : V) (m : Nat) (e : Ending) (w' : World) : Prop :=
  ∃ S c B, e = .returned (.tuple #[.agg #[.int .i64 T.k, .int .i64 T.n, .slice S T.l.length c], .slice B (m - V.sizeL T.l) (m - V.sizeL T.l)]) ∧ RoomV B g (off + 3 * V.sizeL T.l) (m - V.sizeL T.l) ∧
    InG w' g off (off + 3 * V.sizeL T.l) (.agg #[.int .i64 T.k, .int .i64 T.n, .slice S T.l.length c]) T ∧ Within w w' g 36 off (off + 3 * V.sizeL T.l)

/-- What place's loop keeps, behind j values. -/
structure PI (w : World) (g off : Nat) (l : List V) (j : Nat) (wr : World) : Prop where
  wi : Within w wr g 36 off (off + 3 * (l.length + sub l j))
  ex : ∃ f : Nat → Value, ∀ i x, i < j → l[i]? = some x → Three wr g (off + i * 3) (f i) ∧ InG wr g (off + 3 * l.length) (off + 3 * (l.length + sub l j)) (f i) x

theorem PI.start {w wr : World} {g off : Nat} {l : List V} (h : Within w wr g 36 off (off + 3 * (l.length + sub l 0))) : PI w g off l 0 wr := ⟨h, fun _ => undef, fun i x hi => by omega⟩
def set3 (W : World) (g o : Nat) (x y z : Value) : World := ((W.setCell ⟨g, o, none⟩ x).setCell ⟨g, o + 1, none⟩ y).setCell ⟨g, o + 2, none⟩ z
theorem set3_other {W : World} {g o : Nat} {x y z : Value} {i : Nat} (h : i < o ∨ o + 3 ≤ i) : (set3 W g o x y z).cell? ⟨g, i, none⟩ = W.cell? ⟨g, i, none⟩ := by
  unfold set3
  rw [World.cell?_setCell_other _ _ _ _ (by simp; try omega), World.cell?_setCell_other _ _ _ _ (by simp; try omega), World.cell?_setCell_other _ _ _ _ (by simp; try omega)]
theorem set3_three {W : World} {g o : Nat} {t : TypeId} {cs : Array Value} {x y z : Value} (hb : Blk W g t cs) (ho : o + 3 ≤ cs.size) : Three (set3 W g o x y z) g o (.agg #[x, y, z]) := by
  have h := ((hb.set o x).set (o + 1) y).set (o + 2) z
  refine ⟨x, y, z, rfl, ?_, ?_, ?_⟩
  · refine (h.cell o).trans ?_
    rw [Array.getElem?_setIfInBounds_ne (by omega), Array.getElem?_setIfInBounds_ne (by omega), Array.getElem?_setIfInBounds_self_of_lt (by omega)]
  · refine (h.cell (o + 1)).trans ?_
    rw [Array.getElem?_setIfInBounds_ne (by omega), Array.getElem?_setIfInBounds_self_of_lt (by simp; omega)]
  · refine (h.cell (o + 2)).trans ?_
    rw [Array.getElem?_setIfInBounds_self_of_lt (by simp; omega)]
theorem Within.set3 {W W' : World} {g : Nat} {t : TypeId} {a b o : Nat} (h : Within W W' g t a b) (h1 : a ≤ o) (h2 : o + 3 ≤ b) (x y z : Value) : Within W (set3 W' g o x y z) g t a b :=
  ((h.set h1 (by omega) x).set (by omega) (by omega) y).set (by omega) (by omega) z
theorem PI.next {w wr W4 w' : World} {g off j : Nat} {l : List V} {x : V} {S : Option Addr} {c : Nat} {o : Obj} (h : PI w g off l j wr) (hW : wr.alloc o = W4) (hx : l[j]? = some x)
    (hin : InG w' g (off + 3 * (l.length + sub l j)) (off + 3 * (l.length + sub l j) + 3 * V.sizeL x.l) (.agg #[.int .i64 x.k, .int .i64 x.n, .slice S x.l.length c]) x)
    (hwi : Within W4 w' g 36 (off + 3 * (l.length + sub l j)) (off + 3 * (l.length + sub l j) + 3 * V.sizeL x.l)) {cs : Array Value} (hb : Blk w' g 36 cs) (hsz : off + 3 * l.length ≤ cs.size) :
    PI w g off l (j + 1) (set3 w' g (off + j * 3) (.int .i64 x.k) (.int .i64 x.n) (.slice S x.l.length c)) := by
  have hj := (List.getElem?_eq_some_iff.1 hx).1
  have hs := sub_succ hx
  subst hW
  refine ⟨?_, ?_⟩
  · refine Within.set3 ?_ (by omega) (by omega) _ _ _
    exact ((h.wi.mono (Nat.le_refl _) (by omega)).alloc o).trans (hwi.mono (by omega) (by omega))
  · obtain ⟨f, hf⟩ := h.ex
    refine ⟨fun i => if i = j then .agg #[.int .i64 x.k, .int .i64 x.n, .slice S x.l.length c] else f i, fun i y hi hy => ?_⟩
    by_cases hij : i = j
    · subst hij
      rw [hx] at hy
      cases hy
      simp only [if_true]
      refine ⟨set3_three hb (by omega), ?_⟩
      exact (hin.keep (fun q h1 h2 => set3_other (.inr (by omega)))).mono (by omega) (by omega)
    · simp only [if_neg hij]
      obtain ⟨h3, h4⟩ := hf i y (by omega) hy
      have hlt : i < j := by omega
      have hb0 := h.wi.ex
      obtain ⟨cs0, cs1, k1, k2, k3, k4⟩ := hb0
      have ha : ∀ q, (wr.alloc o).cell? ⟨g, q, none⟩ = wr.cell? ⟨g, q, none⟩ := fun q => cell_same (Below.heap_alloc _ _ _ k2.lt)
      have hc : ∀ q, q < off + 3 * (l.length + sub l j) → (q < off + j * 3 ∨ off + j * 3 + 3 ≤ q) → (set3 w' g (off + j * 3) (.int .i64 x.k) (.int .i64 x.n) (.slice S x.l.length c)).cell? ⟨g, q, none⟩ = wr.cell? ⟨g, q, none⟩ :=
        fun q h1 h2 => (set3_other h2).trans ((hwi.cell (.inl h1)).trans (ha q))
      refine ⟨h3.cells (hc _ (by omega) (by omega)) (hc _ (by omega) (by omega)) (hc _ (by omega) (by omega)), ?_⟩
      exact (h4.keep (fun q h1 h2 => hc q (by omega) (by omega))).mono (Nat.le_refl _) (by omega)
theorem PI.done {w wr : World} {g off : Nat} {k n : Int} {l : List V} (h : PI w g off l l.length wr) (hk : W64 k) (hn : W64 n) (hm : l.length ≤ maxLen) :
    InG wr g off (off + 3 * V.sizeL l) (.agg #[.int .i64 k, .int .i64 n, .slice (some ⟨g, off, none⟩) l.length l.length]) (.mk k n l) := by
  obtain ⟨f, hf⟩ := h.ex
  have hs := sub_all l
  refine .mk k n l _ _ off f hk hn (Nat.le_refl _) hm (fun _ => ⟨rfl, Nat.le_refl _, by omega⟩) (fun i hi => ?_) (fun i x hx => ?_)
  · obtain ⟨x, hx⟩ : ∃ x, l[i]? = some x := ⟨_, List.getElem?_eq_getElem hi⟩
    exact (hf i x hi hx).1
  · exact ((hf i x (List.getElem?_eq_some_iff.1 hx).1 hx).2).mono (by omega) (by omega)
/-- The boxes of place. -/
structure PB (w : World) (k n : Int) (s : Value) (wr : World) : Prop where
  b0 : Blk wr w.heap.size 36 #[.int .i64 k, .int .i64 n, s]
  b1 : Blk wr (w.heap.size + 1) 36 #[.int .i64 0, .int .i64 0, .slice none 0 0]

set_option maxRecDepth 100000 in
set_option maxHeartbeats 3200000 in
theorem place_ok {hi g : Nat} : ∀ (T : V) (v : Value) (w : World) (A : Option Addr) (off m : Nat) (cs : Array Value), In w 0 hi v T → hi ≤ g → hi ≤ w.heap.size → Blk w g 36 cs → off + 3 * m ≤ cs.size → V.sizeL T.l ≤ m → m ≤ maxLen → RoomV A g off m →
    Calls Try.prog 81 #[v, .slice A m m] w (PlacePost w g off T m) := by
  intro T
  induction T using V.ind with
  | h k n l ih =>
    intro v w A off m cs h hg hh hblk hoff hsz hmm hroom
    obtain ⟨_, _, hk64, hn64, _⟩ := h.parts
    obtain ⟨X, cx, rfl, hx1, hx2, hls⟩ := h.val
    have hls : Ls w 0 hi (.slice X l.length cx) l := hls
    have hx1 : l.length ≤ cx := hx1
    unfold maxLen at hmm hx2
    simp only [V.k, V.n, V.l] at hk64 hn64 hsz ⊢
    by_cases hl : l = []
    · subst hl
      have hP : ∀ w', Below w.heap.size w w' → PlacePost w g off (.mk k n []) m (.returned (.tuple #[.agg #[.int .i64 k, .int .i64 n, .slice none 0 0], .slice A m m])) w' := fun w' hb => by
        refine ⟨none, 0, A, by simp [V.sizeL_nil, V.k, V.n, V.l], ?_, InG.leaf hk64 hn64, Within.of_below hblk hb _ _⟩
        simpa [V.l, V.sizeL_nil] using hroom
      have HP := Lib.hid hP
      clear hP h hls ih hroom hblk
      simp only [List.length_nil]
      go_enter Try.func81, Try.ntmps81
      go_wp2_with fail
      refine bodyPost_ret (v := .tuple #[.agg #[.int .i64 k, .int .i64 n, .slice none 0 0], .slice A m m]) (by simp [results, Try.results81, go_sem]) rfl ?_
      exact HP.out _ (below2 w _ _)
    · have hlen : (0 : Nat) < l.length := List.length_pos_iff.2 hl
      have hm0 := V.len_le_sizeL l
      have hA : A = some ⟨g, off, none⟩ := hroom (by omega)
      subst hA
      have hlI : ((l.length : Int) == 0) = false := by simp; omega
      have hl0 : (0 : Int) ≤ (l.length : Int) := by omega
      have hlm : (l.length : Int) ≤ (m : Int) := by omega
      go_enter Try.func81, Try.ntmps81
      go_wp2_with fail
      go_quiet (fail)
      obtain ⟨Y, hY⟩ : ∃ Y, (if m = l.length then some (⟨g, off, none⟩ : Addr) else some ⟨g, off + l.length * 3, none⟩) = Y := ⟨_, rfl⟩
      obtain ⟨W1, hW1⟩ : ∃ W1, (((w.alloc (.cells #[.int .i64 k, .int .i64 n, .slice X l.length cx] 36)).alloc (.cells #[.int .i64 0, .int .i64 0, .slice none 0 0] 36)).drewN nq) = W1 := ⟨_, rfl⟩
      have hRY : RoomV Y g (off + 3 * (l.length + sub l 0)) (m - l.length - sub l 0) := fun hne => by
        rw [← hY, if_neg (by rw [sub_zero] at hne; omega), sub_zero]
        congr 2; omega
      have hPI : PI w g off l 0 W1 := PI.start (by rw [← hW1]; exact (Within.of_below hblk (below2 w _ _) _ _).drewN nq)
      have hPB : PB w k n (.slice X l.length cx) W1 := by
        rw [← hW1]
        refine ⟨((Blk.new w _ _).alloc _).drewN nq, ?_⟩
        have := (Blk.new (w.alloc (.cells #[.int .i64 k, .int .i64 n, .slice X l.length cx] 36)) 36 #[.int .i64 0, .int .i64 0, .slice none 0 0]).drewN nq
        rwa [World.size_alloc] at this
      rw [hY, hW1]
      have z0 := hPB.b0.cell 0
      have z1 := hPB.b0.cell 1
      have z2 := hPB.b0.cell 2
      simp at z0 z1 z2
      have HY := Lib.hid hRY
      have HI := Lib.hid hPI
      have HB := Lib.hid hPB
      have HIH := Lib.hid ih
      have HL := Lib.hid hls
      have HK := Lib.hid hblk
      have HH := Lib.hid h
      clear hRY hPI hPB ih hls hblk hY hW1 h
      go_wp2
      go_loopw [8, 32] (fun r p wr => ∃ j : Nat, ∃ B : Option Addr, j ≤ l.length ∧ p = .int .i64 (j : Int) ∧ r = .slice B (m - l.length - sub l j) (m - l.length - sub l j) ∧ RoomV B g (off + 3 * (l.length + sub l j)) (m - l.length - sub l j) ∧ PI w g off l j wr ∧ PB w k n (.slice X l.length cx) wr) (fun _ p _ => l.length - (intOf p).toNat)
      case atStart =>
        refine ⟨0, Y, Nat.zero_le _, rfl, ?_, HY.out, HI.out, HB.out⟩
        rw [sub_zero]; rfl
      case round =>
        obtain ⟨j, B, hj, rfl, rfl, hR, hI, hP⟩ := hrel
        have hj0 : (0 : Int) ≤ (j : Int) := by omega
        have hwk := hI.wi.k
        have hgw : w.heap.size ≠ g := by have := HK.out.lt; omega
        by_cases hlt : j < l.length
        · have hltI : (j : Int) < (l.length : Int) := by omega
          obtain ⟨x, hx⟩ : ∃ x, l[j]? = some x := ⟨_, List.getElem?_eq_getElem hlt⟩
          have hlsr : Ls wr 0 hi (.slice X l.length cx) l := HL.out.keep (fun b _ hb => hwk.block b (by omega) (by omega))
          obtain ⟨b, o, sx, rfl, hb, hbh, _, q0, q1, q2, hix⟩ := hlsr.at_ hx
          obtain ⟨S, cS, rfl, _, _, _⟩ := hix.slice
          have hsub := sub_succ hx
          have hle := sub_le (l := l) (j := j + 1) (by omega)
          obtain ⟨W4, hW4⟩ : ∃ W4, wr.alloc (.cells #[.int .i64 x.k, .int .i64 x.n, .slice S x.l.length cS] 36) = W4 := ⟨_, rfl⟩
          obtain ⟨cs1, hk1, hs1⟩ := hI.wi.blk HK.out
          have hk4 : Blk W4 g 36 cs1 := by rw [← hW4]; exact hk1.alloc _
          have hix4 : In W4 0 hi (.agg #[.int .i64 x.k, .int .i64 x.n, .slice S x.l.length cS]) x := by rw [← hW4]; exact hix.after ((Below.refl _ wr).alloc (Nat.le_trans hh hwk.size) _)
          have hP4 : PB w k n (.slice (some ⟨b, o, none⟩) l.length cx) W4 := by rw [← hW4]; exact ⟨hP.b0.alloc _, hP.b1.alloc _⟩
          have hcall := HIH.out x (List.mem_of_getElem? hx) _ W4 B (off + 3 * (l.length + sub l j)) (m - l.length - sub l j) cs1 hix4 hg (by rw [← hW4]; exact Nat.le_trans hh (Nat.le_trans hwk.size (by simp))) hk4 (by omega) (by omega) (by unfold maxLen; omega) hR
          have hcall := hcall.mono (R' := fun e w' => ∃ S' c' B', e = .returned (.tuple #[.agg #[.int .i64 x.k, .int .i64 x.n, .slice S' x.l.length c'], .slice B' (m - l.length - sub l (j + 1)) (m - l.length - sub l (j + 1))]) ∧
              (∃ u0 u1 u2, w'.cell? ⟨g, off + j * 3, none⟩ = some u0 ∧ w'.cell? ⟨g, off + j * 3 + 1, none⟩ = some u1 ∧ w'.cell? ⟨g, off + j * 3 + 2, none⟩ = some u2) ∧ w'.frozen? ⟨g, off + j * 3, none⟩ = false ∧ w'.frozen? ⟨g, off + j * 3 + 1, none⟩ = false ∧ w'.frozen? ⟨g, off + j * 3 + 2, none⟩ = false ∧
              Hid (RoomV B' g (off + 3 * (l.length + sub l (j + 1))) (m - l.length - sub l (j + 1)) ∧ PI w g off l (j + 1) (set3 w' g (off + j * 3) (.int .i64 x.k) (.int .i64 x.n) (.slice S' x.l.length c')) ∧ PB w k n (.slice (some ⟨b, o, none⟩) l.length cx) (set3 w' g (off + j * 3) (.int .i64 x.k) (.int .i64 x.n) (.slice S' x.l.length c'))))
            (fun e w' hq => by
              obtain ⟨S', c', B', rfl, h1, h2, h3⟩ := hq
              obtain ⟨cs2, hk5, hs5⟩ := h3.blk hk4
              have e1 : m - l.length - sub l j - V.sizeL x.l = m - l.length - sub l (j + 1) := by omega
              have e2 : off + 3 * (l.length + sub l j) + 3 * V.sizeL x.l = off + 3 * (l.length + sub l (j + 1)) := by omega
              refine ⟨S', c', B', by rw [e1], ⟨_, _, _, (hk5.cell _).trans (Array.getElem?_eq_getElem (by omega)), (hk5.cell _).trans (Array.getElem?_eq_getElem (by omega)), (hk5.cell _).trans (Array.getElem?_eq_getElem (by omega))⟩, hk5.frozen _, hk5.frozen _, hk5.frozen _, Lib.hid ⟨?_, ?_, ?_⟩⟩
              · rw [e1, e2] at h1; exact h1
              · exact hI.next hW4 hx h2 h3 hk5 (by omega)
              · have hb0 := (hP4.b0.keep (h3.k.block _ hP4.b0.lt hgw))
                have hb1 := (hP4.b1.keep (h3.k.block _ hP4.b1.lt (by
                  have := HK.out.lt; omega)))
                exact ⟨((hb0.far hgw _).far hgw _).far hgw _, ((hb1.far (by have := HK.out.lt; simp; omega) _).far (by have := HK.out.lt; simp; omega) _).far (by have := HK.out.lt; simp; omega) _⟩)
          rw [← hW4] at hcall
          have HP := Lib.hid hP
          have HW := Lib.hid hW4
          clear hsub hle hlsr hix hix4 hk1 hk4 hP4 hI hP hW4 hx hR hwk
          go_wp2_with (go_at_call 81; refine hcall.mono ?_; rintro e w' ⟨S', c', B', rfl, ⟨u0, u1, u2, d0, d1, d2⟩, f0, f1, f2, hH⟩)
          exact ⟨⟨j + 1, B', by omega, by go_num, rfl, hH.out.1, hH.out.2.1, hH.out.2.2⟩, by simp [intOf]; omega⟩
        · have hltI : ¬ (j : Int) < (l.length : Int) := by omega
          obtain rfl : j = l.length := by omega
          have hs := sub_all l
          have hD := hI.done hk64 hn64 (by unfold maxLen; omega)
          have y0 := hP.b0.cell 0
          have y1 := hP.b0.cell 1
          have v0 := hP.b1.cell 0
          have v1 := hP.b1.cell 1
          have v2 := hP.b1.cell 2
          have f0 := hP.b1.frozen 0
          have f1 := hP.b1.frozen 1
          have f2 := hP.b1.frozen 2
          simp at y0 y1 v0 v1 v2
          have hg1 : w.heap.size + 1 ≠ g := by have := HK.out.lt; omega
          have hfin : ∀ u0 u1 u2 : Value, PlacePost w g off (.mk k n l) m (.returned (.tuple #[.agg #[.int .i64 k, .int .i64 n, .slice (some ⟨g, off, none⟩) l.length l.length], .slice B (m - V.sizeL l) (m - V.sizeL l)])) (set3 wr (w.heap.size + 1) 0 u0 u1 u2) := fun u0 u1 u2 => by
            refine ⟨some ⟨g, off, none⟩, l.length, B, rfl, ?_, ?_, ?_⟩
            · have e1 : m - l.length - sub l l.length = m - V.sizeL l := by omega
              rw [e1, hs] at hR
              exact hR
            · refine hD.keep (fun i _ _ => ?_)
              unfold set3
              rw [World.cell?_setCell_other _ _ _ _ (by simp; try omega), World.cell?_setCell_other _ _ _ _ (by simp; try omega), World.cell?_setCell_other _ _ _ _ (by simp; try omega)]
            · have := hI.wi
              rw [hs] at this
              exact ((this.far (by simp) hg1 _).far (by simp) hg1 _).far (by simp) hg1 _
          have HF := Lib.hid hfin
          obtain ⟨_, _, _, ee, r0, r1, r2⟩ := set3_three (x := .int .i64 k) (y := .int .i64 n) (z := .slice (some ⟨g, off, none⟩) l.length l.length) (o := 0) hP.b1 (by simp)
          obtain ⟨rfl, rfl, rfl⟩ := agg3 ee
          unfold set3 at r0 r1 r2
          simp only [Nat.zero_add] at r0 r1 r2
          have e1 : m - l.length - sub l l.length = m - V.sizeL l := by omega
          rw [e1]
          clear hfin hD hI hP hR hs e1 hwk
          go_wp2
          refine bodyPost_ret (v := .tuple #[.agg #[.int .i64 k, .int .i64 n, .slice (some ⟨g, off, none⟩) l.length l.length], .slice B (m - V.sizeL l) (m - V.sizeL l)]) (by simp [results, Try.results81, go_sem, r0, r1, r2]) rfl ?_
          exact HF.out _ _ _
end Go.Proofs.Ytmfcecfcfihgaaa
