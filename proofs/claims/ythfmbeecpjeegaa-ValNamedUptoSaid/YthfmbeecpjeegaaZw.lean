/- ValNamed's walk. -/
import Derived.Test.YthfmbeecpjeegaaNw
import Derived.Test.YthfmbeecpjeegaaZm
import Derived.Test.YthfmbeecpjeegaaXn
import Derived.Deep.RegionHeld3
import Derived.Deep.Cut
import Derived.Deep.CutBlock
namespace Go.Proofs.Ythfmbeecpjeegaa
open Go.RowKit Go.Shelf
attribute [local go_sem] Oper.semAt_some store_nilFunc store_func

/-- The Kinds, the numbers and the values of the ten. -/
def Kd : Nat → Int
  | 0 => 3 | 1 => 4 | 2 => 13 | 3 => 5 | 4 => 6 | 5 => 7 | 6 => 9 | 7 => 10 | 8 => 11 | _ => 12
def Md (n : Int) : Nat → Int
  | 1 => n | 2 => n | 7 => n | 8 => n | 9 => n | _ => 0
def Ow (T U : V) (l : List V) : Nat → List V
  | 0 => [T, U] | 1 => [] | 2 => [] | 3 => [T, U] | 4 => [T] | 5 => [T] | 6 => l | 7 => T :: l | 8 => l | _ => l
theorem ten {j : Nat} (h : j < 10) : j = 0 ∨ j = 1 ∨ j = 2 ∨ j = 3 ∨ j = 4 ∨ j = 5 ∨ j = 6 ∨ j = 7 ∨ j = 8 ∨ j = 9 := by omega
theorem kd_w64 {j : Nat} (h : j < 10) : W64 (Kd j) := by
  rcases ten h with rfl | rfl | rfl | rfl | rfl | rfl | rfl | rfl | rfl | rfl
  · exact (by unfold W64; omega : W64 3)
  · exact (by unfold W64; omega : W64 4)
  · exact (by unfold W64; omega : W64 13)
  · exact (by unfold W64; omega : W64 5)
  · exact (by unfold W64; omega : W64 6)
  · exact (by unfold W64; omega : W64 7)
  · exact (by unfold W64; omega : W64 9)
  · exact (by unfold W64; omega : W64 10)
  · exact (by unfold W64; omega : W64 11)
  · exact (by unfold W64; omega : W64 12)
theorem md_w64 {n : Int} (hn : W64 n) {j : Nat} (h : j < 10) : W64 (Md n j) := by
  rcases ten h with rfl | rfl | rfl | rfl | rfl | rfl | rfl | rfl | rfl | rfl <;> first | exact hn | exact w64_zero
theorem ow_len {T U : V} {l : List V} {j : Nat} (h : j < 10) (hl : l.length ≤ 20) : (Ow T U l j).length ≤ 1000 := by
  rcases ten h with rfl | rfl | rfl | rfl | rfl | rfl | rfl | rfl | rfl | rfl <;> (simp only [Ow, List.length_cons, List.length_nil]; omega)
theorem ow_size {T U : V} {l : List V} {j : Nat} (h : j < 10) (k n : Int) (hT : T.size ≤ 1048576) (hU : U.size ≤ 1048576) (hl : V.sizeL l ≤ 1048576) : (V.mk k n (Ow T U l j)).size ≤ 1000000000000 := by
  rw [V.size_mk]
  rcases ten h with rfl | rfl | rfl | rfl | rfl | rfl | rfl | rfl | rfl | rfl <;> (simp only [Ow, V.sizeL_cons, V.sizeL_nil]; omega)

/-- Values in flight: each lies in memory. -/
def Fl (B W : World) (L : List (V × Option Addr × Nat)) : Prop := Below B.heap.size B W ∧ ∀ e ∈ L, In W 0 W.heap.size (vOf e.1 e.2.1 e.2.2) e.1
theorem Fl.bel {B W : World} {L : List (V × Option Addr × Nat)} (h : Fl B W L) : Below B.heap.size B W := h.1
theorem Fl.below {B W W' : World} {L : List (V × Option Addr × Nat)} (h : Fl B W L) (hb : Below W.heap.size W W') : Fl B W' L := ⟨h.1.trans (hb.mono h.1.size), fun e he => (h.2 e he).grow hb⟩
theorem Fl.drew {B W : World} {L : List (V × Option Addr × Nat)} (h : Fl B W L) : Fl B W.drew L := h.below (Below.refl _ W).drew
def Flies (B : World) (L : List (V × Option Addr × Nat)) (X : V) (err : Int) (e : Ending) (w' : World) : Prop :=
  ∃ S c, e = .returned (.tuple #[.agg #[.int .i64 X.k, .int .i64 X.n, .slice S X.l.length c], .int .i64 err]) ∧ Hid (Fl B w' ((X, S, c) :: L))
theorem flies_of {B W : World} {L : List (V × Option Addr × Nat)} {X : V} {err : Int} {f : Nat} {args : Array Value} {p : V × Int} (hp : p = (X, err)) (h : Hid (Fl B W L)) (hc : Calls Try.prog f args W (MadeP W p.1 p.2)) : Calls Try.prog f args W (Flies B L X err) := by
  subst hp
  refine hc.mono ?_
  rintro e w' ⟨S, c, rfl, hi, hb⟩
  refine ⟨S, c, rfl, Lib.hid ⟨(h.out.below hb).1, fun e he => ?_⟩⟩
  rcases List.mem_cons.1 he with rfl | he
  · exact hi.mono (Nat.zero_le _) (Nat.le_refl _)
  · exact (h.out.below hb).2 e he
section
variable {B W : World} {L : List (V × Option Addr × Nat)} {T U X : V} {err n : Int} {u v s : Value} {l : List V}
theorem Fl.in_ (h : Fl B W L) (hu : In B 0 B.heap.size u T) : In W 0 W.heap.size u T := (hu.after h.1).mono (Nat.le_refl _) h.1.size
theorem Fl.ls_ (h : Fl B W L) (hs : Ls B 0 B.heap.size s l) : Ls W 0 W.heap.size s l := (hs.after h.1).mono (Nat.le_refl _) h.1.size
theorem fly_Pair (he : makeV (.mk 3 0 [T, U]) = (X, err)) (h : Hid (Fl B W L)) (hu : In B 0 B.heap.size u T) (hv : In B 0 B.heap.size v U) : Calls Try.prog 27 #[u, v] W (Flies B L X err) := flies_of he h (Pair_ok W (h.out.in_ hu) (h.out.in_ hv) (Nat.le_refl _))
theorem fly_Send (he : makeV (.mk 5 0 [T, U]) = (X, err)) (h : Hid (Fl B W L)) (hu : In B 0 B.heap.size u T) (hv : In B 0 B.heap.size v U) : Calls Try.prog 30 #[u, v] W (Flies B L X err) := flies_of he h (Send_ok W (h.out.in_ hu) (h.out.in_ hv) (Nat.le_refl _))
theorem fly_Recv (he : makeV (.mk 6 0 [T]) = (X, err)) (h : Hid (Fl B W L)) (hu : In B 0 B.heap.size u T) : Calls Try.prog 31 #[u] W (Flies B L X err) := flies_of he h (Recv_ok W (h.out.in_ hu) (Nat.le_refl _))
theorem fly_Always (he : makeV (.mk 7 0 [T]) = (X, err)) (h : Hid (Fl B W L)) (hu : In B 0 B.heap.size u T) : Calls Try.prog 32 #[u] W (Flies B L X err) := flies_of he h (Always_ok W (h.out.in_ hu) (Nat.le_refl _))
theorem fly_Chan (he : makeV (.mk 4 n []) = (X, err)) (hn : W64 n) (h : Hid (Fl B W L)) : Calls Try.prog 28 #[.int .i64 n] W (Flies B L X err) := flies_of he h (Chan_ok n hn W)
theorem fly_Cond (he : makeV (.mk 13 n []) = (X, err)) (hn : W64 n) (h : Hid (Fl B W L)) : Calls Try.prog 29 #[.int .i64 n] W (Flies B L X err) := flies_of he h (Cond_ok n hn W)
theorem fly_Choose (he : makeV (.mk 9 0 l) = (X, err)) (h : Hid (Fl B W L)) (hs : Ls B 0 B.heap.size s l) : Calls Try.prog 33 #[s] W (Flies B L X err) := flies_of he h (Choose_ok W (h.out.ls_ hs) (Nat.le_refl _))
theorem fly_Wrap (he : makeV (.mk 10 n (T :: l)) = (X, err)) (hn : W64 n) (hl : l.length ≤ 1000) (h : Hid (Fl B W L)) (hu : In B 0 B.heap.size u T) (hs : Ls B 0 B.heap.size s l) : Calls Try.prog 34 #[.int .i64 n, u, s] W (Flies B L X err) := flies_of he h (Wrap_ok n hn W (h.out.in_ hu) (h.out.ls_ hs) (Nat.le_refl _) hl)
theorem fly_Guard (he : makeV (.mk 11 n l) = (X, err)) (hn : W64 n) (h : Hid (Fl B W L)) (hs : Ls B 0 B.heap.size s l) : Calls Try.prog 35 #[.int .i64 n, s] W (Flies B L X err) := flies_of he h (Guard_ok n hn W (h.out.ls_ hs) (Nat.le_refl _))
theorem fly_Nack (he : makeV (.mk 12 n l) = (X, err)) (hn : W64 n) (h : Hid (Fl B W L)) (hs : Ls B 0 B.heap.size s l) : Calls Try.prog 36 #[.int .i64 n, s] W (Flies B L X err) := flies_of he h (Nack_ok n hn W (h.out.ls_ hs) (Nat.le_refl _))
theorem fly_of {k m : Int} {S : Option Addr} {a c : Nat} (h : Hid (Fl B W L)) : Calls Try.prog 26 #[.agg #[.int .i64 k, .int .i64 m, .slice S a c], .int .i64 err] W fun e w' => e = .returned (.agg #[.int .i64 k, .int .i64 m, .slice S a c, .int .i64 err]) ∧ Hid (Fl B w' L) :=
  (of_ok k m err S a c W).mono fun _ _ q => ⟨q.1, Lib.hid (h.out.below q.2)⟩
theorem use_rMakeL {k : Int} {Lb : List Box} (he : makeV (.mk k n l) = (X, err)) (hk : W64 k) (hn : W64 n) (h : Hid (St B W Lb)) (hl : Ls W 0 W.heap.size s l) (h2 : l.length ≤ 1000) (h3 : (V.mk k n l).size ≤ 1000000000000) : Calls Try.prog 25 #[.int .i64 k, .int .i64 n, s] W (Puts B Lb X err) :=
  putsR_of he h (rMake_ok k n hk hn W hl (Nat.le_refl _) h2 h3)
theorem use_rSelfE {Lb : List Box} {b : Nat} {S S' : Option Addr} {c c' : Nat} (h : Hid (St B W Lb)) (hm : BoxV W b X S c) (hv : In B 0 B.heap.size (.agg #[.int .i64 X.k, .int .i64 X.n, .slice S' X.l.length c']) X) (hX : X.size ≤ 256) :
    Calls Try.prog 21 #[.agg #[.int .i64 X.k, .int .i64 X.n, .slice S' X.l.length c'], .agg #[.int .i64 X.k, .int .i64 X.n, .slice S X.l.length c]] W (Gives B Lb (.bool true)) := by
  have := rSame_ok W (hv.at_base h.out) hm.2 (Nat.le_refl _) (Nat.le_trans hX (by omega)) (Nat.le_trans hX (by omega))
  rw [same_self] at this
  simp only [hX, decide_true] at this
  exact gives_of h this
theorem use_rLeaf {Lb : List Box} {k : Int} (hk : W64 k) (hn : W64 n) (h : Hid (St B W Lb)) : Calls Try.prog 21 #[.agg #[.int .i64 k, .int .i64 n, .slice none 0 0], .agg #[.int .i64 k, .int .i64 n, .slice none 0 0]] W (Gives B Lb (.bool true)) := by
  have h1 : (V.mk k n []).size = 1 := leaf_size k n
  have := rSame_ok W (leaf_in W 0 W.heap.size k n hk hn) (leaf_in W 0 W.heap.size k n hk hn) (Nat.le_refl _) (by rw [h1]; omega) (by rw [h1]; omega)
  rw [same_self, h1] at this
  exact gives_of h this
end
/-- What the ten came to, and where it stands. -/
def Ten (B : World) (G : Nat) (n : Int) (T U : V) (l : List V) (j : Nat) : Prop :=
  ∃ X S c err, makeV (.mk (Kd j) (Md n j) (Ow T U l j)) = (X, err) ∧ X.size ≤ 256 ∧ B.cell? ⟨G, j * 4, none⟩ = some (.int .i64 X.k) ∧ B.cell? ⟨G, j * 4 + 1, none⟩ = some (.int .i64 X.n) ∧ B.cell? ⟨G, j * 4 + 2, none⟩ = some (.slice S X.l.length c) ∧
    B.cell? ⟨G, j * 4 + 3, none⟩ = some (.int .i64 err) ∧ In B 0 B.heap.size (.agg #[.int .i64 X.k, .int .i64 X.n, .slice S X.l.length c]) X
theorem Ten.below {W B : World} {G : Nat} {n : Int} {T U : V} {l : List V} {j : Nat} (h : Ten W G n T U l j) (hb : Below W.heap.size W B) : Ten B G n T U l j := by
  obtain ⟨X, S, c, err, h1, h2, c0, c1, c2, c3, hi⟩ := h
  have hk : ∀ p v, W.cell? ⟨G, p, none⟩ = some v → B.cell? ⟨G, p, none⟩ = some v := fun p v h => (cell_same (hb.block _ (lt_of_cell h))).trans h
  exact ⟨X, S, c, err, h1, h2, hk _ _ c0, hk _ _ c1, hk _ _ c2, hk _ _ c3, hi.grow hb⟩
/-- What region 9 leaves. -/
def OutT (W1 : World) (n : Int) (T U : V) (l : List V) (a : Value) (wx : World) : Prop :=
  ∃ G, a = .slice (some ⟨G, 0, none⟩) 10 10 ∧ Below W1.heap.size W1 wx ∧ G < wx.heap.size ∧ ∀ j, j < 10 → Ten wx G n T U l j
/-- The values of a round, and its number. -/
def OwP (B : World) (n : Int) (T U : V) (l : List V) (j : Nat) (a m : Value) (W : World) : Prop :=
  m = .int .i64 (Md n j) ∧ St B W [] ∧ ∃ A c, a = .slice A (Ow T U l j).length c ∧ (Ow T U l j).length ≤ c ∧ c ≤ maxLen ∧ Ls W 0 W.heap.size (.slice A (Ow T U l j).length c) (Ow T U l j)
theorem St.owP {B W : World} {n : Int} {T U : V} {l : List V} {j : Nat} {a : Value} (h : St B W []) (hl : Ls W 0 W.heap.size a (Ow T U l j)) : OwP B n T U l j a (.int .i64 (Md n j)) W := by
  obtain ⟨A, c, rfl, h1, h2⟩ := hl.form
  exact ⟨rfl, h, A, c, rfl, h1, h2, hl⟩

set_option maxRecDepth 100000 in
set_option maxHeartbeats 12800000 in
theorem named_walk (n : Int) (hn : W64 n) (T U : V) (u v : Value) (l : List V) (s : Value) (w : World) (h : In w 0 w.heap.size u T) (h' : In w 0 w.heap.size v U) (hs : Ls w 0 w.heap.size s l) (hT : T.size ≤ 1048576) (hU : U.size ≤ 1048576) (hl : V.sizeL l ≤ 1048576) :
    Calls Try.prog 8 #[.int .i64 n, u, v, s] w fun e w' => e = .returned (.bool true) ∧ Below w.heap.size w w' := by
  obtain ⟨i0, hi0, hz0, hz1, hz2⟩ := info_parts valInfo
  obtain ⟨A, ca, rfl, _, _, _⟩ := h.val
  obtain ⟨B', cb, rfl, _, _, _⟩ := h'.val
  obtain ⟨D, d, rfl, hd1, hd2⟩ := hs.form
  unfold maxLen at hd2
  have hst0 := St.start2 h h'
  have hBw := Lib.hid (below2 w (.cells #[.int .i64 T.k, .int .i64 T.n, .slice A T.l.length ca] 25) (.cells #[.int .i64 U.k, .int .i64 U.n, .slice B' U.l.length cb] 25))
  obtain ⟨W1, hW1⟩ : ∃ W1, (w.alloc (.cells #[.int .i64 T.k, .int .i64 T.n, .slice A T.l.length ca] 25)).alloc (.cells #[.int .i64 U.k, .int .i64 U.n, .slice B' U.l.length cb] 25) = W1 := ⟨_, rfl⟩
  rw [hW1] at hst0 hBw
  have hTB : In W1 0 W1.heap.size (.agg #[.int .i64 T.k, .int .i64 T.n, .slice A T.l.length ca]) T := hst0.tail.head.2
  have hUB : In W1 0 W1.heap.size (.agg #[.int .i64 U.k, .int .i64 U.n, .slice B' U.l.length cb]) U := hst0.head.2
  have hlB : Ls W1 0 W1.heap.size (.slice D l.length d) l := (hs.after hBw.out).mono (Nat.le_refl _) hBw.out.size
  have hX : ∀ W, Below W1.heap.size W1 W → W.cell? ⟨w.heap.size, 0, none⟩ = some (.int .i64 T.k) ∧ W.cell? ⟨w.heap.size, 1, none⟩ = some (.int .i64 T.n) ∧ W.cell? ⟨w.heap.size, 2, none⟩ = some (.slice A T.l.length ca) ∧
      W.cell? ⟨w.heap.size + 1, 0, none⟩ = some (.int .i64 U.k) ∧ W.cell? ⟨w.heap.size + 1, 1, none⟩ = some (.int .i64 U.n) ∧ W.cell? ⟨w.heap.size + 1, 2, none⟩ = some (.slice B' U.l.length cb) := fun W hW => by
    obtain ⟨⟨y0, y1, y2⟩, ⟨x0, x1, x2⟩, _⟩ := (hst0.rebase.below hW).cells
    exact ⟨x0, x1, x2, y0, y1, y2⟩
  have hstB : Hid (St W1 W1 []) := Lib.hid ⟨Below.refl _ W1, trivial⟩
  have HX := Lib.hid hX
  have HT := Lib.hid hTB
  have HU := Lib.hid hUB
  have HLB := Lib.hid hlB
  have HTS := Lib.hid hT
  have HUS := Lib.hid hU
  have HLS := Lib.hid hl
  clear h h' hs hst0 hTB hUB hlB hX hT hU hl
  go_enter Try.func8, Try.ntmps8
  go_upto_region 1 with fail
  (try rw [hW1])
  obtain ⟨x0, x1, x2, y0, y1, y2⟩ := HX.out _ (Below.refl _ W1)
  rcases Nat.lt_or_ge 20 l.length with hlen | hlen
  · have hlenI : (20 : Int) < (l.length : Int) := by omega
    go_wp2_with (go_at_call 18; (with_reducible refine (use_works hstB).mono ?_); rintro e wi ⟨rfl, hst⟩)
    go_ret
    exact ⟨rfl, hBw.out.trans (hst.out.bel.mono hBw.out.size)⟩
  have hlenI : ¬ (20 : Int) < (l.length : Int) := by omega
  rcases (sz_cases T).symm with ⟨_, hT2⟩ | ⟨_, hT2⟩
  · go_wp2_with (first
      | (go_at_call 15; (with_reducible refine (use_rSizeE hstB HT.out HTS.out).mono ?_); rintro e wi ⟨rfl, hst⟩; obtain ⟨x0, x1, x2, y0, y1, y2⟩ := HX.out _ hst.out.bel)
      | (go_at_call 18; (with_reducible refine (use_works hst).mono ?_); rintro e wi ⟨rfl, hst⟩))
    go_ret
    exact ⟨rfl, hBw.out.trans (hst.out.bel.mono hBw.out.size)⟩
  rcases (sz_cases U).symm with ⟨_, hU2⟩ | ⟨_, hU2⟩
  · go_wp2_with (first
      | (go_at_call 15; (with_reducible refine (use_rSizeE hstB HT.out HTS.out).mono ?_); rintro e wi ⟨rfl, hst⟩; obtain ⟨x0, x1, x2, y0, y1, y2⟩ := HX.out _ hst.out.bel)
      | (go_at_call 15; (with_reducible refine (use_rSizeE hst HU.out HUS.out).mono ?_); rintro e wi ⟨rfl, hst⟩; obtain ⟨x0, x1, x2, y0, y1, y2⟩ := HX.out _ hst.out.bel)
      | (go_at_call 18; (with_reducible refine (use_works hst).mono ?_); rintro e wi ⟨rfl, hst⟩))
    go_ret
    exact ⟨rfl, hBw.out.trans (hst.out.bel.mono hBw.out.size)⟩
  go_wp2_with (first
    | (go_at_call 15; (with_reducible refine (use_rSizeE hstB HT.out HTS.out).mono ?_); rintro e wi ⟨rfl, hst⟩; obtain ⟨x0, x1, x2, y0, y1, y2⟩ := HX.out _ hst.out.bel)
    | (go_at_call 15; (with_reducible refine (use_rSizeE hst HU.out HUS.out).mono ?_); rintro e wi ⟨rfl, hst⟩; obtain ⟨x0, x1, x2, y0, y1, y2⟩ := HX.out _ hst.out.bel))
  clear x0 x1 x2 y0 y1 y2 hstB
  go_loopw [9] (fun p wr => ∃ j : Nat, j ≤ l.length ∧ p = .int .i64 (j : Int) ∧ Hid (St W1 wr [])) (fun p _ => l.length - (intOf p).toNat)
  case atStart => exact ⟨0, Nat.zero_le _, rfl, hst⟩
  case round =>
    obtain ⟨j, hj, rfl, hstj⟩ := hrel
    clear hst
    have hst := hstj
    clear hstj
    have hj0 : (0 : Int) ≤ (j : Int) := by omega
    by_cases hlt : j < l.length
    · have hltI : (j : Int) < (l.length : Int) := by omega
      obtain ⟨x, hx⟩ : ∃ x, l[j]? = some x := ⟨_, List.getElem?_eq_getElem hlt⟩
      obtain ⟨b, o, sx, rfl, hb, hbh, _, q0, q1, q2, hix⟩ := (HLB.out.after hst.out.bel).at_ hx
      obtain ⟨X, cx, rfl, _, _, _⟩ := hix.slice
      have hcall := (rSize_ok wr hix hst.out.bel.size (Nat.le_trans (size_mem hx) (Nat.le_trans HLS.out (by omega)))).mono
        (R' := fun e w' => e = .returned (.int .i64 (x.sz : Int)) ∧ Hid (St W1 w' [])) (fun e w' q => ⟨q.1, Lib.hid (hst.out.below q.2)⟩)
      have HC := Lib.hid hcall
      clear hcall hix hx hst
      rcases sz_cases x with ⟨_, h1⟩ | ⟨_, h1⟩
      · go_wp2_with (go_at_call 15; refine HC.out.mono ?_; rintro e w1 ⟨rfl, hst⟩)
        exact ⟨⟨j + 1, by omega, by go_num, hst⟩, by simp [intOf]; omega⟩
      · go_wp2_with (first | (go_at_call 15; refine HC.out.mono ?_; rintro e w1 ⟨rfl, hst⟩) | (go_at_call 18; (with_reducible refine (use_works hst).mono ?_); rintro e wi ⟨rfl, hst⟩))
        go_ret
        exact ⟨rfl, hBw.out.trans (hst.out.bel.mono hBw.out.size)⟩
    · have hltI : ¬ (j : Int) < (l.length : Int) := by omega
      clear hlt hj
      obtain ⟨X0, r0, hE0⟩ : ∃ X err, makeV (.mk 3 0 [T, U]) = (X, err) := ⟨_, _, rfl⟩
      have HE0 := Lib.hid hE0
      clear hE0
      obtain ⟨X1, r1, hE1⟩ : ∃ X err, makeV (.mk 4 n []) = (X, err) := ⟨_, _, rfl⟩
      have HE1 := Lib.hid hE1
      clear hE1
      obtain ⟨X2, r2, hE2⟩ : ∃ X err, makeV (.mk 13 n []) = (X, err) := ⟨_, _, rfl⟩
      have HE2 := Lib.hid hE2
      clear hE2
      obtain ⟨X3, r3, hE3⟩ : ∃ X err, makeV (.mk 5 0 [T, U]) = (X, err) := ⟨_, _, rfl⟩
      have HE3 := Lib.hid hE3
      clear hE3
      obtain ⟨X4, r4, hE4⟩ : ∃ X err, makeV (.mk 6 0 [T]) = (X, err) := ⟨_, _, rfl⟩
      have HE4 := Lib.hid hE4
      clear hE4
      obtain ⟨X5, r5, hE5⟩ : ∃ X err, makeV (.mk 7 0 [T]) = (X, err) := ⟨_, _, rfl⟩
      have HE5 := Lib.hid hE5
      clear hE5
      obtain ⟨X6, r6, hE6⟩ : ∃ X err, makeV (.mk 9 0 l) = (X, err) := ⟨_, _, rfl⟩
      have HE6 := Lib.hid hE6
      clear hE6
      obtain ⟨X7, r7, hE7⟩ : ∃ X err, makeV (.mk 10 n (T :: l)) = (X, err) := ⟨_, _, rfl⟩
      have HE7 := Lib.hid hE7
      clear hE7
      obtain ⟨X8, r8, hE8⟩ : ∃ X err, makeV (.mk 11 n l) = (X, err) := ⟨_, _, rfl⟩
      have HE8 := Lib.hid hE8
      clear hE8
      obtain ⟨X9, r9, hE9⟩ : ∃ X err, makeV (.mk 12 n l) = (X, err) := ⟨_, _, rfl⟩
      have HE9 := Lib.hid hE9
      clear hE9
      have HLN : Hid (l.length ≤ 1000) := Lib.hid (by omega)
      have hf : Hid (Fl W1 wr []) := Lib.hid ⟨hst.out.bel, by simp⟩
      clear hst
      obtain ⟨x0, x1, x2, y0, y1, y2⟩ := HX.out _ hf.out.bel
      go_upto_region 9 with fail
      go_cut [11] from 45 to 111 (fun a wx => OutT W1 n T U l a wx)
      case first =>
        dsimp only [List.append_eq, List.cons_append, List.nil_append]
        have hf' := Lib.hid hf.out.drew
        clear hf x0 x1 x2 y0 y1 y2
        have hf := hf'
        clear hf'
        obtain ⟨x0, x1, x2, y0, y1, y2⟩ := HX.out _ hf.out.bel
        go_region_held3 (fun w' => w'.cell? ⟨w.heap.size, 0, none⟩ = some (.int .i64 T.k) ∧ w'.cell? ⟨w.heap.size, 1, none⟩ = some (.int .i64 T.n) ∧ w'.cell? ⟨w.heap.size, 2, none⟩ = some (.slice A T.l.length ca) ∧ w'.cell? ⟨w.heap.size + 1, 0, none⟩ = some (.int .i64 U.k) ∧ w'.cell? ⟨w.heap.size + 1, 1, none⟩ = some (.int .i64 U.n) ∧ w'.cell? ⟨w.heap.size + 1, 2, none⟩ = some (.slice B' U.l.length cb)) (first | with_reducible exact ⟨x0, x1, x2, y0, y1, y2⟩ | go_keep) ((first
              | (go_at_call 27; (with_reducible refine (fly_Pair HE0.out hf HT.out HU.out).mono ?_); rintro e w0 ⟨S0, c0, rfl, hf⟩; obtain ⟨x0, x1, x2, y0, y1, y2⟩ := HX.out _ hf.out.bel) | (go_at_call 28; (with_reducible refine (fly_Chan HE1.out hn hf).mono ?_); rintro e w1 ⟨S1, c1, rfl, hf⟩; obtain ⟨x0, x1, x2, y0, y1, y2⟩ := HX.out _ hf.out.bel) | (go_at_call 29; (with_reducible refine (fly_Cond HE2.out hn hf).mono ?_); rintro e w2 ⟨S2, c2, rfl, hf⟩; obtain ⟨x0, x1, x2, y0, y1, y2⟩ := HX.out _ hf.out.bel) | (go_at_call 30; (with_reducible refine (fly_Send HE3.out hf HT.out HU.out).mono ?_); rintro e w3 ⟨S3, c3, rfl, hf⟩; obtain ⟨x0, x1, x2, y0, y1, y2⟩ := HX.out _ hf.out.bel) | (go_at_call 31; (with_reducible refine (fly_Recv HE4.out hf HT.out).mono ?_); rintro e w4 ⟨S4, c4, rfl, hf⟩; obtain ⟨x0, x1, x2, y0, y1, y2⟩ := HX.out _ hf.out.bel) | (go_at_call 32; (with_reducible refine (fly_Always HE5.out hf HT.out).mono ?_); rintro e w5 ⟨S5, c5, rfl, hf⟩; obtain ⟨x0, x1, x2, y0, y1, y2⟩ := HX.out _ hf.out.bel) | (go_at_call 33; (with_reducible refine (fly_Choose HE6.out hf HLB.out).mono ?_); rintro e w6 ⟨S6, c6, rfl, hf⟩; obtain ⟨x0, x1, x2, y0, y1, y2⟩ := HX.out _ hf.out.bel) | (go_at_call 34; (with_reducible refine (fly_Wrap HE7.out hn HLN.out hf HT.out HLB.out).mono ?_); rintro e w7 ⟨S7, c7, rfl, hf⟩; obtain ⟨x0, x1, x2, y0, y1, y2⟩ := HX.out _ hf.out.bel) | (go_at_call 35; (with_reducible refine (fly_Guard HE8.out hn hf HLB.out).mono ?_); rintro e w8 ⟨S8, c8, rfl, hf⟩; obtain ⟨x0, x1, x2, y0, y1, y2⟩ := HX.out _ hf.out.bel) | (go_at_call 36; (with_reducible refine (fly_Nack HE9.out hn hf HLB.out).mono ?_); rintro e w9 ⟨S9, c9, rfl, hf⟩; obtain ⟨x0, x1, x2, y0, y1, y2⟩ := HX.out _ hf.out.bel) | (go_at_call 26; (with_reducible refine (fly_of hf).mono ?_); rintro e wo ⟨rfl, hf⟩; obtain ⟨x0, x1, x2, y0, y1, y2⟩ := HX.out _ hf.out.bel)))
        go_wp2_with fail
        go_meet

        have hbk : Blk (wo.alloc (.cells #[.int .i64 X0.k, .int .i64 X0.n, .slice S0 X0.l.length c0, .int .i64 r0, .int .i64 X1.k, .int .i64 X1.n, .slice S1 X1.l.length c1, .int .i64 r1, .int .i64 X2.k, .int .i64 X2.n, .slice S2 X2.l.length c2, .int .i64 r2, .int .i64 X3.k, .int .i64 X3.n, .slice S3 X3.l.length c3, .int .i64 r3, .int .i64 X4.k, .int .i64 X4.n, .slice S4 X4.l.length c4, .int .i64 r4, .int .i64 X5.k, .int .i64 X5.n, .slice S5 X5.l.length c5, .int .i64 r5, .int .i64 X6.k, .int .i64 X6.n, .slice S6 X6.l.length c6, .int .i64 r6, .int .i64 X7.k, .int .i64 X7.n, .slice S7 X7.l.length c7, .int .i64 r7, .int .i64 X8.k, .int .i64 X8.n, .slice S8 X8.l.length c8, .int .i64 r8, .int .i64 X9.k, .int .i64 X9.n, .slice S9 X9.l.length c9, .int .i64 r9] 49)) wo.heap.size 49 #[.int .i64 X0.k, .int .i64 X0.n, .slice S0 X0.l.length c0, .int .i64 r0, .int .i64 X1.k, .int .i64 X1.n, .slice S1 X1.l.length c1, .int .i64 r1, .int .i64 X2.k, .int .i64 X2.n, .slice S2 X2.l.length c2, .int .i64 r2, .int .i64 X3.k, .int .i64 X3.n, .slice S3 X3.l.length c3, .int .i64 r3, .int .i64 X4.k, .int .i64 X4.n, .slice S4 X4.l.length c4, .int .i64 r4, .int .i64 X5.k, .int .i64 X5.n, .slice S5 X5.l.length c5, .int .i64 r5, .int .i64 X6.k, .int .i64 X6.n, .slice S6 X6.l.length c6, .int .i64 r6, .int .i64 X7.k, .int .i64 X7.n, .slice S7 X7.l.length c7, .int .i64 r7, .int .i64 X8.k, .int .i64 X8.n, .slice S8 X8.l.length c8, .int .i64 r8, .int .i64 X9.k, .int .i64 X9.n, .slice S9 X9.l.length c9, .int .i64 r9] := Blk.new wo _ _
        have hwoB : Below wo.heap.size wo (wo.alloc (.cells #[.int .i64 X0.k, .int .i64 X0.n, .slice S0 X0.l.length c0, .int .i64 r0, .int .i64 X1.k, .int .i64 X1.n, .slice S1 X1.l.length c1, .int .i64 r1, .int .i64 X2.k, .int .i64 X2.n, .slice S2 X2.l.length c2, .int .i64 r2, .int .i64 X3.k, .int .i64 X3.n, .slice S3 X3.l.length c3, .int .i64 r3, .int .i64 X4.k, .int .i64 X4.n, .slice S4 X4.l.length c4, .int .i64 r4, .int .i64 X5.k, .int .i64 X5.n, .slice S5 X5.l.length c5, .int .i64 r5, .int .i64 X6.k, .int .i64 X6.n, .slice S6 X6.l.length c6, .int .i64 r6, .int .i64 X7.k, .int .i64 X7.n, .slice S7 X7.l.length c7, .int .i64 r7, .int .i64 X8.k, .int .i64 X8.n, .slice S8 X8.l.length c8, .int .i64 r8, .int .i64 X9.k, .int .i64 X9.n, .slice S9 X9.l.length c9, .int .i64 r9] 49)) := (Below.refl _ wo).alloc (Nat.le_refl _) _
        refine ⟨wo.heap.size, rfl, hf.out.bel.trans (hwoB.mono hf.out.bel.size), by simp, ?_⟩
        intro j hj
        rcases ten hj with rfl | rfl | rfl | rfl | rfl | rfl | rfl | rfl | rfl | rfl
        · exact ⟨X0, S0, c0, r0, HE0.out, makeV_size HE0.out, (hbk.cell (0 * 4)).trans rfl, (hbk.cell (0 * 4 + 1)).trans rfl, (hbk.cell (0 * 4 + 2)).trans rfl, (hbk.cell (0 * 4 + 3)).trans rfl, (hf.out.2 (X0, S0, c0) (by simp)).grow hwoB⟩
        · exact ⟨X1, S1, c1, r1, HE1.out, makeV_size HE1.out, (hbk.cell (1 * 4)).trans rfl, (hbk.cell (1 * 4 + 1)).trans rfl, (hbk.cell (1 * 4 + 2)).trans rfl, (hbk.cell (1 * 4 + 3)).trans rfl, (hf.out.2 (X1, S1, c1) (by simp)).grow hwoB⟩
        · exact ⟨X2, S2, c2, r2, HE2.out, makeV_size HE2.out, (hbk.cell (2 * 4)).trans rfl, (hbk.cell (2 * 4 + 1)).trans rfl, (hbk.cell (2 * 4 + 2)).trans rfl, (hbk.cell (2 * 4 + 3)).trans rfl, (hf.out.2 (X2, S2, c2) (by simp)).grow hwoB⟩
        · exact ⟨X3, S3, c3, r3, HE3.out, makeV_size HE3.out, (hbk.cell (3 * 4)).trans rfl, (hbk.cell (3 * 4 + 1)).trans rfl, (hbk.cell (3 * 4 + 2)).trans rfl, (hbk.cell (3 * 4 + 3)).trans rfl, (hf.out.2 (X3, S3, c3) (by simp)).grow hwoB⟩
        · exact ⟨X4, S4, c4, r4, HE4.out, makeV_size HE4.out, (hbk.cell (4 * 4)).trans rfl, (hbk.cell (4 * 4 + 1)).trans rfl, (hbk.cell (4 * 4 + 2)).trans rfl, (hbk.cell (4 * 4 + 3)).trans rfl, (hf.out.2 (X4, S4, c4) (by simp)).grow hwoB⟩
        · exact ⟨X5, S5, c5, r5, HE5.out, makeV_size HE5.out, (hbk.cell (5 * 4)).trans rfl, (hbk.cell (5 * 4 + 1)).trans rfl, (hbk.cell (5 * 4 + 2)).trans rfl, (hbk.cell (5 * 4 + 3)).trans rfl, (hf.out.2 (X5, S5, c5) (by simp)).grow hwoB⟩
        · exact ⟨X6, S6, c6, r6, HE6.out, makeV_size HE6.out, (hbk.cell (6 * 4)).trans rfl, (hbk.cell (6 * 4 + 1)).trans rfl, (hbk.cell (6 * 4 + 2)).trans rfl, (hbk.cell (6 * 4 + 3)).trans rfl, (hf.out.2 (X6, S6, c6) (by simp)).grow hwoB⟩
        · exact ⟨X7, S7, c7, r7, HE7.out, makeV_size HE7.out, (hbk.cell (7 * 4)).trans rfl, (hbk.cell (7 * 4 + 1)).trans rfl, (hbk.cell (7 * 4 + 2)).trans rfl, (hbk.cell (7 * 4 + 3)).trans rfl, (hf.out.2 (X7, S7, c7) (by simp)).grow hwoB⟩
        · exact ⟨X8, S8, c8, r8, HE8.out, makeV_size HE8.out, (hbk.cell (8 * 4)).trans rfl, (hbk.cell (8 * 4 + 1)).trans rfl, (hbk.cell (8 * 4 + 2)).trans rfl, (hbk.cell (8 * 4 + 3)).trans rfl, (hf.out.2 (X8, S8, c8) (by simp)).grow hwoB⟩
        · exact ⟨X9, S9, c9, r9, HE9.out, makeV_size HE9.out, (hbk.cell (9 * 4)).trans rfl, (hbk.cell (9 * 4 + 1)).trans rfl, (hbk.cell (9 * 4 + 2)).trans rfl, (hbk.cell (9 * 4 + 3)).trans rfl, (hf.out.2 (X9, S9, c9) (by simp)).grow hwoB⟩
      case rest =>
        obtain ⟨G, rfl, hwc, hGl, hTc⟩ := hcut
        clear hf x0 x1 x2 y0 y1 y2
        go_wp2_with fail
        obtain ⟨K, hK⟩ : ∃ K, wc.heap.size = K := ⟨_, rfl⟩
        obtain ⟨B, hB⟩ : ∃ B, wc.alloc (.cells #[.int .i64 3, .int .i64 4, .int .i64 13, .int .i64 5, .int .i64 6, .int .i64 7, .int .i64 9, .int .i64 10, .int .i64 11, .int .i64 12] 3) = B := ⟨_, rfl⟩
        have hkk : Blk B K 3 #[.int .i64 3, .int .i64 4, .int .i64 13, .int .i64 5, .int .i64 6, .int .i64 7, .int .i64 9, .int .i64 10, .int .i64 11, .int .i64 12] := by rw [← hB, ← hK]; exact Blk.new wc _ _
        have hwoB : Below wc.heap.size wc B := by rw [← hB]; exact (Below.refl _ wc).alloc (Nat.le_refl _) _
        have hBB : Below W1.heap.size W1 B := hwc.trans (hwoB.mono hwc.size)
        have hKd : ∀ j, j < 10 → B.cell? ⟨K, j, none⟩ = some (.int .i64 (Kd j)) := by
          intro j hj
          rcases ten hj with rfl | rfl | rfl | rfl | rfl | rfl | rfl | rfl | rfl | rfl <;> exact (hkk.cell _).trans rfl
        have hTen : ∀ j, j < 10 → Ten B G n T U l j := fun j hj => (hTc j hj).below hwoB
        have hbG : G < B.heap.size := Nat.lt_of_lt_of_le hGl hwoB.size
        have hX2 : ∀ W, Below B.heap.size B W → W.cell? ⟨w.heap.size, 0, none⟩ = some (.int .i64 T.k) ∧ W.cell? ⟨w.heap.size, 1, none⟩ = some (.int .i64 T.n) ∧ W.cell? ⟨w.heap.size, 2, none⟩ = some (.slice A T.l.length ca) ∧
            W.cell? ⟨w.heap.size + 1, 0, none⟩ = some (.int .i64 U.k) ∧ W.cell? ⟨w.heap.size + 1, 1, none⟩ = some (.int .i64 U.n) ∧ W.cell? ⟨w.heap.size + 1, 2, none⟩ = some (.slice B' U.l.length cb) := fun W hW => HX.out W (hBB.trans (hW.mono hBB.size))
        have HX2 := Lib.hid hX2
        have HTB := Lib.hid ((HT.out.after hBB).mono (Nat.le_refl _) hBB.size)
        have HUB := Lib.hid ((HU.out.after hBB).mono (Nat.le_refl _) hBB.size)
        have HLB2 := Lib.hid ((HLB.out.after hBB).mono (Nat.le_refl _) hBB.size)
        obtain ⟨zs, henz, hz⟩ := HLB2.out.enc
        have hZC : ∀ W', Below B.heap.size B W' → (l.length ≠ 0 → ∃ p, D = some p ∧ ∀ j y, zs[j]? = some y → W'.cell? (p.add j) = some y) := by
          intro W' hb hne
          obtain ⟨pb, po, hp, hpb, hc⟩ := hz hne
          refine ⟨_, hp, fun j y hy => ?_⟩
          rw [Addr.add_lit]
          exact (cell_same (p := ⟨pb, po + j, none⟩) (hb.block pb hpb)).trans (hc j y hy)
        have HZC := Lib.hid hZC
        have HZE := Lib.hid henz
        have HZO := Lib.hid henz.one_cell
        have HZL := Lib.hid henz.len
        have HBB := Lib.hid hBB
        have HKd := Lib.hid hKd
        have HTen := Lib.hid hTen
        have hlk := hkk.lt
        have hlG : G < B.heap.size := hbG
        have hlG1 : K < B.heap.size := hlk
        rw [hB, hK]
        clear hZC hz henz hX2 hBB hKd hTen hkk hwoB hB hK hlk hbG hwc hGl hTc HX HT HU HE0 HE1 HE2 HE3 HE4 HE5 HE6 HE7 HE8 HE9
        have hst0 : Hid (St B B []) := Lib.hid ⟨Below.refl _ B, trivial⟩
        go_loopw [13] (fun p wr => ∃ j : Nat, j ≤ 10 ∧ p = .int .i64 (j : Int) ∧ Hid (St B wr [])) (fun p _ => 10 - (intOf p).toNat)
        case atStart => exact ⟨0, by omega, rfl, hst0⟩
        case round =>
          obtain ⟨j, hj, rfl, hst⟩ := hrel
          clear hst0
          have hj0 : (0 : Int) ≤ (j : Int) := by omega
          by_cases hlt : j < 10
          · have hltI : (j : Int) < 10 := by omega
            have hzB := hst.out.bel.size
            have hlG : G < wr.heap.size := Nat.lt_of_lt_of_le hlG hzB
            have hlG1 : K < wr.heap.size := Nat.lt_of_lt_of_le hlG1 hzB
            have kj := (cell_same (hst.out.bel.block _ (lt_of_cell (HKd.out j hlt)))).trans (HKd.out j hlt)
            obtain ⟨x0, x1, x2, y0, y1, y2⟩ := HX2.out _ hst.out.bel
            have hG4 : ∀ W, Below B.heap.size B W → ∀ p v, B.cell? ⟨G, p, none⟩ = some v → W.cell? ⟨G, p, none⟩ = some v := fun W hW p v h => (cell_same (hW.block _ (lt_of_cell h))).trans h
            have HG4 := Lib.hid hG4
            have hK4 : ∀ W, Below B.heap.size B W → W.cell? ⟨K, j, none⟩ = some (.int .i64 (Kd j)) := fun W hW => (cell_same (hW.block _ (lt_of_cell (HKd.out j hlt)))).trans (HKd.out j hlt)
            have HK4 := Lib.hid hK4
            clear hG4 hK4
            go_upto_block 4 with fail
            go_cut [14, 15] from 125 to 149 (fun a m wx => OwP B n T U l j a m wx)
            case first =>
              obtain ⟨kd, hkd⟩ : ∃ kd, Kd j = kd := ⟨_, rfl⟩
              rw [hkd]
              clear kj HG4 HK4 hlG hlG1 hzB hj0 hltI hj
              rcases ten hlt with rfl | rfl | rfl | rfl | rfl | rfl | rfl | rfl | rfl | rfl
              · obtain rfl : kd = 3 := hkd.symm
                go_wp2_with fail
                go_meet
                exact (hst.out.alloc _).owP ((Ls.pair (Nat.le_refl _) _ (HTB.out.at_base hst.out) (HUB.out.at_base hst.out)).mono (Nat.le_refl _) (by simp))
              · obtain rfl : kd = 4 := hkd.symm
                go_wp2_with fail
                go_meet
                exact hst.out.owP (Ls.nil _ _ _ 0 none (by simp [maxLen]))
              · obtain rfl : kd = 13 := hkd.symm
                go_wp2_with fail
                go_meet
                exact hst.out.owP (Ls.nil _ _ _ 0 none (by simp [maxLen]))
              · obtain rfl : kd = 5 := hkd.symm
                go_wp2_with fail
                go_meet
                exact (hst.out.alloc _).owP ((Ls.pair (Nat.le_refl _) _ (HTB.out.at_base hst.out) (HUB.out.at_base hst.out)).mono (Nat.le_refl _) (by simp))
              · obtain rfl : kd = 6 := hkd.symm
                go_wp2_with fail
                go_meet
                exact (hst.out.alloc _).owP ((Ls.one (Nat.le_refl _) _ (HTB.out.at_base hst.out)).mono (Nat.le_refl _) (by simp))
              · obtain rfl : kd = 7 := hkd.symm
                go_wp2_with fail
                go_meet
                exact (hst.out.alloc _).owP ((Ls.one (Nat.le_refl _) _ (HTB.out.at_base hst.out)).mono (Nat.le_refl _) (by simp))
              · obtain rfl : kd = 9 := hkd.symm
                go_wp2_with fail
                go_meet
                exact hst.out.owP ((HLB2.out.after hst.out.bel).mono (Nat.le_refl _) hst.out.bel.size)
              · obtain rfl : kd = 10 := hkd.symm
                go_wp2_with (at_builtin
                             refine wpList_append_src _ rfl (.tmp 147) (.tmp 148) 23 rfl 25 i0 (.agg #[.int .i64 0, .int .i64 0, .slice none 0 0]) 3 40 Try.underlying23 hi0 hz0 hz1 hz2 rfl (.slice (some ⟨wr.heap.size, 0, none⟩) 1 1) 1 [.int .i64 T.k, .int .i64 T.n, .slice A T.l.length ca] rfl (Row.made_at wr _ rfl 25 3 1 #[.int .i64 T.k, .int .i64 T.n, .slice A T.l.length ca] _ rfl (by unfold maxLen; omega) rfl) _ l.length _ zs rfl HZL.out (HZC.out _ (hst.out.bel.alloc hst.out.bel.size _)) HZO.out (by unfold maxLen; omega) (by omega) ?_
                             intro v1 w1 hr1 hg1 ho1
                             obtain ⟨A1, cc1, rfl, _, _⟩ := hr1.form
                             have hb1 : Below wr.heap.size wr w1 := below_grown ((Below.refl _ _).alloc (Nat.le_refl _) _) hg1 (by simp) (own_lit (Nat.le_refl _))
                             have hst1 := Lib.hid (hst.out.below hb1)
                             have hls1 := Lib.hid (hr1.ls (l := T :: l) (by simp; omega) (show Enc w1 B.heap.size (T :: l) _ from ⟨_, zs, rfl, HTB.out.after hst1.out.bel, HZE.out.keep (fun b hb => hst1.out.bel.block b hb)⟩) hst1.out.bel.size)
                             have HR1 := Lib.hid hr1
                             clear hr1 hg1 ho1 hb1)
                go_meet
                exact hst1.out.owP hls1.out
              · obtain rfl : kd = 11 := hkd.symm
                go_wp2_with fail
                go_meet
                exact hst.out.owP ((HLB2.out.after hst.out.bel).mono (Nat.le_refl _) hst.out.bel.size)
              · obtain rfl : kd = 12 := hkd.symm
                go_wp2_with fail
                go_meet
                exact hst.out.owP ((HLB2.out.after hst.out.bel).mono (Nat.le_refl _) hst.out.bel.size)
            case rest =>
              obtain ⟨rfl, hst', Ao, co, rfl, ho1, ho2, hlo⟩ := hcut
              clear hst kj x0 x1 x2 y0 y1 y2 hlG hlG1 hzB
              have hst := Lib.hid hst'
              clear hst'
              obtain ⟨X, S, c, err, hmk, hXs, g0, g1, g2, g3, hin⟩ := HTen.out j hlt
              have HMK := Lib.hid hmk
              have HXS := Lib.hid hXs
              have HIN := Lib.hid hin
              have HLO := Lib.hid hlo
              have HOL : Hid ((Ow T U l j).length ≤ 1000) := Lib.hid (ow_len hlt hlen)
              have HOS : Hid ((V.mk (Kd j) (Md n j) (Ow T U l j)).size ≤ 1000000000000) := Lib.hid (ow_size hlt _ _ HTS.out HUS.out HLS.out)
              have hQ : ∀ W, Below B.heap.size B W → W.cell? ⟨G, j * 4, none⟩ = some (.int .i64 X.k) ∧ W.cell? ⟨G, j * 4 + 1, none⟩ = some (.int .i64 X.n) ∧ W.cell? ⟨G, j * 4 + 2, none⟩ = some (.slice S X.l.length c) ∧ W.cell? ⟨G, j * 4 + 3, none⟩ = some (.int .i64 err) ∧ G < W.heap.size ∧ K < W.heap.size := fun W hW =>
                ⟨HG4.out W hW _ _ g0, HG4.out W hW _ _ g1, HG4.out W hW _ _ g2, HG4.out W hW _ _ g3, Nat.lt_of_lt_of_le (lt_of_cell g0) hW.size, Nat.lt_of_lt_of_le (lt_of_cell (HKd.out j hlt)) hW.size⟩
              have HQ := Lib.hid hQ
              have HLT := Lib.hid hlt
              clear hQ g0 g1 g2 g3 hmk hXs hin hlo
              have kj := HK4.out _ hst.out.bel
              obtain ⟨g0, g1, g2, g3, hlG, hlG1⟩ := HQ.out _ hst.out.bel
              generalize Ow T U l j = ow at HMK HLO HOL HOS ho1 ho2 ⊢
              have HMD := Lib.hid (md_w64 hn hlt)
              have HKD := Lib.hid (kd_w64 hlt)
              generalize Md n j = md at HMK HOS HMD ⊢
              go_upto_region 32 with (go_at_call 25; (with_reducible refine (use_rMakeL HMK.out HKD.out HMD.out hst HLO.out HOL.out HOS.out).mono ?_); rintro e wM ⟨SM, cM, rfl, hst⟩)
              have hst' := Lib.hid hst.out.drew
              clear hst kj g0 g1 g2 g3 hlG hlG1
              have hst := hst'
              clear hst'
              obtain ⟨⟨z0, z1, z2⟩, _⟩ := hst.out.cells
              obtain ⟨g0, g1, g2, g3, hlG, hlG1⟩ := HQ.out _ hst.out.bel
              go_region_held3 (fun w' => w'.cell? ⟨wM.heap.size, 0, none⟩ = some (.int .i64 X.k) ∧ w'.cell? ⟨wM.heap.size, 1, none⟩ = some (.int .i64 X.n) ∧ w'.cell? ⟨wM.heap.size, 2, none⟩ = some (.slice SM X.l.length cM) ∧ w'.cell? ⟨G, j * 4, none⟩ = some (.int .i64 X.k) ∧ w'.cell? ⟨G, j * 4 + 1, none⟩ = some (.int .i64 X.n) ∧ w'.cell? ⟨G, j * 4 + 2, none⟩ = some (.slice S X.l.length c) ∧ w'.cell? ⟨G, j * 4 + 3, none⟩ = some (.int .i64 err)) (first | with_reducible exact ⟨z0, z1, z2, g0, g1, g2, g3⟩ | go_keep) ((first
                | (go_at_call 21; (with_reducible refine (use_rSelfE hst hst.out.head HIN.out HXS.out).mono ?_); rintro e wi ⟨rfl, hst⟩; obtain ⟨⟨z0, z1, z2⟩, _⟩ := hst.out.cells; obtain ⟨g0, g1, g2, g3, hlG, hlG1⟩ := HQ.out _ hst.out.bel)
                | (go_at_call 12; (with_reducible refine (use_num _ hst).mono ?_); rintro e wi ⟨rfl, hst⟩; obtain ⟨⟨z0, z1, z2⟩, _⟩ := hst.out.cells; obtain ⟨g0, g1, g2, g3, hlG, hlG1⟩ := HQ.out _ hst.out.bel)))
              all_goals go_wp2_with fail
              all_goals exact ⟨⟨j + 1, by omega, by go_num, Lib.hid ⟨hst.out.bel, trivial⟩⟩, by simp [intOf]; omega⟩
          · obtain rfl : j = 10 := by omega
            clear hlt hj
            go_wp2_with (first
              | (go_at_call 37; (with_reducible refine (use_Unit hst).mono ?_); rintro e wi ⟨rfl, hst⟩)
              | (go_at_call 38; (with_reducible refine (use_Int _ hst).mono ?_); rintro e wi ⟨rfl, hst⟩)
              | (go_at_call 39; (with_reducible refine (use_refInt _ hst).mono ?_); rintro e wi ⟨rfl, hst⟩)
              | (go_at_call 40; (with_reducible refine (use_Never hst).mono ?_); rintro e wi ⟨rfl, hst⟩)
              | (go_at_call 21; (with_reducible refine (use_rLeaf (by unfold W64; omega) w64_zero hst).mono ?_); rintro e wi ⟨rfl, hst⟩)
              | (go_at_call 21; (with_reducible refine (use_rLeaf w64_two hn hst).mono ?_); rintro e wi ⟨rfl, hst⟩)
              | (go_at_call 18; (with_reducible refine (use_works hst).mono ?_); rintro e wi ⟨rfl, hst⟩))
            go_ret
            exact ⟨rfl, hBw.out.trans ((HBB.out.trans (hst.out.bel.mono HBB.out.size)).mono hBw.out.size)⟩
end Go.Proofs.Ythfmbeecpjeegaa
