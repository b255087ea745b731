/- ValHolds' walk. -/
import Derived.Test.YthfmbeecpjeegaaPy
import Derived.Test.YthfmbeecpjeegaaZm
import Derived.Test.YthfmbeecpjeegaaXn
import Derived.Deep.RegionHeld3
import Derived.Deep.Cut
import Derived.Deep.CutRange
namespace Go.Proofs.Ythfmbeecpjeegaa
open Go.RowKit Go.Shelf
attribute [local go_sem] Oper.semAt_some store_nilFunc store_func

/-- One, and the sizes of the first j, as far as they are counted. -/
def szI (l : List V) (j : Nat) : Nat := 1 + ((l.take j).map V.sz).sum
theorem szI_zero (l : List V) : szI l 0 = 1 := by simp [szI]
theorem szI_succ {l : List V} {j : Nat} {x : V} (hx : l[j]? = some x) : szI l (j + 1) = szI l j + x.sz := by
  obtain ⟨hlt, hge⟩ := List.getElem?_eq_some_iff.1 hx
  unfold szI
  rw [List.take_succ_eq_append_getElem hlt, hge]
  simp
  omega
theorem sz_le (x : V) : x.sz ≤ 257 := by unfold V.sz; omega
theorem szI_le (l : List V) (j : Nat) : szI l j ≤ 1 + 257 * j := by
  unfold szI
  have h : ∀ m : List V, (m.map V.sz).sum ≤ 257 * m.length := by
    intro m
    induction m with
    | nil => simp
    | cons x xs ih => simp only [List.map_cons, List.sum_cons, List.length_cons]; have := sz_le x; omega
  have := h (l.take j)
  rw [List.length_take] at this
  have h2 : 257 * min j l.length ≤ 257 * j := Nat.mul_le_mul_left _ (Nat.min_le_left _ _)
  omega
theorem szI_right {k n : Int} {l : List V} (h : rightB (.mk k n l) = true) : szI l l.length = (V.mk k n l).size := by
  have h1 := (right_root h).1
  rw [V.size_mk] at h1 ⊢
  unfold szI
  rw [List.take_length]
  have : ∀ m : List V, V.sizeL m ≤ 255 → (m.map V.sz).sum = V.sizeL m := by
    intro m
    induction m with
    | nil => simp [V.sizeL_nil]
    | cons x xs ih =>
      intro hm
      rw [V.sizeL_cons] at hm ⊢
      simp only [List.map_cons, List.sum_cons]
      rw [ih (by omega)]
      unfold V.sz
      omega
  rw [this l (by omega)]

theorem Turned.cell {W W' : World} (h : Turned W W') {p : Addr} {v : Value} (hc : W.cell? p = some v) : W'.cell? p = some v := by
  have hb : ∃ o, W.heap[p.block]? = some o ∧ o.isCells = true := by
    unfold World.cell? at hc
    split at hc
    · rename_i h1; exact ⟨_, h1, rfl⟩
    · cases hc
  obtain ⟨o, h1, h2⟩ := hb
  exact (cell_same (h.at_ h1 h2)).trans hc
theorem In.turned {W W' : World} {lo hi : Nat} {v : Value} {T : V} (h : In W lo hi v T) (ht : Turned W W') : In W' lo hi v T := by
  induction h with
  | mk k n l A c b o f hk' hn h1 h2 hA hc hR ih =>
    refine .mk k n l A c b o f hk' hn h1 h2 hA (fun i hi' => ?_) ih
    obtain ⟨x, y, z, e, e0, e1, e2⟩ := hc i hi'
    exact ⟨x, y, z, e, ht.cell e0, ht.cell e1, ht.cell e2⟩

/-- The result's cell, and what was before. -/
structure RC (w B : World) : Prop where
  cell : Blk B w.heap.size 4 #[.bool false]
  bl : Below w.heap.size w B
theorem RC.below {w B W : World} (h : RC w B) (hb : Below B.heap.size B W) : RC w W := ⟨h.cell.keep (hb.block _ h.cell.lt), h.bl.trans (hb.mono h.bl.size)⟩
theorem RC.new (w : World) : RC w (w.alloc (.cells #[.bool false] 4)) := ⟨Blk.new w _ _, (Below.refl _ w).alloc (Nat.le_refl _) _⟩
theorem RC.fin {w B : World} (h : RC w B) : (B.setCell ⟨w.heap.size, 0, none⟩ (.bool true)).cell? ⟨w.heap.size, 0, none⟩ = some (.bool true) ∧ Hid (Below w.heap.size w (B.setCell ⟨w.heap.size, 0, none⟩ (.bool true))) :=
  ⟨World.cell?_setCell_same _ _ _ (by simpa using h.cell.cell 0), Lib.hid (h.bl.setCell (Nat.le_refl _) _)⟩
theorem RC.ls {w B : World} {s : Value} {l : List V} (h : RC w B) (hl : Ls w 0 w.heap.size s l) : Ls B 0 B.heap.size s l := (hl.after h.bl).mono (Nat.le_refl _) h.bl.size

theorem use_Parts {w W : World} {L : List Box} {T : V} {b : Nat} {S : Option Addr} {c : Nat} (h : Hid (St w W L)) (hm : BoxV W b T S c) (hr : rightB T = true) :
    Calls Try.prog 23 #[.agg #[.int .i64 T.k, .int .i64 T.n, .slice S T.l.length c]] W fun e w' => ∃ pb S c, e = .returned (.func (.func 68) #[] #[.pointer (some ⟨pb, 0, none⟩)]) ∧
      Hid (Blk w' pb 25 #[.int .i64 T.k, .int .i64 T.n, .slice S T.l.length c] ∧ In w' W.heap.size w'.heap.size (.agg #[.int .i64 T.k, .int .i64 T.n, .slice S T.l.length c]) T ∧ St w w' L) :=
  (Parts_ok W hm.2 (Nat.le_refl _) hr).mono fun e w' q => by
    obtain ⟨pb, S, c, rfl, h1, h2, _, h3⟩ := q
    exact ⟨pb, S, c, rfl, Lib.hid ⟨h1, h2, h.out.below h3⟩⟩

/-- What the walk over the parts keeps: how many there were. -/
structure PK (w B : World) (m : Nat) (W : World) : Prop where
  cell : Blk W B.heap.size 3 #[.int .i64 (m : Int)]
  bl : Below B.heap.size B W

theorem PK.keepB {w B W W' : World} {m n : Nat} (h : PK w B m W) (hk : Keep (fun k => n ≤ k) W W') (hn : B.heap.size < n) : PK w B m W' := ⟨h.cell.keepB hk hn, Below.keepB h.bl hk (by omega) (Nat.le_refl _)⟩
theorem PK.below {w B W W' : World} {m : Nat} (h : PK w B m W) (hb : Below W.heap.size W W') : PK w B m W' := ⟨h.cell.keep (hb.block _ h.cell.lt), h.bl.trans (hb.mono h.bl.size)⟩
theorem PK.next {w B W : World} {m : Nat} (h : PK w B m W) : PK w B (m + 1) (W.setCell ⟨B.heap.size, 0, none⟩ (.int .i64 ((m : Int) + 1))) :=
  ⟨by have := h.cell.set 0 (.int .i64 ((m : Int) + 1)); simpa using this, h.bl.setCell (Nat.le_refl _) _⟩
theorem start_St (w : World) : St (w.alloc (.cells #[.bool false] 4)) (w.alloc (.cells #[.bool false] 4)) [] := ⟨Below.refl _ _, trivial⟩

theorem eql_func (B : Nat) (w : World) : (binOp .eql 38 (.func (.func 68) #[] #[.pointer (some ⟨B, 0, none⟩)]) .nilFunc).run Try.prog w = .ok (.bool false) w := by
  kernel_rfl
theorem RC.finM {w W : World} {D : Nat} (h : RC w W) (hd : W.heap[D]? = some (.deferred (some []))) (hD : w.heap.size ≤ D) :
    (W.setCell ⟨w.heap.size, 0, none⟩ (.bool true)).heap[D]? = some (.deferred (some [])) ∧ ((W.setCell ⟨w.heap.size, 0, none⟩ (.bool true)).putObj D (.deferred none)).cell? ⟨w.heap.size, 0, none⟩ = some (.bool true) ∧
    Hid (Below w.heap.size w ((W.setCell ⟨w.heap.size, 0, none⟩ (.bool true)).putObj D (.deferred none))) := by
  have hne : D ≠ w.heap.size := by
    rintro rfl
    have := h.cell
    rw [show W.heap[w.heap.size]? = some (Obj.cells #[.bool false] 4 (0, 0)) from this] at hd
    cases hd
  refine ⟨(Below.heap_setCell _ _ _ _ hne).trans hd, ?_, ?_⟩
  · rw [cell_same (W := W.setCell ⟨w.heap.size, 0, none⟩ (.bool true)) (World.putObj_heap_other (by simpa using hne.symm))]
    exact h.fin.1
  · have hb := h.fin.2.out
    exact Lib.hid (hb.trans (belowK_b (w := w) (Nat.le_refl _) _ _ _ _ (by omega) ((Below.heap_setCell _ _ _ _ hne).trans hd) rfl rfl))
theorem St.bare {w W : World} {L : List Box} (h : St w W L) : St w W [] := ⟨h.1, trivial⟩
/-- The pair, and its error. -/
def OutP (B : World) (P : V) (err : Int) (p e : Value) (W : World) : Prop := ∃ g S c, p = .pointer (some ⟨g, 0, none⟩) ∧ e = .int .i64 err ∧ St B W [(g, P, S, c)]
theorem St.outP {B W : World} {P : V} {err : Int} {g : Nat} {S : Option Addr} {c : Nat} (h : St B W [(g, P, S, c)]) : OutP B P err (.pointer (some ⟨g, 0, none⟩)) (.int .i64 err) W := ⟨g, S, c, rfl, rfl, h⟩
theorem use_PairF {B W : World} {L : List Box} {T U X : V} {err : Int} (he : makeV (.mk 3 0 [T, U]) = (X, err)) (h : Hid (St B W L)) {u v : Value} (hu : In B 0 B.heap.size u T) (hv : In B 0 B.heap.size v U) : Calls Try.prog 27 #[u, v] W fun e w' =>
    ∃ S c, e = .returned (.tuple #[.agg #[.int .i64 X.k, .int .i64 X.n, .slice S X.l.length c], .int .i64 err]) ∧ Hid (Below B.heap.size B w') ∧ Hid (St B (w'.alloc (.cells #[.int .i64 X.k, .int .i64 X.n, .slice S X.l.length c] 25)) ((w'.heap.size, X, S, c) :: L)) := by
  refine (Pair_ok W (hu.at_base h.out) (hv.at_base h.out) (Nat.le_refl _)).mono ?_
  rw [he]
  rintro e w' ⟨S, c, rfl, hi, hb⟩
  exact ⟨S, c, rfl, Lib.hid (h.out.below hb).1, Lib.hid ((h.out.below hb).push (hi.mono (Nat.zero_le _) (Nat.le_refl _)))⟩
theorem use_PairF2 {B W : World} {L : List Box} {T U X : V} {err : Int} {b : Nat} (he : makeV (.mk 3 0 [T, U]) = (X, err)) (h : Hid (St2 B W L b)) {u v : Value} (hu : In B 0 B.heap.size u T) (hv : In B 0 B.heap.size v U) : Calls Try.prog 27 #[u, v] W fun e w' =>
    ∃ S c, e = .returned (.tuple #[.agg #[.int .i64 X.k, .int .i64 X.n, .slice S X.l.length c], .int .i64 err]) ∧ (w'.cell? ⟨b, 0, none⟩ = some (.int .i64 0) ∧ w'.cell? ⟨b, 1, none⟩ = some (.int .i64 0) ∧ w'.cell? ⟨b, 2, none⟩ = some (.slice none 0 0) ∧
      w'.frozen? ⟨b, 0, none⟩ = false ∧ w'.frozen? ⟨b, 1, none⟩ = false ∧ w'.frozen? ⟨b, 2, none⟩ = false ∧ b < w'.heap.size) ∧ Hid (Below B.heap.size B w') ∧
      Hid (St B (((w'.setCell ⟨b, 0, none⟩ (.int .i64 X.k)).setCell ⟨b, 1, none⟩ (.int .i64 X.n)).setCell ⟨b, 2, none⟩ (.slice S X.l.length c)) ((b, X, S, c) :: L)) := by
  refine (Pair_ok W (hu.at_base h.out.st) (hv.at_base h.out.st) (Nat.le_refl _)).mono ?_
  rw [he]
  rintro e w' ⟨S, c, rfl, hi, hb⟩
  have h2 := h.out.below hb
  exact ⟨S, c, rfl, ⟨h2.z.cells3.1, h2.z.cells3.2.1, h2.z.cells3.2.2, h2.z.frozen _, h2.z.frozen _, h2.z.frozen _, h2.z.lt⟩, Lib.hid h2.bl, Lib.hid (h2.put hi h.out.z.lt)⟩

theorem use_MakeT' {w w1 W : World} {L : List Box} {X : V} {err k n : Int} {s : Value} {l : List V} (he : makeV (.mk k n l) = (X, err)) (hk : W64 k) (hn : W64 n) (h : Hid (St w1 W L)) (hrc : RC w W) (hl : Ls w 0 w.heap.size s l) : Calls Try.prog 24 #[.int .i64 k, .int .i64 n, s] W (Puts w1 L X err) :=
  puts_of he h (Make_ok k n hk hn W (hrc.ls hl) (Nat.le_refl _))

set_option maxRecDepth 100000 in
set_option maxHeartbeats 12800000 in
theorem holds_walk (k n x y : Int) (hk : W64 k) (hn : W64 n) (hx : W64 x) (hy : W64 y) (l : List V) (s : Value) (w : World) (h : Ls w 0 w.heap.size s l) :
    Calls Try.prog 10 #[.int .i64 k, .int .i64 n, s, .int .i64 x, .int .i64 y] w fun e w' => e = .returned (.bool true) ∧ Below w.heap.size w w' := by
  obtain ⟨A, c, rfl, hc1, hc2⟩ := h.form
  unfold maxLen at hc2
  have HL := Lib.hid h
  clear h
  have hst0 := Lib.hid (start_St w)
  have hrc0 := Lib.hid (RC.new w)
  refine calls_of_wp_marks 5 Try.func10 rfl ?_
  simp only [Try.ntmps10, List.size_toArray, List.length_cons, List.length_nil, Nat.reduceAdd, Nat.reduceSub, Array.replicate_succ, Array.replicate_zero, List.push_toArray, List.append_toArray, List.nil_append, List.cons_append]
  by_cases hlen : l.length ≤ 10
  · have hlenI : ¬ (10 : Int) < (l.length : Int) := by omega
    have hlI2 : (l.length : Int) ≤ 10 := by omega
    go_wp2_with fail
    go_loopw [11, 12] (fun a p wr => ∃ j : Nat, j ≤ l.length ∧ p = .int .i64 (j : Int) ∧ a = .int .i64 (szI l j : Int) ∧ Hid (St (w.alloc (.cells #[.bool false] 4)) wr [])) (fun _ p _ => l.length - (intOf p).toNat)
    case atStart => exact ⟨0, Nat.zero_le _, rfl, by rw [szI_zero]; rfl, hst0⟩
    case round =>
      obtain ⟨j, hj, rfl, rfl, hst⟩ := hrel
      clear hst0
      have hj0 : (0 : Int) ≤ (j : Int) := by omega
      have hsz := szI_le l j
      by_cases hlt : j < l.length
      · have hltI : (j : Int) < (l.length : Int) := by omega
        obtain ⟨z, hz⟩ : ∃ z, l[j]? = some z := ⟨_, List.getElem?_eq_getElem hlt⟩
        have hrc := hrc0.out.below hst.out.1
        obtain ⟨b, o, sx, rfl, hb, hbh, _, q0, q1, q2, hix⟩ := (hrc.ls HL.out).at_ hz
        obtain ⟨X, cx, rfl, _, _, _⟩ := hix.slice
        have hcall := (Size_ok wr hix (Nat.le_refl _)).mono
          (R' := fun e w' => e = .returned (.int .i64 (z.sz : Int)) ∧ Hid (St (w.alloc (.cells #[.bool false] 4)) w' [])) (fun e w' q => ⟨q.1, Lib.hid (hst.out.below q.2)⟩)
        have HC := Lib.hid hcall
        have HZ := Lib.hid (szI_succ hz)
        have hzz := sz_le z
        have hzI : (z.sz : Int) ≤ 257 := by omega
        have hzI0 : (0 : Int) ≤ (z.sz : Int) := by omega
        have hsI : (szI l j : Int) ≤ 10000 := by omega
        have hsI0 : (0 : Int) ≤ (szI l j : Int) := by omega
        clear hcall hix hz hst hrc hsz hzz
        go_wp2_with (go_at_call 14; refine HC.out.mono ?_; rintro e w1 ⟨rfl, hst⟩)
        exact ⟨⟨j + 1, by omega, by go_num, by rw [HZ.out]; go_num, hst⟩, by simp [intOf]; omega⟩
      · have hltI : ¬ (j : Int) < (l.length : Int) := by omega
        obtain rfl : j = l.length := by omega
        cases hr : rightB (.mk k n l)
        · have he : makeV (.mk k n l) = (zeroV, 40) := by unfold makeV; rw [hr]; rfl
          obtain ⟨Z, hZ⟩ : ∃ Z, zeroV = Z := ⟨_, rfl⟩
          obtain ⟨err0, hErr0⟩ : ∃ err : Int, (40 : Int) = err := ⟨_, rfl⟩
          rw [hZ, hErr0] at he
          have HM := Lib.hid he
          have he0 : (err0 == 0) = false := by rw [← hErr0]; rfl
          clear hr he hZ hErr0 hltI hlt hj
          obtain ⟨N, hN⟩ : ∃ N, szI l l.length = N := ⟨_, rfl⟩
          rw [hN]
          clear hN hsz
          go_upto_region 24 with (first
            | (go_at_call 24; (with_reducible refine (use_MakeT' HM.out hk hn hst (hrc0.out.below hst.out.bel) HL.out).mono ?_); rintro e wA ⟨SA, cA, rfl, hst⟩)
            | (go_at_call 12; (with_reducible refine (use_num _ hst).mono ?_); rintro e B ⟨rfl, hst⟩))
          have hrcB := Lib.hid (hrc0.out.below hst.out.bel)
          have hst' : Hid (St B B []) := Lib.hid ⟨Below.refl _ B, trivial⟩
          clear hst
          have hst := hst'
          clear hst'
          by_cases h1 : 1 < l.length
          · have h1I : (1 : Int) < (l.length : Int) := by omega
            have h0I : (0 : Int) < (l.length : Int) := by omega
            have h0N : 0 < l.length := by omega
            obtain ⟨x0, hx0⟩ : ∃ x, l[0]? = some x := ⟨_, List.getElem?_eq_getElem (by omega)⟩
            obtain ⟨x1, hx1⟩ : ∃ x, l[1]? = some x := ⟨_, List.getElem?_eq_getElem h1⟩
            have hlsB := hrcB.out.ls HL.out
            obtain ⟨b, o, s0, rfl, hb, _, _, q0, q1, q2, hi0⟩ := hlsB.at_ hx0
            obtain ⟨b', o', s1, hbe, hb', _, _, q3, q4, q5, hi1⟩ := hlsB.at_ hx1
            simp only [Option.some.injEq, Addr.mk.injEq] at hbe
            obtain ⟨rfl, rfl, _⟩ := hbe
            obtain ⟨Y0, d0, rfl, _, _, _⟩ := hi0.slice
            obtain ⟨Y1, d1, rfl, _, _, _⟩ := hi1.slice
            rw [Nat.zero_mul, Nat.add_zero] at q0 q1 q2
            rw [Nat.one_mul] at q3 q4 q5
            have hQ : ∀ W, Below B.heap.size B W → W.cell? ⟨b, o, none⟩ = some (.int .i64 x0.k) ∧ W.cell? ⟨b, o + 1, none⟩ = some (.int .i64 x0.n) ∧ W.cell? ⟨b, o + 2, none⟩ = some (.slice Y0 x0.l.length d0) ∧ W.cell? ⟨b, o + 3, none⟩ = some (.int .i64 x1.k) ∧ W.cell? ⟨b, o + 3 + 1, none⟩ = some (.int .i64 x1.n) ∧ W.cell? ⟨b, o + 3 + 2, none⟩ = some (.slice Y1 x1.l.length d1) ∧ b < W.heap.size := fun W hW =>
              ⟨(cell_same (hW.block b hb)).trans q0, (cell_same (hW.block b hb)).trans q1, (cell_same (hW.block b hb)).trans q2, (cell_same (hW.block b hb)).trans q3, (cell_same (hW.block b hb)).trans q4, (cell_same (hW.block b hb)).trans q5, Nat.lt_of_lt_of_le hb hW.size⟩
            have HQ := Lib.hid hQ
            have HI0 := Lib.hid hi0
            have HI1 := Lib.hid hi1
            clear hQ hi0 hi1 hx0 hx1 hlsB
            cases hr : rightB (.mk 3 0 [x0, x1])
            · have hP : makeV (.mk 3 0 [x0, x1]) = (zeroV, 40) := by unfold makeV; rw [hr]; rfl
              obtain ⟨P, hPe⟩ : ∃ P, zeroV = P := ⟨_, rfl⟩
              obtain ⟨err, hErr⟩ : ∃ err : Int, (40 : Int) = err := ⟨_, rfl⟩
              rw [hPe, hErr] at hP
              have HP := Lib.hid hP
              have herr : (err == 0) = false := by rw [← hErr]; rfl
              clear hr hP hPe hErr
              go_upto_region 25 with fail
              have hstD : Hid (St B B.drew []) := Lib.hid hst.out.drew
              have hs2 : Hid (St2 B ((B.alloc (.cells #[.int .i64 0, .int .i64 0, .slice none 0 0] 25)).drew) [] B.heap.size) := Lib.hid (St2.new hst.out).drew
              have hnb : ¬ b = B.heap.size := Nat.ne_of_lt hb
              go_cut [19, 20] from 124 to 133 (fun p e wx => OutP B P err p e wx)
              case first =>
                go_region_held3 (fun w' => w'.cell? ⟨b, o, none⟩ = some (.int .i64 x0.k) ∧ w'.cell? ⟨b, o + 1, none⟩ = some (.int .i64 x0.n) ∧ w'.cell? ⟨b, o + 2, none⟩ = some (.slice Y0 x0.l.length d0) ∧ w'.cell? ⟨b, o + 3, none⟩ = some (.int .i64 x1.k) ∧ w'.cell? ⟨b, o + 3 + 1, none⟩ = some (.int .i64 x1.n) ∧ w'.cell? ⟨b, o + 3 + 2, none⟩ = some (.slice Y1 x1.l.length d1)) (first | with_reducible exact ⟨q0, q1, q2, q3, q4, q5⟩ | ((refine ⟨?_, ?_, ?_, ?_, ?_, ?_⟩) <;> (repeat (first | with_reducible assumption | with_reducible refine cell_alloc ?_ | with_reducible refine cell_drew ?_ | with_reducible refine cell_set (by assumption) ?_))) | go_keep) ((first
                  | (go_at_call 27; (with_reducible refine (use_PairF HP.out hstD HI0.out HI1.out).mono ?_); rintro e wX ⟨SX, cX, rfl, hbX, hst⟩; obtain ⟨g0, g1, g2, g3, g4, g5, hbw⟩ := HQ.out _ hbX.out; have hnx : ¬ b = wX.heap.size := Nat.ne_of_lt hbw)
                  | (go_at_call 27; (with_reducible refine (use_PairF2 HP.out hs2 HI0.out HI1.out).mono ?_); rintro e wX ⟨SX, cX, rfl, ⟨z0, z1, z2, z3, z4, z5, z6⟩, hbX, hst⟩; obtain ⟨g0, g1, g2, g3, g4, g5, hbw⟩ := HQ.out _ hbX.out)))
                all_goals go_wp2_with fail
                all_goals go_meet
                all_goals exact hst.out.outP
              case rest =>
                obtain ⟨g, SX, cX, rfl, rfl, hst'⟩ := hcut
                clear hst hstD hs2
                have hst := Lib.hid hst'
                clear hst'
                go_upto_region 31 with (go_at_call 12; (with_reducible refine (use_num _ hst).mono ?_); rintro e wn ⟨rfl, hst⟩)

                have hst' := Lib.hid hst.out.bare
                clear hst
                have hst := hst'
                clear hst'
                obtain ⟨X1, X2, X3, X4, X5, hN⟩ : ∃ X1 X2 X3 X4 X5, Nums x y (numT x) (numT y) X1 X2 X3 X4 X5 := ⟨_, _, _, _, _, nums_of hx⟩
                obtain ⟨TA, hTA⟩ : ∃ TA, numT x = TA := ⟨_, rfl⟩
                obtain ⟨TB, hTB⟩ : ∃ TB, numT y = TB := ⟨_, rfl⟩
                rw [hTA, hTB] at hN
                have HN := Lib.hid hN
                have p1 := hN.a1.1
                have p2 := hN.a1.2
                have p3 := hN.a2.1
                have p4 := hN.a2.2
                have p5 := hN.a3.1
                have p6 := hN.a3.2
                have p7 : (X1.n + X2.n + X3.n == 1) = true := by rw [hN.sum]; rfl
                have p8 := hN.less
                clear hN
                go_upto_region 32 with (go_at_call 38; (with_reducible refine (use_Int _ hst).mono ?_); rintro e wi ⟨rfl, hst⟩)
                obtain ⟨gA, hgA⟩ : ∃ g, wi.heap.size = g := ⟨_, rfl⟩
                obtain ⟨W2, hW2⟩ : ∃ W2, (wi.alloc (.cells #[.int .i64 2, .int .i64 x, .slice none 0 0] 25)).alloc (.cells #[.int .i64 2, .int .i64 y, .slice none 0 0] 25) = W2 := ⟨_, rfl⟩
                have hst2 : St B W2 [(gA + 1, TB, none, 0), (gA, TA, none, 0)] := by
                  rw [← hW2, ← hTA, ← hTB, ← hgA]
                  have h1 := hst.out.push (T := numT x) (S := none) (c := 0) (num_in wi _ x hx)
                  have h2 := h1.push (T := numT y) (S := none) (c := 0) (num_in _ _ y hy)
                  rw [World.size_alloc] at h2
                  exact h2
                have htl : TA.l.length = 0 := by rw [← hTA]; rfl
                have htl2 : TB.l.length = 0 := by rw [← hTB]; rfl
                rw [hW2, hgA]
                clear hst hW2 hTA hTB hgA htl htl2
                have hst := Lib.hid hst2
                clear hst2
                obtain ⟨⟨b0, b1, b2⟩, ⟨a0, a1, a2⟩, _⟩ := hst.out.cells
                go_wp2_with (first
                  | (go_at_call 44; (with_reducible refine (use_LessT HN.out.h1 hst hst.out.tail.head hst.out.head).mono ?_); rintro e w1 ⟨S1, c1, rfl, hst⟩; obtain ⟨_, ⟨b0, b1, b2⟩, ⟨a0, a1, a2⟩, _⟩ := hst.out.cells)
                  | (go_at_call 44; (with_reducible refine (use_LessT HN.out.h2 hst hst.out.tail.head hst.out.tail.tail.head).mono ?_); rintro e w2 ⟨S2, c2, rfl, hst⟩; obtain ⟨_, _, ⟨b0, b1, b2⟩, ⟨a0, a1, a2⟩, _⟩ := hst.out.cells)
                  | (go_at_call 43; (with_reducible refine (use_EqT HN.out.h3 hst hst.out.tail.tail.tail.head hst.out.tail.tail.head).mono ?_); rintro e w3 ⟨S3, c3, rfl, hst⟩; obtain ⟨_, _, _, ⟨b0, b1, b2⟩, ⟨a0, a1, a2⟩, _⟩ := hst.out.cells)
                  | (go_at_call 41; (with_reducible refine (use_AddT HN.out.h4 hst hst.out.tail.tail.tail.tail.head hst.out.tail.tail.tail.head).mono ?_); rintro e w4 ⟨S4, c4, rfl, hst⟩; obtain ⟨⟨f0, f1, f2⟩, _, _, _, ⟨b0, b1, b2⟩, ⟨a0, a1, a2⟩, _⟩ := hst.out.cells)
                  | (go_at_call 42; (with_reducible refine (use_SubT HN.out.h5 hst hst.out.head hst.out.tail.tail.tail.tail.head).mono ?_); rintro e w5 ⟨S5, c5, rfl, hst⟩; obtain ⟨⟨g0, g1, g2⟩, _, ⟨e0, e1, e2⟩, ⟨d0, d1, d2⟩, ⟨c0, c1, c2⟩, _, ⟨a0, a1, a2⟩, _⟩ := hst.out.cells)
                  | (go_at_call 12; (with_reducible refine (use_num _ hst).mono ?_); rintro e wn ⟨rfl, hst⟩; obtain ⟨⟨g0, g1, g2⟩, _, ⟨e0, e1, e2⟩, ⟨d0, d1, d2⟩, ⟨c0, c1, c2⟩, _, ⟨a0, a1, a2⟩, _⟩ := hst.out.cells)
                  | (go_at_call 20; (with_reducible refine (use_SameT hst hst.out.head hst.out.tail.tail.tail.tail.tail.tail.head).mono ?_); rw [HN.out.back]; rintro e ws ⟨rfl, hst⟩)
                  | (go_at_call 18; (with_reducible refine (use_works hst).mono ?_); rintro e wE ⟨rfl, hst⟩; have hrcE := Lib.hid (hrcB.out.below hst.out.bel); have rc0 := hrcE.out.cell.cell 0; have rf0 := hrcE.out.cell.frozen 0; simp at rc0))
                obtain ⟨r0, hfin⟩ := hrcE.out.fin
                exact ⟨.bool true, by simp [results, Try.results10, go_sem, r0], rfl, hfin.out⟩

            · have hP : makeV (.mk 3 0 [x0, x1]) = (.mk 3 0 [x0, x1], 0) := by unfold makeV; rw [hr]; rfl
              obtain ⟨hf0, hf1, hs0, hs1⟩ := pair_halves hr
              have HS0 : Hid (sameB x0 x0 = true) := Lib.hid (by rw [same_self]; simp [hs0])
              have HS1 : Hid (sameB x1 x1 = true) := Lib.hid (by rw [same_self]; simp [hs1])
              obtain ⟨P, hPe⟩ : ∃ P, V.mk 3 0 [x0, x1] = P := ⟨_, rfl⟩
              obtain ⟨err, hErr⟩ : ∃ err : Int, (0 : Int) = err := ⟨_, rfl⟩
              have hP' : makeV (.mk 3 0 [x0, x1]) = (P, err) := by rw [hP, hPe, ← hErr]
              rw [hPe] at hf0 hf1
              have HF0 := Lib.hid hf0
              have HF1 := Lib.hid hf1
              have HP := Lib.hid hP'
              have herr : (err == 0) = true := by rw [← hErr]; rfl
              clear hr hP hP' hPe hf0 hf1 hs0 hs1 hErr
              go_upto_region 25 with fail
              have hstD : Hid (St B B.drew []) := Lib.hid hst.out.drew
              have hs2 : Hid (St2 B ((B.alloc (.cells #[.int .i64 0, .int .i64 0, .slice none 0 0] 25)).drew) [] B.heap.size) := Lib.hid (St2.new hst.out).drew
              have hnb : ¬ b = B.heap.size := Nat.ne_of_lt hb
              go_cut [19, 20] from 124 to 133 (fun p e wx => OutP B P err p e wx)
              case first =>
                go_region_held3 (fun w' => w'.cell? ⟨b, o, none⟩ = some (.int .i64 x0.k) ∧ w'.cell? ⟨b, o + 1, none⟩ = some (.int .i64 x0.n) ∧ w'.cell? ⟨b, o + 2, none⟩ = some (.slice Y0 x0.l.length d0) ∧ w'.cell? ⟨b, o + 3, none⟩ = some (.int .i64 x1.k) ∧ w'.cell? ⟨b, o + 3 + 1, none⟩ = some (.int .i64 x1.n) ∧ w'.cell? ⟨b, o + 3 + 2, none⟩ = some (.slice Y1 x1.l.length d1)) (first | with_reducible exact ⟨q0, q1, q2, q3, q4, q5⟩ | ((refine ⟨?_, ?_, ?_, ?_, ?_, ?_⟩) <;> (repeat (first | with_reducible assumption | with_reducible refine cell_alloc ?_ | with_reducible refine cell_drew ?_ | with_reducible refine cell_set (by assumption) ?_))) | go_keep) ((first
                  | (go_at_call 27; (with_reducible refine (use_PairF HP.out hstD HI0.out HI1.out).mono ?_); rintro e wX ⟨SX, cX, rfl, hbX, hst⟩; obtain ⟨g0, g1, g2, g3, g4, g5, hbw⟩ := HQ.out _ hbX.out; have hnx : ¬ b = wX.heap.size := Nat.ne_of_lt hbw)
                  | (go_at_call 27; (with_reducible refine (use_PairF2 HP.out hs2 HI0.out HI1.out).mono ?_); rintro e wX ⟨SX, cX, rfl, ⟨z0, z1, z2, z3, z4, z5, z6⟩, hbX, hst⟩; obtain ⟨g0, g1, g2, g3, g4, g5, hbw⟩ := HQ.out _ hbX.out)))
                all_goals go_wp2_with fail
                all_goals go_meet
                all_goals exact hst.out.outP
              case rest =>
                obtain ⟨g, SX, cX, rfl, rfl, hst'⟩ := hcut
                clear hst hstD hs2
                have hst := Lib.hid hst'
                clear hst'
                go_upto_region 29 with (first
                  | (go_at_call 12; (with_reducible refine (use_num _ hst).mono ?_); rintro e wn ⟨rfl, hst⟩; obtain ⟨⟨z0, z1, z2⟩, _⟩ := hst.out.cells)
                  | (go_at_call 45; (with_reducible refine (use_FirstT HF0.out hst hst.out.head).mono ?_); rintro e wF ⟨SF, cF, rfl, hst⟩; obtain ⟨_, ⟨z0, z1, z2⟩, _⟩ := hst.out.cells)
                  | (go_at_call 46; (with_reducible refine (use_SecondT HF1.out hst hst.out.tail.head).mono ?_); rintro e wG ⟨SG, cG, rfl, hst⟩))
                have hst' := Lib.hid hst.out.drew
                clear hst z0 z1 z2
                have hst := hst'
                clear hst' q0 q1 q2 q3 q4 q5
                obtain ⟨⟨u0, u1, u2⟩, ⟨v0, v1, v2⟩, _⟩ := hst.out.cells
                obtain ⟨q0, q1, q2, q3, q4, q5, hbw⟩ := HQ.out _ hst.out.bel
                go_region_held3 (fun w' => w'.cell? ⟨wF.heap.size, 0, none⟩ = some (.int .i64 x0.k) ∧ w'.cell? ⟨wF.heap.size, 1, none⟩ = some (.int .i64 x0.n) ∧ w'.cell? ⟨wF.heap.size, 2, none⟩ = some (.slice SF x0.l.length cF) ∧ w'.cell? ⟨wG.heap.size, 0, none⟩ = some (.int .i64 x1.k) ∧ w'.cell? ⟨wG.heap.size, 1, none⟩ = some (.int .i64 x1.n) ∧ w'.cell? ⟨wG.heap.size, 2, none⟩ = some (.slice SG x1.l.length cG) ∧ w'.cell? ⟨b, o, none⟩ = some (.int .i64 x0.k) ∧ w'.cell? ⟨b, o + 1, none⟩ = some (.int .i64 x0.n) ∧ w'.cell? ⟨b, o + 2, none⟩ = some (.slice Y0 x0.l.length d0) ∧ w'.cell? ⟨b, o + 3, none⟩ = some (.int .i64 x1.k) ∧ w'.cell? ⟨b, o + 3 + 1, none⟩ = some (.int .i64 x1.n) ∧ w'.cell? ⟨b, o + 3 + 2, none⟩ = some (.slice Y1 x1.l.length d1)) (first | with_reducible exact ⟨v0, v1, v2, u0, u1, u2, q0, q1, q2, q3, q4, q5⟩ | go_keep) ((first
                  | (go_at_call 12; (with_reducible refine (use_num _ hst).mono ?_); rintro e wn ⟨rfl, hst⟩; obtain ⟨⟨u0, u1, u2⟩, ⟨v0, v1, v2⟩, _⟩ := hst.out.cells; obtain ⟨q0, q1, q2, q3, q4, q5, hbw⟩ := HQ.out _ hst.out.bel)
                  | (go_at_call 20; (with_reducible refine (use_SameE hst hst.out.tail.head HI0.out).mono ?_); rw [HS0.out]; rintro e wn ⟨rfl, hst⟩; obtain ⟨⟨u0, u1, u2⟩, ⟨v0, v1, v2⟩, _⟩ := hst.out.cells; obtain ⟨q0, q1, q2, q3, q4, q5, hbw⟩ := HQ.out _ hst.out.bel)
                  | (go_at_call 20; (with_reducible refine (use_SameE hst hst.out.head HI1.out).mono ?_); rw [HS1.out]; rintro e wn ⟨rfl, hst⟩; obtain ⟨⟨u0, u1, u2⟩, ⟨v0, v1, v2⟩, _⟩ := hst.out.cells; obtain ⟨q0, q1, q2, q3, q4, q5, hbw⟩ := HQ.out _ hst.out.bel)))
                go_upto_region 31 with fail

                have hst' := Lib.hid hst.out.bare
                clear hst
                have hst := hst'
                clear hst'
                obtain ⟨X1, X2, X3, X4, X5, hN⟩ : ∃ X1 X2 X3 X4 X5, Nums x y (numT x) (numT y) X1 X2 X3 X4 X5 := ⟨_, _, _, _, _, nums_of hx⟩
                obtain ⟨TA, hTA⟩ : ∃ TA, numT x = TA := ⟨_, rfl⟩
                obtain ⟨TB, hTB⟩ : ∃ TB, numT y = TB := ⟨_, rfl⟩
                rw [hTA, hTB] at hN
                have HN := Lib.hid hN
                have p1 := hN.a1.1
                have p2 := hN.a1.2
                have p3 := hN.a2.1
                have p4 := hN.a2.2
                have p5 := hN.a3.1
                have p6 := hN.a3.2
                have p7 : (X1.n + X2.n + X3.n == 1) = true := by rw [hN.sum]; rfl
                have p8 := hN.less
                clear hN
                go_upto_region 32 with (go_at_call 38; (with_reducible refine (use_Int _ hst).mono ?_); rintro e wi ⟨rfl, hst⟩)
                obtain ⟨gA, hgA⟩ : ∃ g, wi.heap.size = g := ⟨_, rfl⟩
                obtain ⟨W2, hW2⟩ : ∃ W2, (wi.alloc (.cells #[.int .i64 2, .int .i64 x, .slice none 0 0] 25)).alloc (.cells #[.int .i64 2, .int .i64 y, .slice none 0 0] 25) = W2 := ⟨_, rfl⟩
                have hst2 : St B W2 [(gA + 1, TB, none, 0), (gA, TA, none, 0)] := by
                  rw [← hW2, ← hTA, ← hTB, ← hgA]
                  have h1 := hst.out.push (T := numT x) (S := none) (c := 0) (num_in wi _ x hx)
                  have h2 := h1.push (T := numT y) (S := none) (c := 0) (num_in _ _ y hy)
                  rw [World.size_alloc] at h2
                  exact h2
                have htl : TA.l.length = 0 := by rw [← hTA]; rfl
                have htl2 : TB.l.length = 0 := by rw [← hTB]; rfl
                rw [hW2, hgA]
                clear hst hW2 hTA hTB hgA htl htl2
                have hst := Lib.hid hst2
                clear hst2
                obtain ⟨⟨b0, b1, b2⟩, ⟨a0, a1, a2⟩, _⟩ := hst.out.cells
                go_wp2_with (first
                  | (go_at_call 44; (with_reducible refine (use_LessT HN.out.h1 hst hst.out.tail.head hst.out.head).mono ?_); rintro e w1 ⟨S1, c1, rfl, hst⟩; obtain ⟨_, ⟨b0, b1, b2⟩, ⟨a0, a1, a2⟩, _⟩ := hst.out.cells)
                  | (go_at_call 44; (with_reducible refine (use_LessT HN.out.h2 hst hst.out.tail.head hst.out.tail.tail.head).mono ?_); rintro e w2 ⟨S2, c2, rfl, hst⟩; obtain ⟨_, _, ⟨b0, b1, b2⟩, ⟨a0, a1, a2⟩, _⟩ := hst.out.cells)
                  | (go_at_call 43; (with_reducible refine (use_EqT HN.out.h3 hst hst.out.tail.tail.tail.head hst.out.tail.tail.head).mono ?_); rintro e w3 ⟨S3, c3, rfl, hst⟩; obtain ⟨_, _, _, ⟨b0, b1, b2⟩, ⟨a0, a1, a2⟩, _⟩ := hst.out.cells)
                  | (go_at_call 41; (with_reducible refine (use_AddT HN.out.h4 hst hst.out.tail.tail.tail.tail.head hst.out.tail.tail.tail.head).mono ?_); rintro e w4 ⟨S4, c4, rfl, hst⟩; obtain ⟨⟨f0, f1, f2⟩, _, _, _, ⟨b0, b1, b2⟩, ⟨a0, a1, a2⟩, _⟩ := hst.out.cells)
                  | (go_at_call 42; (with_reducible refine (use_SubT HN.out.h5 hst hst.out.head hst.out.tail.tail.tail.tail.head).mono ?_); rintro e w5 ⟨S5, c5, rfl, hst⟩; obtain ⟨⟨g0, g1, g2⟩, _, ⟨e0, e1, e2⟩, ⟨d0, d1, d2⟩, ⟨c0, c1, c2⟩, _, ⟨a0, a1, a2⟩, _⟩ := hst.out.cells)
                  | (go_at_call 12; (with_reducible refine (use_num _ hst).mono ?_); rintro e wn ⟨rfl, hst⟩; obtain ⟨⟨g0, g1, g2⟩, _, ⟨e0, e1, e2⟩, ⟨d0, d1, d2⟩, ⟨c0, c1, c2⟩, _, ⟨a0, a1, a2⟩, _⟩ := hst.out.cells)
                  | (go_at_call 20; (with_reducible refine (use_SameT hst hst.out.head hst.out.tail.tail.tail.tail.tail.tail.head).mono ?_); rw [HN.out.back]; rintro e ws ⟨rfl, hst⟩)
                  | (go_at_call 18; (with_reducible refine (use_works hst).mono ?_); rintro e wE ⟨rfl, hst⟩; have hrcE := Lib.hid (hrcB.out.below hst.out.bel); have rc0 := hrcE.out.cell.cell 0; have rf0 := hrcE.out.cell.frozen 0; simp at rc0))
                obtain ⟨r0, hfin⟩ := hrcE.out.fin
                exact ⟨.bool true, by simp [results, Try.results10, go_sem, r0], rfl, hfin.out⟩

          · have h1I : ¬ (1 : Int) < (l.length : Int) := by omega
            go_upto_region 31 with fail

            have hst' := Lib.hid hst.out.bare
            clear hst
            have hst := hst'
            clear hst'
            obtain ⟨X1, X2, X3, X4, X5, hN⟩ : ∃ X1 X2 X3 X4 X5, Nums x y (numT x) (numT y) X1 X2 X3 X4 X5 := ⟨_, _, _, _, _, nums_of hx⟩
            obtain ⟨TA, hTA⟩ : ∃ TA, numT x = TA := ⟨_, rfl⟩
            obtain ⟨TB, hTB⟩ : ∃ TB, numT y = TB := ⟨_, rfl⟩
            rw [hTA, hTB] at hN
            have HN := Lib.hid hN
            have p1 := hN.a1.1
            have p2 := hN.a1.2
            have p3 := hN.a2.1
            have p4 := hN.a2.2
            have p5 := hN.a3.1
            have p6 := hN.a3.2
            have p7 : (X1.n + X2.n + X3.n == 1) = true := by rw [hN.sum]; rfl
            have p8 := hN.less
            clear hN
            go_upto_region 32 with (go_at_call 38; (with_reducible refine (use_Int _ hst).mono ?_); rintro e wi ⟨rfl, hst⟩)
            obtain ⟨gA, hgA⟩ : ∃ g, wi.heap.size = g := ⟨_, rfl⟩
            obtain ⟨W2, hW2⟩ : ∃ W2, (wi.alloc (.cells #[.int .i64 2, .int .i64 x, .slice none 0 0] 25)).alloc (.cells #[.int .i64 2, .int .i64 y, .slice none 0 0] 25) = W2 := ⟨_, rfl⟩
            have hst2 : St B W2 [(gA + 1, TB, none, 0), (gA, TA, none, 0)] := by
              rw [← hW2, ← hTA, ← hTB, ← hgA]
              have h1 := hst.out.push (T := numT x) (S := none) (c := 0) (num_in wi _ x hx)
              have h2 := h1.push (T := numT y) (S := none) (c := 0) (num_in _ _ y hy)
              rw [World.size_alloc] at h2
              exact h2
            have htl : TA.l.length = 0 := by rw [← hTA]; rfl
            have htl2 : TB.l.length = 0 := by rw [← hTB]; rfl
            rw [hW2, hgA]
            clear hst hW2 hTA hTB hgA htl htl2
            have hst := Lib.hid hst2
            clear hst2
            obtain ⟨⟨b0, b1, b2⟩, ⟨a0, a1, a2⟩, _⟩ := hst.out.cells
            go_wp2_with (first
              | (go_at_call 44; (with_reducible refine (use_LessT HN.out.h1 hst hst.out.tail.head hst.out.head).mono ?_); rintro e w1 ⟨S1, c1, rfl, hst⟩; obtain ⟨_, ⟨b0, b1, b2⟩, ⟨a0, a1, a2⟩, _⟩ := hst.out.cells)
              | (go_at_call 44; (with_reducible refine (use_LessT HN.out.h2 hst hst.out.tail.head hst.out.tail.tail.head).mono ?_); rintro e w2 ⟨S2, c2, rfl, hst⟩; obtain ⟨_, _, ⟨b0, b1, b2⟩, ⟨a0, a1, a2⟩, _⟩ := hst.out.cells)
              | (go_at_call 43; (with_reducible refine (use_EqT HN.out.h3 hst hst.out.tail.tail.tail.head hst.out.tail.tail.head).mono ?_); rintro e w3 ⟨S3, c3, rfl, hst⟩; obtain ⟨_, _, _, ⟨b0, b1, b2⟩, ⟨a0, a1, a2⟩, _⟩ := hst.out.cells)
              | (go_at_call 41; (with_reducible refine (use_AddT HN.out.h4 hst hst.out.tail.tail.tail.tail.head hst.out.tail.tail.tail.head).mono ?_); rintro e w4 ⟨S4, c4, rfl, hst⟩; obtain ⟨⟨f0, f1, f2⟩, _, _, _, ⟨b0, b1, b2⟩, ⟨a0, a1, a2⟩, _⟩ := hst.out.cells)
              | (go_at_call 42; (with_reducible refine (use_SubT HN.out.h5 hst hst.out.head hst.out.tail.tail.tail.tail.head).mono ?_); rintro e w5 ⟨S5, c5, rfl, hst⟩; obtain ⟨⟨g0, g1, g2⟩, _, ⟨e0, e1, e2⟩, ⟨d0, d1, d2⟩, ⟨c0, c1, c2⟩, _, ⟨a0, a1, a2⟩, _⟩ := hst.out.cells)
              | (go_at_call 12; (with_reducible refine (use_num _ hst).mono ?_); rintro e wn ⟨rfl, hst⟩; obtain ⟨⟨g0, g1, g2⟩, _, ⟨e0, e1, e2⟩, ⟨d0, d1, d2⟩, ⟨c0, c1, c2⟩, _, ⟨a0, a1, a2⟩, _⟩ := hst.out.cells)
              | (go_at_call 20; (with_reducible refine (use_SameT hst hst.out.head hst.out.tail.tail.tail.tail.tail.tail.head).mono ?_); rw [HN.out.back]; rintro e ws ⟨rfl, hst⟩)
              | (go_at_call 18; (with_reducible refine (use_works hst).mono ?_); rintro e wE ⟨rfl, hst⟩; have hrcE := Lib.hid (hrcB.out.below hst.out.bel); have rc0 := hrcE.out.cell.cell 0; have rf0 := hrcE.out.cell.frozen 0; simp at rc0))
            obtain ⟨r0, hfin⟩ := hrcE.out.fin
            exact ⟨.bool true, by simp [results, Try.results10, go_sem, r0], rfl, hfin.out⟩
        · have he : makeV (.mk k n l) = (.mk k n l, 0) := by unfold makeV; rw [hr]; rfl
          obtain ⟨N, hN⟩ : ∃ N, szI l l.length = N := ⟨_, rfl⟩
          have hNs := (szI_right hr).symm.trans hN
          have hN256 := (right_root hr).1
          have hTl : (V.mk k n l).l.length = l.length := rfl
          rw [hN]
          obtain ⟨T, hT⟩ : ∃ T, V.mk k n l = T := ⟨_, rfl⟩
          have hTk : T.k = k := by rw [← hT]; rfl
          have hTn : T.n = n := by rw [← hT]; rfl
          have hTl : T.l.length = l.length := by rw [← hT]; rfl
          rw [hT] at hr hNs hN256
          have hTN : (T.sz : Int) = (N : Int) := by unfold V.sz; omega
          have t1 : ((T.sz : Int) != (N : Int)) = false := by simp [hTN]
          have t2 : ((T.l.length : Int) != (l.length : Int)) = false := by simp [hTl]
          have t3 : (T.n != n) = false := by simp [hTn]
          have t4 : (T.k != k) = false := by simp [hTk]
          have t5 : (((V.pre 0 T).length : Int) != (N : Int)) = false := by
            have : (V.pre 0 T).length = T.size := rfl
            rw [this, hNs]; simp
          have HM : Hid (makeV (.mk k n l) = (T, 0)) := Lib.hid (by rw [he, hT])
          have HR := Lib.hid hr
          have HCK : errVal (rightB T) = 0 := by rw [hr]; rfl
          have HCK := Lib.hid HCK
          have HSZ := Lib.hid hN256
          have heq := eql_func
          clear hr he hN hNs hN256 hTk hTn hTl hTN hT hltI hlt hj hsz
          go_wp2_with (first
            | (go_at_call 24; (with_reducible refine (use_MakeT' HM.out hk hn hst (hrc0.out.below hst.out.bel) HL.out).mono ?_); rintro e wA ⟨SA, cA, rfl, hst⟩; obtain ⟨⟨x0, x1, x2⟩, _⟩ := hst.out.cells)
            | (go_at_call 12; (with_reducible refine (use_num _ hst).mono ?_); rintro e wi ⟨rfl, hst⟩; obtain ⟨⟨x0, x1, x2⟩, _⟩ := hst.out.cells)
            | (go_at_call 13; (with_reducible refine (use_CheckT hst hst.out.head).mono ?_); rw [HCK.out]; rintro e wi ⟨rfl, hst⟩; obtain ⟨⟨x0, x1, x2⟩, _⟩ := hst.out.cells)
            | (go_at_call 14; (with_reducible refine (use_SizeT hst hst.out.head).mono ?_); rintro e wi ⟨rfl, hst⟩; obtain ⟨⟨x0, x1, x2⟩, _⟩ := hst.out.cells)
            | (go_at_call 23; (with_reducible refine (use_Parts hst hst.out.head HR.out).mono ?_); rintro e wP ⟨pb, SP, cP, rfl, hP⟩))
          obtain ⟨hbP, hiP, hstP⟩ := hP.out
          have hpb := hbP.lt
          have hrcP := Lib.hid (hrc0.out.below hstP.bel)
          have HBP := Lib.hid hbP
          have hcell0 := Blk.new wP 3 #[.int .i64 0]
          clear hst hP x0 x1 x2 t1 t2 t3 t4 HM HCK heq
          refine wp_rangeN 4 rfl (enters_of Try.func68 (by kernel_rfl) rfl) (parts2_seqs T wP wP.heap.size pb _ (hiP.mono (Nat.zero_le _) (Nat.le_refl _)) (Nat.le_refl _) HSZ.out) (fun W i x xa hx => by obtain ⟨S, c, rfl, _⟩ := hx; rfl)
            (fun pre W => PK w wP pre.length W ∧ pre.length ≤ 256)
            (fun cd pre W => False)
            (fun _ _ => False)
            (fun _ _ h => h)
            (fun s X Y hs hk => ⟨hs.1.keepB hk (by simp), hs.2⟩)
            (fun cd s X Y hs hk => hs.elim)
            (fun pre W' hi' => ⟨hi'.1.bl, HBP.out.keep (hi'.1.bl.block _ hpb), Nat.le_trans hi'.2 (by omega)⟩)
            ⟨⟨hcell0, (Below.refl _ wP).alloc (Nat.le_refl _) _⟩, by simp⟩ ?round1 ?done1 ?panic1 ?stop1
          case panic1 =>
            intro D ch W1 _ hf
            exact hf.elim
          case stop1 =>
            rintro D cd pre W1 hD hpre hf hdef
            exact hf.elim
          case round1 =>
            intro l' pre p rest W1 xa hsz1 hx hi' hxa
            obtain ⟨Sx, cx, rfl, hinx⟩ := hxa
            have hpl : pre.length + 1 ≤ 256 := by
              have h1 : (V.pre 0 T).length = T.size := rfl
              have h2 := HSZ.out
              rw [← h1, hx] at h2
              simp at h2
              omega
            have hroot := part_root hx
            have hpr := part_right (d := 0) HR.out (p := p) (by rw [hx]; simp)
            have hq : (((pre.length : Int) == 0)) = ((p.1 : Int) == 0) := by
              rw [Bool.eq_iff_iff]; simpa using hroot
            have hp0 : (0 : Int) ≤ (p.1 : Int) := by omega
            have hpn : ¬ (p.1 : Int) < 0 := by omega
            have hm0 : (0 : Int) ≤ (pre.length : Int) := by omega
            have hm1 : (pre.length : Int) ≤ 256 := by omega
            have hbox : Blk (W1.alloc (.cells #[.int .i64 p.2.k, .int .i64 p.2.n, .slice Sx p.2.l.length cx] 25)) W1.heap.size 25 #[.int .i64 p.2.k, .int .i64 p.2.n, .slice Sx p.2.l.length cx] := Blk.new _ _ _
            refine .inl ?_
            gi_wp2
            refine ⟨(Since.refl _ _).alloc _, ⟨hi'.1.below ((Below.refl _ W1).alloc (Nat.le_refl _) _), hi'.2⟩, ?_⟩
            rintro W2 ht ⟨hpk, _⟩
            have hbox2 := ht.blk hbox
            have hsz2 : W1.heap.size ≤ W2.heap.size := Nat.le_of_lt hbox2.lt
            have y0 := hbox2.cell 0
            have y1 := hbox2.cell 1
            have y2 := hbox2.cell 2
            have z0 := hpk.cell.cell 0
            have f0 := hpk.cell.frozen 0
            simp at y0 y1 y2 z0
            have hin2 := ((hinx.after ((Below.refl _ W1).alloc (Nat.le_refl _) (.cells #[.int .i64 p.2.k, .int .i64 p.2.n, .slice Sx p.2.l.length cx] 25))).turned ht)
            have hck := (Check_ok W2 hin2 hsz2).mono
              (R' := fun e w' => e = .returned (.int .i64 0) ∧ w'.cell? ⟨wP.heap.size, 0, none⟩ = some (.int .i64 (pre.length : Int)) ∧ w'.frozen? ⟨wP.heap.size, 0, none⟩ = false ∧ Hid (PK w wP pre.length w' ∧ Since (wP.heap.size + 1) W2 w'))
              (fun e w' q => by
                have hk2 := hpk.below q.2
                exact ⟨by rw [q.1, hpr]; rfl, by simpa using hk2.cell.cell 0, hk2.cell.frozen 0, Lib.hid ⟨hk2, since_below q.2⟩⟩)
            have hckI := callsIn_wide (n := 4 - 1) |>.2 hck
            have HCI := Lib.hid hckI
            have hnumI := fun (m : Int) (W : World) => CallsIn.inRound l' (callsIn_wide (n := 4 - 1) |>.2 (num_ok m W))
            have HNI := Lib.hid hnumI
            have hf1 : Fence.wide.fn 13 := trivial
            have hf2 : Fence.wide.fn 12 := trivial
            have HPR := Lib.hid hpr
            clear hpk ht hi' hbox hbox2 hin2 hck hckI hinx hx hnumI hroot hpr
            gi_wp2_with (first
              | (gi_at_call 13; refine (CallsIn.inRound l' HCI.out).mono ?_; rintro e w3 ⟨rfl, z0, f0, hQ⟩)
              | (gi_at_call 12; refine (HNI.out _ _).mono ?_; rintro e w4 ⟨rfl, rfl⟩))
            exact ⟨hQ.out.2.setCell (by simp) _, by rw [List.length_append]; exact hQ.out.1.next, by simp; omega⟩
          case done1 =>
            rintro D1 W1 hD1 ⟨hpk, _⟩ hdef1
            have z0 := hpk.cell.cell 0
            simp at z0
            obtain ⟨B, hB⟩ : ∃ B, W1 = B := ⟨_, rfl⟩
            rw [hB] at hpk hdef1 z0 ⊢
            have hrcB := Lib.hid (hrcP.out.below hpk.bl)
            have hst : Hid (St B B []) := Lib.hid ⟨Below.refl _ B, trivial⟩
            have hdefB := Lib.hid hdef1
            have hDge : Hid (w.heap.size ≤ D1) := Lib.hid (by have := hrcP.out.bl.size; simp at hD1; omega)
            clear hpk hdef1 hD1 hB hstP hrcP HBP hiP hbP hpb hcell0 HR HSZ
            go_upto_region 24 with fail

            by_cases h1 : 1 < l.length
            · have h1I : (1 : Int) < (l.length : Int) := by omega
              have h0I : (0 : Int) < (l.length : Int) := by omega
              have h0N : 0 < l.length := by omega
              obtain ⟨x0, hx0⟩ : ∃ x, l[0]? = some x := ⟨_, List.getElem?_eq_getElem (by omega)⟩
              obtain ⟨x1, hx1⟩ : ∃ x, l[1]? = some x := ⟨_, List.getElem?_eq_getElem h1⟩
              have hlsB := hrcB.out.ls HL.out
              obtain ⟨b, o, s0, rfl, hb, _, _, q0, q1, q2, hi0⟩ := hlsB.at_ hx0
              obtain ⟨b', o', s1, hbe, hb', _, _, q3, q4, q5, hi1⟩ := hlsB.at_ hx1
              simp only [Option.some.injEq, Addr.mk.injEq] at hbe
              obtain ⟨rfl, rfl, _⟩ := hbe
              obtain ⟨Y0, d0, rfl, _, _, _⟩ := hi0.slice
              obtain ⟨Y1, d1, rfl, _, _, _⟩ := hi1.slice
              rw [Nat.zero_mul, Nat.add_zero] at q0 q1 q2
              rw [Nat.one_mul] at q3 q4 q5
              have hQ : ∀ W, Below B.heap.size B W → W.cell? ⟨b, o, none⟩ = some (.int .i64 x0.k) ∧ W.cell? ⟨b, o + 1, none⟩ = some (.int .i64 x0.n) ∧ W.cell? ⟨b, o + 2, none⟩ = some (.slice Y0 x0.l.length d0) ∧ W.cell? ⟨b, o + 3, none⟩ = some (.int .i64 x1.k) ∧ W.cell? ⟨b, o + 3 + 1, none⟩ = some (.int .i64 x1.n) ∧ W.cell? ⟨b, o + 3 + 2, none⟩ = some (.slice Y1 x1.l.length d1) ∧ b < W.heap.size := fun W hW =>
                ⟨(cell_same (hW.block b hb)).trans q0, (cell_same (hW.block b hb)).trans q1, (cell_same (hW.block b hb)).trans q2, (cell_same (hW.block b hb)).trans q3, (cell_same (hW.block b hb)).trans q4, (cell_same (hW.block b hb)).trans q5, Nat.lt_of_lt_of_le hb hW.size⟩
              have HQ := Lib.hid hQ
              have HI0 := Lib.hid hi0
              have HI1 := Lib.hid hi1
              clear hQ hi0 hi1 hx0 hx1 hlsB
              cases hr : rightB (.mk 3 0 [x0, x1])
              · have hP : makeV (.mk 3 0 [x0, x1]) = (zeroV, 40) := by unfold makeV; rw [hr]; rfl
                obtain ⟨P, hPe⟩ : ∃ P, zeroV = P := ⟨_, rfl⟩
                obtain ⟨err, hErr⟩ : ∃ err : Int, (40 : Int) = err := ⟨_, rfl⟩
                rw [hPe, hErr] at hP
                have HP := Lib.hid hP
                have herr : (err == 0) = false := by rw [← hErr]; rfl
                clear hr hP hPe hErr
                go_upto_region 25 with fail
                have hstD : Hid (St B B.drew []) := Lib.hid hst.out.drew
                have hs2 : Hid (St2 B ((B.alloc (.cells #[.int .i64 0, .int .i64 0, .slice none 0 0] 25)).drew) [] B.heap.size) := Lib.hid (St2.new hst.out).drew
                have hnb : ¬ b = B.heap.size := Nat.ne_of_lt hb
                go_cut [19, 20] from 124 to 133 (fun p e wx => OutP B P err p e wx)
                case first =>
                  go_region_held3 (fun w' => w'.cell? ⟨b, o, none⟩ = some (.int .i64 x0.k) ∧ w'.cell? ⟨b, o + 1, none⟩ = some (.int .i64 x0.n) ∧ w'.cell? ⟨b, o + 2, none⟩ = some (.slice Y0 x0.l.length d0) ∧ w'.cell? ⟨b, o + 3, none⟩ = some (.int .i64 x1.k) ∧ w'.cell? ⟨b, o + 3 + 1, none⟩ = some (.int .i64 x1.n) ∧ w'.cell? ⟨b, o + 3 + 2, none⟩ = some (.slice Y1 x1.l.length d1)) (first | with_reducible exact ⟨q0, q1, q2, q3, q4, q5⟩ | ((refine ⟨?_, ?_, ?_, ?_, ?_, ?_⟩) <;> (repeat (first | with_reducible assumption | with_reducible refine cell_alloc ?_ | with_reducible refine cell_drew ?_ | with_reducible refine cell_set (by assumption) ?_))) | go_keep) ((first
                    | (go_at_call 27; (with_reducible refine (use_PairF HP.out hstD HI0.out HI1.out).mono ?_); rintro e wX ⟨SX, cX, rfl, hbX, hst⟩; obtain ⟨g0, g1, g2, g3, g4, g5, hbw⟩ := HQ.out _ hbX.out; have hnx : ¬ b = wX.heap.size := Nat.ne_of_lt hbw)
                    | (go_at_call 27; (with_reducible refine (use_PairF2 HP.out hs2 HI0.out HI1.out).mono ?_); rintro e wX ⟨SX, cX, rfl, ⟨z0, z1, z2, z3, z4, z5, z6⟩, hbX, hst⟩; obtain ⟨g0, g1, g2, g3, g4, g5, hbw⟩ := HQ.out _ hbX.out)))
                  all_goals go_wp2_with fail
                  all_goals go_meet
                  all_goals exact hst.out.outP
                case rest =>
                  obtain ⟨g, SX, cX, rfl, rfl, hst'⟩ := hcut
                  clear hst hstD hs2
                  have hst := Lib.hid hst'
                  clear hst'
                  go_upto_region 31 with (go_at_call 12; (with_reducible refine (use_num _ hst).mono ?_); rintro e wn ⟨rfl, hst⟩)

                  have hst' := Lib.hid hst.out.bare
                  clear hst
                  have hst := hst'
                  clear hst'
                  obtain ⟨X1, X2, X3, X4, X5, hN⟩ : ∃ X1 X2 X3 X4 X5, Nums x y (numT x) (numT y) X1 X2 X3 X4 X5 := ⟨_, _, _, _, _, nums_of hx⟩
                  obtain ⟨TA, hTA⟩ : ∃ TA, numT x = TA := ⟨_, rfl⟩
                  obtain ⟨TB, hTB⟩ : ∃ TB, numT y = TB := ⟨_, rfl⟩
                  rw [hTA, hTB] at hN
                  have HN := Lib.hid hN
                  have p1 := hN.a1.1
                  have p2 := hN.a1.2
                  have p3 := hN.a2.1
                  have p4 := hN.a2.2
                  have p5 := hN.a3.1
                  have p6 := hN.a3.2
                  have p7 : (X1.n + X2.n + X3.n == 1) = true := by rw [hN.sum]; rfl
                  have p8 := hN.less
                  clear hN
                  go_upto_region 32 with (go_at_call 38; (with_reducible refine (use_Int _ hst).mono ?_); rintro e wi ⟨rfl, hst⟩)
                  obtain ⟨gA, hgA⟩ : ∃ g, wi.heap.size = g := ⟨_, rfl⟩
                  obtain ⟨W2, hW2⟩ : ∃ W2, (wi.alloc (.cells #[.int .i64 2, .int .i64 x, .slice none 0 0] 25)).alloc (.cells #[.int .i64 2, .int .i64 y, .slice none 0 0] 25) = W2 := ⟨_, rfl⟩
                  have hst2 : St B W2 [(gA + 1, TB, none, 0), (gA, TA, none, 0)] := by
                    rw [← hW2, ← hTA, ← hTB, ← hgA]
                    have h1 := hst.out.push (T := numT x) (S := none) (c := 0) (num_in wi _ x hx)
                    have h2 := h1.push (T := numT y) (S := none) (c := 0) (num_in _ _ y hy)
                    rw [World.size_alloc] at h2
                    exact h2
                  have htl : TA.l.length = 0 := by rw [← hTA]; rfl
                  have htl2 : TB.l.length = 0 := by rw [← hTB]; rfl
                  rw [hW2, hgA]
                  clear hst hW2 hTA hTB hgA htl htl2
                  have hst := Lib.hid hst2
                  clear hst2
                  obtain ⟨⟨b0, b1, b2⟩, ⟨a0, a1, a2⟩, _⟩ := hst.out.cells
                  go_wp2_with (first
                    | (go_at_call 44; (with_reducible refine (use_LessT HN.out.h1 hst hst.out.tail.head hst.out.head).mono ?_); rintro e w1 ⟨S1, c1, rfl, hst⟩; obtain ⟨_, ⟨b0, b1, b2⟩, ⟨a0, a1, a2⟩, _⟩ := hst.out.cells)
                    | (go_at_call 44; (with_reducible refine (use_LessT HN.out.h2 hst hst.out.tail.head hst.out.tail.tail.head).mono ?_); rintro e w2 ⟨S2, c2, rfl, hst⟩; obtain ⟨_, _, ⟨b0, b1, b2⟩, ⟨a0, a1, a2⟩, _⟩ := hst.out.cells)
                    | (go_at_call 43; (with_reducible refine (use_EqT HN.out.h3 hst hst.out.tail.tail.tail.head hst.out.tail.tail.head).mono ?_); rintro e w3 ⟨S3, c3, rfl, hst⟩; obtain ⟨_, _, _, ⟨b0, b1, b2⟩, ⟨a0, a1, a2⟩, _⟩ := hst.out.cells)
                    | (go_at_call 41; (with_reducible refine (use_AddT HN.out.h4 hst hst.out.tail.tail.tail.tail.head hst.out.tail.tail.tail.head).mono ?_); rintro e w4 ⟨S4, c4, rfl, hst⟩; obtain ⟨⟨f0, f1, f2⟩, _, _, _, ⟨b0, b1, b2⟩, ⟨a0, a1, a2⟩, _⟩ := hst.out.cells)
                    | (go_at_call 42; (with_reducible refine (use_SubT HN.out.h5 hst hst.out.head hst.out.tail.tail.tail.tail.head).mono ?_); rintro e w5 ⟨S5, c5, rfl, hst⟩; obtain ⟨⟨g0, g1, g2⟩, _, ⟨e0, e1, e2⟩, ⟨d0, d1, d2⟩, ⟨c0, c1, c2⟩, _, ⟨a0, a1, a2⟩, _⟩ := hst.out.cells)
                    | (go_at_call 12; (with_reducible refine (use_num _ hst).mono ?_); rintro e wn ⟨rfl, hst⟩; obtain ⟨⟨g0, g1, g2⟩, _, ⟨e0, e1, e2⟩, ⟨d0, d1, d2⟩, ⟨c0, c1, c2⟩, _, ⟨a0, a1, a2⟩, _⟩ := hst.out.cells)
                    | (go_at_call 20; (with_reducible refine (use_SameT hst hst.out.head hst.out.tail.tail.tail.tail.tail.tail.head).mono ?_); rw [HN.out.back]; rintro e ws ⟨rfl, hst⟩)
                    | (go_at_call 18; (with_reducible refine (use_works hst).mono ?_); rintro e wE ⟨rfl, hst⟩; have hrcE := Lib.hid (hrcB.out.below hst.out.bel); have rc0 := hrcE.out.cell.cell 0; have rf0 := hrcE.out.cell.frozen 0; simp at rc0))
                  obtain ⟨hd1, r0, hfin⟩ := hrcE.out.finM ((hst.out.bel.block _ (Array.getElem?_eq_some_iff.1 hdefB.out).1).trans hdefB.out) hDge.out
                  exact ⟨by simp, .inl ⟨_, _, rfl, run_takeDeferred hd1, ⟨.bool true, by simp [results, Try.results10, go_sem, r0], rfl, hfin.out⟩⟩⟩

              · have hP : makeV (.mk 3 0 [x0, x1]) = (.mk 3 0 [x0, x1], 0) := by unfold makeV; rw [hr]; rfl
                obtain ⟨hf0, hf1, hs0, hs1⟩ := pair_halves hr
                have HS0 : Hid (sameB x0 x0 = true) := Lib.hid (by rw [same_self]; simp [hs0])
                have HS1 : Hid (sameB x1 x1 = true) := Lib.hid (by rw [same_self]; simp [hs1])
                obtain ⟨P, hPe⟩ : ∃ P, V.mk 3 0 [x0, x1] = P := ⟨_, rfl⟩
                obtain ⟨err, hErr⟩ : ∃ err : Int, (0 : Int) = err := ⟨_, rfl⟩
                have hP' : makeV (.mk 3 0 [x0, x1]) = (P, err) := by rw [hP, hPe, ← hErr]
                rw [hPe] at hf0 hf1
                have HF0 := Lib.hid hf0
                have HF1 := Lib.hid hf1
                have HP := Lib.hid hP'
                have herr : (err == 0) = true := by rw [← hErr]; rfl
                clear hr hP hP' hPe hf0 hf1 hs0 hs1 hErr
                go_upto_region 25 with fail
                have hstD : Hid (St B B.drew []) := Lib.hid hst.out.drew
                have hs2 : Hid (St2 B ((B.alloc (.cells #[.int .i64 0, .int .i64 0, .slice none 0 0] 25)).drew) [] B.heap.size) := Lib.hid (St2.new hst.out).drew
                have hnb : ¬ b = B.heap.size := Nat.ne_of_lt hb
                go_cut [19, 20] from 124 to 133 (fun p e wx => OutP B P err p e wx)
                case first =>
                  go_region_held3 (fun w' => w'.cell? ⟨b, o, none⟩ = some (.int .i64 x0.k) ∧ w'.cell? ⟨b, o + 1, none⟩ = some (.int .i64 x0.n) ∧ w'.cell? ⟨b, o + 2, none⟩ = some (.slice Y0 x0.l.length d0) ∧ w'.cell? ⟨b, o + 3, none⟩ = some (.int .i64 x1.k) ∧ w'.cell? ⟨b, o + 3 + 1, none⟩ = some (.int .i64 x1.n) ∧ w'.cell? ⟨b, o + 3 + 2, none⟩ = some (.slice Y1 x1.l.length d1)) (first | with_reducible exact ⟨q0, q1, q2, q3, q4, q5⟩ | ((refine ⟨?_, ?_, ?_, ?_, ?_, ?_⟩) <;> (repeat (first | with_reducible assumption | with_reducible refine cell_alloc ?_ | with_reducible refine cell_drew ?_ | with_reducible refine cell_set (by assumption) ?_))) | go_keep) ((first
                    | (go_at_call 27; (with_reducible refine (use_PairF HP.out hstD HI0.out HI1.out).mono ?_); rintro e wX ⟨SX, cX, rfl, hbX, hst⟩; obtain ⟨g0, g1, g2, g3, g4, g5, hbw⟩ := HQ.out _ hbX.out; have hnx : ¬ b = wX.heap.size := Nat.ne_of_lt hbw)
                    | (go_at_call 27; (with_reducible refine (use_PairF2 HP.out hs2 HI0.out HI1.out).mono ?_); rintro e wX ⟨SX, cX, rfl, ⟨z0, z1, z2, z3, z4, z5, z6⟩, hbX, hst⟩; obtain ⟨g0, g1, g2, g3, g4, g5, hbw⟩ := HQ.out _ hbX.out)))
                  all_goals go_wp2_with fail
                  all_goals go_meet
                  all_goals exact hst.out.outP
                case rest =>
                  obtain ⟨g, SX, cX, rfl, rfl, hst'⟩ := hcut
                  clear hst hstD hs2
                  have hst := Lib.hid hst'
                  clear hst'
                  go_upto_region 29 with (first
                    | (go_at_call 12; (with_reducible refine (use_num _ hst).mono ?_); rintro e wn ⟨rfl, hst⟩; obtain ⟨⟨z0, z1, z2⟩, _⟩ := hst.out.cells)
                    | (go_at_call 45; (with_reducible refine (use_FirstT HF0.out hst hst.out.head).mono ?_); rintro e wF ⟨SF, cF, rfl, hst⟩; obtain ⟨_, ⟨z0, z1, z2⟩, _⟩ := hst.out.cells)
                    | (go_at_call 46; (with_reducible refine (use_SecondT HF1.out hst hst.out.tail.head).mono ?_); rintro e wG ⟨SG, cG, rfl, hst⟩))
                  have hst' := Lib.hid hst.out.drew
                  clear hst z0 z1 z2
                  have hst := hst'
                  clear hst' q0 q1 q2 q3 q4 q5
                  obtain ⟨⟨u0, u1, u2⟩, ⟨v0, v1, v2⟩, _⟩ := hst.out.cells
                  obtain ⟨q0, q1, q2, q3, q4, q5, hbw⟩ := HQ.out _ hst.out.bel
                  go_region_held3 (fun w' => w'.cell? ⟨wF.heap.size, 0, none⟩ = some (.int .i64 x0.k) ∧ w'.cell? ⟨wF.heap.size, 1, none⟩ = some (.int .i64 x0.n) ∧ w'.cell? ⟨wF.heap.size, 2, none⟩ = some (.slice SF x0.l.length cF) ∧ w'.cell? ⟨wG.heap.size, 0, none⟩ = some (.int .i64 x1.k) ∧ w'.cell? ⟨wG.heap.size, 1, none⟩ = some (.int .i64 x1.n) ∧ w'.cell? ⟨wG.heap.size, 2, none⟩ = some (.slice SG x1.l.length cG) ∧ w'.cell? ⟨b, o, none⟩ = some (.int .i64 x0.k) ∧ w'.cell? ⟨b, o + 1, none⟩ = some (.int .i64 x0.n) ∧ w'.cell? ⟨b, o + 2, none⟩ = some (.slice Y0 x0.l.length d0) ∧ w'.cell? ⟨b, o + 3, none⟩ = some (.int .i64 x1.k) ∧ w'.cell? ⟨b, o + 3 + 1, none⟩ = some (.int .i64 x1.n) ∧ w'.cell? ⟨b, o + 3 + 2, none⟩ = some (.slice Y1 x1.l.length d1)) (first | with_reducible exact ⟨v0, v1, v2, u0, u1, u2, q0, q1, q2, q3, q4, q5⟩ | go_keep) ((first
                    | (go_at_call 12; (with_reducible refine (use_num _ hst).mono ?_); rintro e wn ⟨rfl, hst⟩; obtain ⟨⟨u0, u1, u2⟩, ⟨v0, v1, v2⟩, _⟩ := hst.out.cells; obtain ⟨q0, q1, q2, q3, q4, q5, hbw⟩ := HQ.out _ hst.out.bel)
                    | (go_at_call 20; (with_reducible refine (use_SameE hst hst.out.tail.head HI0.out).mono ?_); rw [HS0.out]; rintro e wn ⟨rfl, hst⟩; obtain ⟨⟨u0, u1, u2⟩, ⟨v0, v1, v2⟩, _⟩ := hst.out.cells; obtain ⟨q0, q1, q2, q3, q4, q5, hbw⟩ := HQ.out _ hst.out.bel)
                    | (go_at_call 20; (with_reducible refine (use_SameE hst hst.out.head HI1.out).mono ?_); rw [HS1.out]; rintro e wn ⟨rfl, hst⟩; obtain ⟨⟨u0, u1, u2⟩, ⟨v0, v1, v2⟩, _⟩ := hst.out.cells; obtain ⟨q0, q1, q2, q3, q4, q5, hbw⟩ := HQ.out _ hst.out.bel)))
                  go_upto_region 31 with fail

                  have hst' := Lib.hid hst.out.bare
                  clear hst
                  have hst := hst'
                  clear hst'
                  obtain ⟨X1, X2, X3, X4, X5, hN⟩ : ∃ X1 X2 X3 X4 X5, Nums x y (numT x) (numT y) X1 X2 X3 X4 X5 := ⟨_, _, _, _, _, nums_of hx⟩
                  obtain ⟨TA, hTA⟩ : ∃ TA, numT x = TA := ⟨_, rfl⟩
                  obtain ⟨TB, hTB⟩ : ∃ TB, numT y = TB := ⟨_, rfl⟩
                  rw [hTA, hTB] at hN
                  have HN := Lib.hid hN
                  have p1 := hN.a1.1
                  have p2 := hN.a1.2
                  have p3 := hN.a2.1
                  have p4 := hN.a2.2
                  have p5 := hN.a3.1
                  have p6 := hN.a3.2
                  have p7 : (X1.n + X2.n + X3.n == 1) = true := by rw [hN.sum]; rfl
                  have p8 := hN.less
                  clear hN
                  go_upto_region 32 with (go_at_call 38; (with_reducible refine (use_Int _ hst).mono ?_); rintro e wi ⟨rfl, hst⟩)
                  obtain ⟨gA, hgA⟩ : ∃ g, wi.heap.size = g := ⟨_, rfl⟩
                  obtain ⟨W2, hW2⟩ : ∃ W2, (wi.alloc (.cells #[.int .i64 2, .int .i64 x, .slice none 0 0] 25)).alloc (.cells #[.int .i64 2, .int .i64 y, .slice none 0 0] 25) = W2 := ⟨_, rfl⟩
                  have hst2 : St B W2 [(gA + 1, TB, none, 0), (gA, TA, none, 0)] := by
                    rw [← hW2, ← hTA, ← hTB, ← hgA]
                    have h1 := hst.out.push (T := numT x) (S := none) (c := 0) (num_in wi _ x hx)
                    have h2 := h1.push (T := numT y) (S := none) (c := 0) (num_in _ _ y hy)
                    rw [World.size_alloc] at h2
                    exact h2
                  have htl : TA.l.length = 0 := by rw [← hTA]; rfl
                  have htl2 : TB.l.length = 0 := by rw [← hTB]; rfl
                  rw [hW2, hgA]
                  clear hst hW2 hTA hTB hgA htl htl2
                  have hst := Lib.hid hst2
                  clear hst2
                  obtain ⟨⟨b0, b1, b2⟩, ⟨a0, a1, a2⟩, _⟩ := hst.out.cells
                  go_wp2_with (first
                    | (go_at_call 44; (with_reducible refine (use_LessT HN.out.h1 hst hst.out.tail.head hst.out.head).mono ?_); rintro e w1 ⟨S1, c1, rfl, hst⟩; obtain ⟨_, ⟨b0, b1, b2⟩, ⟨a0, a1, a2⟩, _⟩ := hst.out.cells)
                    | (go_at_call 44; (with_reducible refine (use_LessT HN.out.h2 hst hst.out.tail.head hst.out.tail.tail.head).mono ?_); rintro e w2 ⟨S2, c2, rfl, hst⟩; obtain ⟨_, _, ⟨b0, b1, b2⟩, ⟨a0, a1, a2⟩, _⟩ := hst.out.cells)
                    | (go_at_call 43; (with_reducible refine (use_EqT HN.out.h3 hst hst.out.tail.tail.tail.head hst.out.tail.tail.head).mono ?_); rintro e w3 ⟨S3, c3, rfl, hst⟩; obtain ⟨_, _, _, ⟨b0, b1, b2⟩, ⟨a0, a1, a2⟩, _⟩ := hst.out.cells)
                    | (go_at_call 41; (with_reducible refine (use_AddT HN.out.h4 hst hst.out.tail.tail.tail.tail.head hst.out.tail.tail.tail.head).mono ?_); rintro e w4 ⟨S4, c4, rfl, hst⟩; obtain ⟨⟨f0, f1, f2⟩, _, _, _, ⟨b0, b1, b2⟩, ⟨a0, a1, a2⟩, _⟩ := hst.out.cells)
                    | (go_at_call 42; (with_reducible refine (use_SubT HN.out.h5 hst hst.out.head hst.out.tail.tail.tail.tail.head).mono ?_); rintro e w5 ⟨S5, c5, rfl, hst⟩; obtain ⟨⟨g0, g1, g2⟩, _, ⟨e0, e1, e2⟩, ⟨d0, d1, d2⟩, ⟨c0, c1, c2⟩, _, ⟨a0, a1, a2⟩, _⟩ := hst.out.cells)
                    | (go_at_call 12; (with_reducible refine (use_num _ hst).mono ?_); rintro e wn ⟨rfl, hst⟩; obtain ⟨⟨g0, g1, g2⟩, _, ⟨e0, e1, e2⟩, ⟨d0, d1, d2⟩, ⟨c0, c1, c2⟩, _, ⟨a0, a1, a2⟩, _⟩ := hst.out.cells)
                    | (go_at_call 20; (with_reducible refine (use_SameT hst hst.out.head hst.out.tail.tail.tail.tail.tail.tail.head).mono ?_); rw [HN.out.back]; rintro e ws ⟨rfl, hst⟩)
                    | (go_at_call 18; (with_reducible refine (use_works hst).mono ?_); rintro e wE ⟨rfl, hst⟩; have hrcE := Lib.hid (hrcB.out.below hst.out.bel); have rc0 := hrcE.out.cell.cell 0; have rf0 := hrcE.out.cell.frozen 0; simp at rc0))
                  obtain ⟨hd1, r0, hfin⟩ := hrcE.out.finM ((hst.out.bel.block _ (Array.getElem?_eq_some_iff.1 hdefB.out).1).trans hdefB.out) hDge.out
                  exact ⟨by simp, .inl ⟨_, _, rfl, run_takeDeferred hd1, ⟨.bool true, by simp [results, Try.results10, go_sem, r0], rfl, hfin.out⟩⟩⟩

            · have h1I : ¬ (1 : Int) < (l.length : Int) := by omega
              go_upto_region 31 with fail

              have hst' := Lib.hid hst.out.bare
              clear hst
              have hst := hst'
              clear hst'
              obtain ⟨X1, X2, X3, X4, X5, hN⟩ : ∃ X1 X2 X3 X4 X5, Nums x y (numT x) (numT y) X1 X2 X3 X4 X5 := ⟨_, _, _, _, _, nums_of hx⟩
              obtain ⟨TA, hTA⟩ : ∃ TA, numT x = TA := ⟨_, rfl⟩
              obtain ⟨TB, hTB⟩ : ∃ TB, numT y = TB := ⟨_, rfl⟩
              rw [hTA, hTB] at hN
              have HN := Lib.hid hN
              have p1 := hN.a1.1
              have p2 := hN.a1.2
              have p3 := hN.a2.1
              have p4 := hN.a2.2
              have p5 := hN.a3.1
              have p6 := hN.a3.2
              have p7 : (X1.n + X2.n + X3.n == 1) = true := by rw [hN.sum]; rfl
              have p8 := hN.less
              clear hN
              go_upto_region 32 with (go_at_call 38; (with_reducible refine (use_Int _ hst).mono ?_); rintro e wi ⟨rfl, hst⟩)
              obtain ⟨gA, hgA⟩ : ∃ g, wi.heap.size = g := ⟨_, rfl⟩
              obtain ⟨W2, hW2⟩ : ∃ W2, (wi.alloc (.cells #[.int .i64 2, .int .i64 x, .slice none 0 0] 25)).alloc (.cells #[.int .i64 2, .int .i64 y, .slice none 0 0] 25) = W2 := ⟨_, rfl⟩
              have hst2 : St B W2 [(gA + 1, TB, none, 0), (gA, TA, none, 0)] := by
                rw [← hW2, ← hTA, ← hTB, ← hgA]
                have h1 := hst.out.push (T := numT x) (S := none) (c := 0) (num_in wi _ x hx)
                have h2 := h1.push (T := numT y) (S := none) (c := 0) (num_in _ _ y hy)
                rw [World.size_alloc] at h2
                exact h2
              have htl : TA.l.length = 0 := by rw [← hTA]; rfl
              have htl2 : TB.l.length = 0 := by rw [← hTB]; rfl
              rw [hW2, hgA]
              clear hst hW2 hTA hTB hgA htl htl2
              have hst := Lib.hid hst2
              clear hst2
              obtain ⟨⟨b0, b1, b2⟩, ⟨a0, a1, a2⟩, _⟩ := hst.out.cells
              go_wp2_with (first
                | (go_at_call 44; (with_reducible refine (use_LessT HN.out.h1 hst hst.out.tail.head hst.out.head).mono ?_); rintro e w1 ⟨S1, c1, rfl, hst⟩; obtain ⟨_, ⟨b0, b1, b2⟩, ⟨a0, a1, a2⟩, _⟩ := hst.out.cells)
                | (go_at_call 44; (with_reducible refine (use_LessT HN.out.h2 hst hst.out.tail.head hst.out.tail.tail.head).mono ?_); rintro e w2 ⟨S2, c2, rfl, hst⟩; obtain ⟨_, _, ⟨b0, b1, b2⟩, ⟨a0, a1, a2⟩, _⟩ := hst.out.cells)
                | (go_at_call 43; (with_reducible refine (use_EqT HN.out.h3 hst hst.out.tail.tail.tail.head hst.out.tail.tail.head).mono ?_); rintro e w3 ⟨S3, c3, rfl, hst⟩; obtain ⟨_, _, _, ⟨b0, b1, b2⟩, ⟨a0, a1, a2⟩, _⟩ := hst.out.cells)
                | (go_at_call 41; (with_reducible refine (use_AddT HN.out.h4 hst hst.out.tail.tail.tail.tail.head hst.out.tail.tail.tail.head).mono ?_); rintro e w4 ⟨S4, c4, rfl, hst⟩; obtain ⟨⟨f0, f1, f2⟩, _, _, _, ⟨b0, b1, b2⟩, ⟨a0, a1, a2⟩, _⟩ := hst.out.cells)
                | (go_at_call 42; (with_reducible refine (use_SubT HN.out.h5 hst hst.out.head hst.out.tail.tail.tail.tail.head).mono ?_); rintro e w5 ⟨S5, c5, rfl, hst⟩; obtain ⟨⟨g0, g1, g2⟩, _, ⟨e0, e1, e2⟩, ⟨d0, d1, d2⟩, ⟨c0, c1, c2⟩, _, ⟨a0, a1, a2⟩, _⟩ := hst.out.cells)
                | (go_at_call 12; (with_reducible refine (use_num _ hst).mono ?_); rintro e wn ⟨rfl, hst⟩; obtain ⟨⟨g0, g1, g2⟩, _, ⟨e0, e1, e2⟩, ⟨d0, d1, d2⟩, ⟨c0, c1, c2⟩, _, ⟨a0, a1, a2⟩, _⟩ := hst.out.cells)
                | (go_at_call 20; (with_reducible refine (use_SameT hst hst.out.head hst.out.tail.tail.tail.tail.tail.tail.head).mono ?_); rw [HN.out.back]; rintro e ws ⟨rfl, hst⟩)
                | (go_at_call 18; (with_reducible refine (use_works hst).mono ?_); rintro e wE ⟨rfl, hst⟩; have hrcE := Lib.hid (hrcB.out.below hst.out.bel); have rc0 := hrcE.out.cell.cell 0; have rf0 := hrcE.out.cell.frozen 0; simp at rc0))
              obtain ⟨hd1, r0, hfin⟩ := hrcE.out.finM ((hst.out.bel.block _ (Array.getElem?_eq_some_iff.1 hdefB.out).1).trans hdefB.out) hDge.out
              exact ⟨by simp, .inl ⟨_, _, rfl, run_takeDeferred hd1, ⟨.bool true, by simp [results, Try.results10, go_sem, r0], rfl, hfin.out⟩⟩⟩
  · have hlenI : (10 : Int) < (l.length : Int) := by omega
    go_wp2_with (go_at_call 18; (with_reducible refine (use_works hst0).mono ?_); rintro e wE ⟨rfl, hst⟩; have hrcE := Lib.hid (hrc0.out.below hst.out.bel); have rc0 := hrcE.out.cell.cell 0; have rf0 := hrcE.out.cell.frozen 0; simp at rc0)
    obtain ⟨r0, hfin⟩ := hrcE.out.fin
    exact ⟨.bool true, by simp [results, Try.results10, go_sem, r0], rfl, hfin.out⟩
end Go.Proofs.Ythfmbeecpjeegaa
