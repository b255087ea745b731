/- The document's own Make. -/
import Derived.Test.YthfmbeecpjeegaaEe
namespace Go.Proofs.Ythfmbeecpjeegaa
open Go.RowKit Go.Shelf
attribute [local go_sem] Oper.semAt_some

theorem Enc.keep {w w' : World} {hi : Nat} {q : List V} : ∀ {xs : List Value}, Enc w hi q xs → (∀ b, b < hi → w'.heap[b]? = w.heap[b]?) → Enc w' hi q xs := by
  induction q with
  | nil => intro xs h _; exact h
  | cons x q ih =>
    rintro xs ⟨s, ys, rfl, h1, h⟩ hk
    exact ⟨s, ys, rfl, h1.keep (fun b _ hb => hk b hb), ih h hk⟩
theorem Enc.at_ {w : World} {hi : Nat} : ∀ {l : List V} {xs : List Value}, Enc w hi l xs → ∀ (i : Nat) (x : V), l[i]? = some x →
    ∃ s, xs[i * 3]? = some (.int .i64 x.k) ∧ xs[i * 3 + 1]? = some (.int .i64 x.n) ∧ xs[i * 3 + 2]? = some s ∧ In w 0 hi (.agg #[.int .i64 x.k, .int .i64 x.n, s]) x
  | [], _, _, i, x, hx => by simp at hx
  | y :: l, _, ⟨s, ys, rfl, h1, h⟩, 0, x, hx => by
    simp at hx
    subst hx
    exact ⟨s, rfl, rfl, rfl, h1⟩
  | y :: l, _, ⟨s, ys, rfl, h1, h⟩, i + 1, x, hx => by
    obtain ⟨s', a0, a1, a2, a3⟩ := Enc.at_ h i x (by simpa using hx)
    refine ⟨s', ?_, ?_, ?_, a3⟩
    · rw [show (i + 1) * 3 = i * 3 + 1 + 1 + 1 from by omega]; simpa using a0
    · rw [show (i + 1) * 3 + 1 = i * 3 + 1 + 1 + 1 + 1 from by omega]; simpa using a1
    · rw [show (i + 1) * 3 + 2 = i * 3 + 2 + 1 + 1 + 1 from by omega]; simpa using a2
/-- A slice of the call's own that values were appended to stands for them. -/
theorem Row.ls {W : World} {hi n c : Nat} {A : Option Addr} {l : List V} {zs : List Value} (hr : Row W 25 3 (.slice A n c) n zs) (hn : n = l.length) (he : Enc W hi l zs) (hh : hi ≤ W.heap.size) : Ls W 0 W.heap.size (.slice A n c) l := by
  subst hn
  obtain ⟨_, _, hv, h1, h2⟩ := hr.form
  simp only [Value.slice.injEq] at hv
  obtain ⟨rfl, _, rfl⟩ := hv
  rcases Nat.eq_zero_or_pos l.length with h0 | h0
  · have : l = [] := List.eq_nil_of_length_eq_zero h0
    subst this
    exact Ls.nil W 0 _ c A h2
  · obtain ⟨g, cap, cur, hv, hblk, _, _, _, _⟩ := hr.addr h0
    simp only [Value.slice.injEq] at hv
    obtain ⟨rfl, _, rfl⟩ := hv
    have hcells := hr.cells rfl
    refine ⟨_, _, g, 0, fun i => .agg #[(zs[i * 3]?).getD undef, (zs[i * 3 + 1]?).getD undef, (zs[i * 3 + 2]?).getD undef], rfl, h1, h2, fun _ => ⟨rfl, Nat.zero_le _, hblk.lt⟩, fun i hi' => ?_, fun i x hx => ?_⟩
    · obtain ⟨s, a0, a1, a2, _⟩ := he.at_ i _ (List.getElem?_eq_getElem hi')
      refine ⟨_, _, _, rfl, ?_, ?_, ?_⟩
      · rw [Nat.zero_add, (hcells (i * 3) (by omega)).1, a0]; rfl
      · rw [Nat.zero_add, (hcells (i * 3 + 1) (by omega)).1, a1]; rfl
      · rw [Nat.zero_add, (hcells (i * 3 + 2) (by omega)).1, a2]; rfl
    · obtain ⟨s, a0, a1, a2, a3⟩ := he.at_ i x hx
      simp only [a0, a1, a2, Option.getD_some]
      exact a3.mono (Nat.le_refl _) hh

/-- What the document's Make keeps. -/
structure MK (w : World) (hi g : Nat) (k n : Int) (A : Option Addr) (c : Nat) (l : List V) (zs : List Value) (W : World) : Prop where
  q : QF w.heap.size W
  b : Cells3 W g (.int .i64 k) (.int .i64 n) (.slice A l.length c)
  row : Row W 25 3 (.slice A l.length c) l.length zs
  own : ∀ j, (Value.slice A l.length c).ownBlock = some j → w.heap.size + 1 ≤ j
  enc : Enc W hi l zs
  bl : Below w.heap.size w W
  hh : hi ≤ w.heap.size
theorem MK.below {w W W' : World} {hi g : Nat} {k n : Int} {A : Option Addr} {c : Nat} {l : List V} {zs : List Value} (h : MK w hi g k n A c l zs W) (hb : Below W.heap.size W W') : MK w hi g k n A c l zs W' :=
  ⟨h.q.below hb, h.b.below hb, h.row.keep fun j hj => hb.block j (h.row.lt j hj), h.own, h.enc.keep fun b hb' => hb.block b (by have := h.bl.size; have := h.hh; omega), h.bl.trans (hb.mono h.bl.size), h.hh⟩
theorem MK.inn {w W : World} {hi g : Nat} {k n : Int} {A : Option Addr} {c : Nat} {l : List V} {zs : List Value} (h : MK w hi g k n A c l zs W) (hk : W64 k) (hn : W64 n) : In W 0 W.heap.size (.agg #[.int .i64 k, .int .i64 n, .slice A l.length c]) (.mk k n l) :=
  In.of hk hn (h.row.ls rfl h.enc (by have := h.bl.size; have := h.hh; omega))
theorem MK.fin {w W : World} {hi g : Nat} {k n : Int} {A : Option Addr} {c : Nat} {l : List V} {zs : List Value} (h : MK w hi g k n A c l zs W) (hk : W64 k) (hn : W64 n) :
    MadeR w (.mk k n l) 0 (.returned (.tuple #[.agg #[.int .i64 k, .int .i64 n, .slice A l.length c], .int .i64 0])) (((W.setCell ⟨w.heap.size, 0, none⟩ (.int .i64 k)).setCell ⟨w.heap.size, 1, none⟩ (.int .i64 n)).setCell ⟨w.heap.size, 2, none⟩ (.slice A l.length c)) := by
  have hX : Keep (fun j => j = w.heap.size) W (((W.setCell ⟨w.heap.size, 0, none⟩ (.int .i64 k)).setCell ⟨w.heap.size, 1, none⟩ (.int .i64 n)).setCell ⟨w.heap.size, 2, none⟩ (.slice A l.length c)) := keep_set3 (F := fun j => j = w.heap.size) (Keep.refl _ W) rfl _ _ _
  have h1 := h.bl.size
  have h2 := h.hh
  have hq := h.q.h.out.lt
  refine ⟨A, c, rfl, In.of hk hn (Row.ls (h.row.keep fun j hj => ?_) rfl (h.enc.keep fun b hb => ?_) (by have := hX.size; omega)), h.bl.trans (hX.below (fun k e => by omega) h1)⟩
  · exact hX.block j (h.row.lt j hj) (by have := h.own j hj; omega)
  · exact hX.block b (by omega) (by omega)

set_option maxRecDepth 100000 in
set_option maxHeartbeats 3200000 in
theorem rMake_ok {hi : Nat} {s : Value} {l : List V} (k n : Int) (hk : W64 k) (hn : W64 n) (w : World) (h : Ls w 0 hi s l) (hh : hi ≤ w.heap.size) (hl : l.length ≤ 1000) (hT : (V.mk k n l).size ≤ 1000000000000) :
    Calls Try.prog 25 #[.int .i64 k, .int .i64 n, s] w (MadeR w (makeV (.mk k n l)).1 (makeV (.mk k n l)).2) := by
  obtain ⟨i0, hi0, hz0, hz1, hz2⟩ := info_parts valInfo
  obtain ⟨A, c, rfl, hc1, hc2⟩ := h.form
  obtain ⟨zs, henz, hz⟩ := h.enc
  have hS : ∀ W', Below w.heap.size w W' → (l.length ≠ 0 → ∃ p, A = some p ∧ ∀ j y, zs[j]? = some y → W'.cell? (p.add j) = some y) := by
    intro W' hb hne
    obtain ⟨pb, po, hp, hpb, hc⟩ := hz hne
    refine ⟨_, hp, fun j y hy => ?_⟩
    rw [Addr.add_lit]
    exact (cell_same (p := ⟨pb, po + j, none⟩) (hb.block pb (by omega))).trans (hc j y hy)
  have HS := Lib.hid hS
  have HE := Lib.hid henz
  have hone := henz.one_cell
  have hlen := henz.len
  have HO := Lib.hid hone
  have HL := Lib.hid hlen
  have hR : ∀ g A1 c1 w1, MK w hi g k n A1 c1 l zs w1 → Calls Try.prog 11 #[.agg #[.int .i64 k, .int .i64 n, .slice A1 l.length c1]] w1 fun e w' => e = .returned (.bool (rightB (.mk k n l))) ∧ Cells3 w' g (.int .i64 k) (.int .i64 n) (.slice A1 l.length c1) ∧ QF w.heap.size w' ∧ Hid (MK w hi g k n A1 c1 l zs w') := fun g A1 c1 w1 h1 =>
    (rRight_ok w1 (h1.inn hk hn) (Nat.le_refl _) hT).mono fun e w' q => ⟨q.1, h1.b.below q.2, h1.q.below q.2, Lib.hid (h1.below q.2)⟩
  have HR := Lib.hid hR
  have HH := Lib.hid hh
  unfold maxLen at hc2
  clear h hz hS henz hone hlen hR hh hT
  unfold makeV
  cases hr : rightB (.mk k n l)
  all_goals
    rw [hr] at HR
    clear hr
    go_enter Try.func25, Try.ntmps25
    go_wp2_with (first
      | (at_builtin
         refine wpList_append_src _ rfl (.tmp 11) (.tmp 12) 23 rfl 25 i0 (.agg #[.int .i64 0, .int .i64 0, .slice none 0 0]) 3 40 Try.underlying23 hi0 hz0 hz1 hz2 rfl (.slice (some ⟨w.heap.size + 1, 0, none⟩) 0 0) 0 [] rfl (Row.made_at (w.alloc _) _ (by simp) 25 3 0 #[] [] rfl (by unfold maxLen; omega) rfl) _ l.length _ zs rfl HL.out (HS.out _ (((Below.refl _ w).alloc (Nat.le_refl _) _).alloc (by simp) _)) HO.out (by unfold maxLen; omega) (by omega) ?_
         intro v1 w1 hr1 hg1 ho1
         simp only [Nat.zero_add, List.nil_append] at hr1
         obtain ⟨A1, cc1, rfl, _, _⟩ := hr1.form
         have hb1 : Below (w.heap.size + 1) (w.alloc (.cells #[.int .i64 0, .int .i64 0, .slice none 0 0] 25)) w1 := below_grown ((Below.refl _ _).alloc (by simp) _) hg1 (by simp) (own_lit (by omega))
         have hq1 := own_next ho1 (own_lit (n := w.heap.size + 1) (by omega)) (by simp)
         have hbk := (Blk.new w 25 #[.int .i64 0, .int .i64 0, .slice none 0 0]).keep (hb1.block _ (by omega))
         have hbw : Below w.heap.size w w1 := ((Below.refl _ w).alloc (Nat.le_refl _) _).trans (hb1.mono (by omega))
         have hbx := (Blk.new w1 25 #[.int .i64 k, .int .i64 n, .slice A1 l.length cc1]).cells3
         have hmk : Hid (MK w hi w1.heap.size k n A1 cc1 l zs (w1.alloc (.cells #[.int .i64 k, .int .i64 n, .slice A1 l.length cc1] 25))) := Lib.hid ⟨QF.of (hbk.alloc _), hbx, hr1.alloc _, hq1, HE.out.keep (fun b hb => (hbw.alloc hbw.size _).block b (Nat.lt_of_lt_of_le hb HH.out)), hbw.alloc hbw.size _, HH.out⟩
         have HR1 := Lib.hid hr1
         have HB1 := Lib.hid hb1
         have HB2 := Lib.hid hbw
         have HB3 := Lib.hid hbk
         clear hr1 hg1 ho1 hq1 hb1 hbw hbk hbx)
      | (go_at_call 11; refine (HR.out _ _ _ _ hmk.out).mono ?_; rintro e w2 ⟨rfl, ⟨b0, b1, b2⟩, ⟨r0, r1, r2, f0, f1, f2, hq⟩, hm2⟩))
  · obtain ⟨t0, t1, t2, HF⟩ := (QF.mk r0 r1 r2 f0 f1 f2 hq).zero hm2.out.bl (Nat.le_refl _)
    simp only [zeroV, V.k, V.n, V.l, List.length_nil] at t0 t1 t2
    exact bodyPost_ret (v := .tuple #[.agg #[.int .i64 0, .int .i64 0, .slice none 0 0], .int .i64 40]) (by simp [results, Try.results25, go_sem, t0, t1, t2]) rfl (HF 40).out
  · obtain ⟨t0, t1, t2⟩ := set3_cells r0 r1 r2 (.int .i64 k) (.int .i64 n) (.slice A1 l.length cc1)
    exact bodyPost_ret (v := .tuple #[.agg #[.int .i64 k, .int .i64 n, .slice A1 l.length cc1], .int .i64 0]) (by simp [results, Try.results25, go_sem, t0, t1, t2]) rfl (hm2.out.fin hk hn)
end Go.Proofs.Ythfmbeecpjeegaa
