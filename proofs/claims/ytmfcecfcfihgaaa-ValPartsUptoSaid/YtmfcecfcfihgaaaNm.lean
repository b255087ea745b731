/- ValMany: its values. -/
import Derived.Test.YtmfcecfcfihgaaaNe
namespace Go.Proofs.Ytmfcecfcfihgaaa
open Go.RowKit Go.Shelf
attribute [local go_sem] Oper.semAt_some

theorem V.same_refl (T : V) : V.same T T = true := by
  induction T using V.ind with
  | h k n l ih =>
    rw [V.same_parts]
    simp only [V.k, V.n, V.l, beq_self_eq_true, Bool.true_and]
    refine sameL_all rfl fun i x y hx hy => ?_
    rw [hx] at hy
    cases hy
    exact ih x (List.mem_of_getElem? hx)
def chainT : Nat → V
  | 0 => unitT
  | n + 1 => .mk 3 0 [chainT n, unitT]
theorem unit_size : unitT.size = 1 := by simp [unitT, V.size, V.pre, V.preL]
theorem chain_size (n : Nat) : (chainT n).size = 2 * n + 1 := by
  induction n with
  | zero => exact unit_size
  | succ n ih => simp only [chainT, V.size_mk, V.sizeL_cons, V.sizeL_nil, ih, unit_size]; omega
theorem chain_shapes (n : Nat) : ∀ d, ∀ p ∈ V.pre d (chainT n), shapeB p.2 = true := by
  induction n with
  | zero => intro d p hp; simp [chainT, unitT, V.pre, V.preL] at hp; subst hp; simp [shapeB, shapeOf, V.k, V.n, V.l]
  | succ n ih =>
    intro d p hp
    simp only [chainT, V.pre, V.preL, List.mem_cons, List.mem_append, List.append_nil] at hp
    rcases hp with rfl | hp | hp
    · simp [shapeB, shapeOf, V.k, V.n, V.l]
    · exact ih _ p hp
    · simp [unitT, V.pre, V.preL] at hp; subst hp; simp [shapeB, shapeOf, V.k, V.n, V.l]
theorem chain_right (n : Nat) : rightB (chainT n) = decide (2 * n + 1 ≤ 256) := by
  unfold rightB
  rw [chain_size, List.all_eq_true.2 (fun p hp => chain_shapes n 0 p hp), Bool.and_true]
def neverT : V := .mk 8 0 []
def wideT (m : Nat) : V := .mk 9 0 (List.replicate m neverT)
theorem never_size : neverT.size = 1 := by simp [neverT, V.size, V.pre, V.preL]
theorem wide_size (m : Nat) : (wideT m).size = m + 1 := by
  have : ∀ m, V.sizeL (List.replicate m neverT) = m := by
    intro m
    induction m with
    | zero => rfl
    | succ m ih => rw [List.replicate_succ, V.sizeL_cons, ih, never_size]; omega
  rw [wideT, V.size_mk, this]
  omega
theorem wide_parts (m : Nat) : ∀ d, ∀ p ∈ V.preL d (List.replicate m neverT), p.2 = neverT := by
  induction m with
  | zero => intro d p hp; simp [V.preL] at hp
  | succ m ih =>
    intro d p hp
    rw [List.replicate_succ] at hp
    simp only [V.preL, List.mem_append] at hp
    rcases hp with hp | hp
    · simp [neverT, V.pre, V.preL] at hp; subst hp; rfl
    · exact ih d p hp
theorem wide_right (m : Nat) : rightB (wideT m) = decide (m ≤ 16) := by
  have h1 : shapeB (wideT m) = decide (m ≤ 16) := by
    simp [shapeB, shapeOf, choB, wideT, neverT, evB, V.k, V.n, V.l]
  by_cases hm : m ≤ 16
  · have : rightB (wideT m) = true := by
      unfold rightB
      rw [wide_size]
      simp only [Bool.and_eq_true, decide_eq_true_eq, List.all_eq_true]
      refine ⟨by omega, fun p hp => ?_⟩
      simp only [wideT, V.pre, List.mem_cons] at hp
      rcases hp with rfl | hp
      · have := h1; simp only [hm, decide_true] at this; exact this
      · rw [wide_parts m _ p hp]; simp [shapeB, shapeOf, neverT, V.k, V.n, V.l]
    rw [this]; simp [hm]
  · have : rightB (wideT m) = false := by
      unfold rightB
      rw [Bool.and_eq_false_iff]
      refine .inr (List.all_eq_false.2 ⟨(0, wideT m), by simp [wideT, V.pre], ?_⟩)
      simp [h1, hm]
    rw [this]; simp [hm]
theorem same_self (T : V) : sameB T T = decide (T.size ≤ 256) := by
  simp [sameB, V.same_refl]
theorem same_big {T U : V} (h : ¬ U.size ≤ 256) : sameB T U = false := by
  simp [sameB, h]

/-! ### In memory, as they are made -/
theorem Ls.pairLo {W : World} {lo hi : Nat} {x y z x' y' z' : Value} {T U : V} (hlo : lo ≤ W.heap.size) (hh : hi ≤ W.heap.size) (t : TypeId) (h : In W lo hi (.agg #[x, y, z]) T) (h' : In W lo hi (.agg #[x', y', z']) U) :
    Ls (W.alloc (.cells #[x, y, z, x', y', z'] t)) lo (W.heap.size + 1) (.slice (some ⟨W.heap.size, 0, none⟩) 2 2) [T, U] := by
  have hb := Blk.new W t #[x, y, z, x', y', z']
  have hk : ∀ b, lo ≤ b → b < hi → (W.alloc (.cells #[x, y, z, x', y', z'] t)).heap[b]? = W.heap[b]? := fun b _ hb => Below.heap_alloc W _ b (Nat.lt_of_lt_of_le hb hh)
  refine ⟨_, 2, W.heap.size, 0, fun i => if i = 0 then .agg #[x, y, z] else .agg #[x', y', z'], rfl, Nat.le_refl _, by simp [maxLen], fun _ => ⟨rfl, hlo, by omega⟩, fun i hi' => ?_, fun i u hu => ?_⟩
  · match i, hi' with
    | 0, _ => exact ⟨x, y, z, rfl, hb.cell 0, hb.cell 1, hb.cell 2⟩
    | 1, _ => exact ⟨x', y', z', rfl, hb.cell 3, hb.cell 4, hb.cell 5⟩
  · match i, hu with
    | 0, hu => simp at hu; subst hu; exact (h.keep hk).mono (Nat.le_refl _) (by omega)
    | 1, hu => simp at hu; subst hu; exact (h'.keep hk).mono (Nat.le_refl _) (by omega)

theorem chain0_in (W : World) (lo hi : Nat) : In W lo hi (.agg #[.int .i64 1, .int .i64 0, .slice none 0 0]) (chainT 0) := leaf_in W lo hi 1 0 (by unfold W64; omega) w64_zero
/-- The first value, as far as it is made. -/
structure CH (w : World) (g i : Nat) (S : Option Addr) (c : Nat) (W : World) : Prop where
  b : Blk W g 36 #[.int .i64 (chainT i).k, .int .i64 (chainT i).n, .slice S (chainT i).l.length c]
  v : In W (g + 1) W.heap.size (.agg #[.int .i64 (chainT i).k, .int .i64 (chainT i).n, .slice S (chainT i).l.length c]) (chainT i)
  bl : Below w.heap.size w W
  ge : w.heap.size ≤ g
theorem CH.next {w W : World} {g i c : Nat} {S : Option Addr} (h : CH w g i S c W) : CH w g (i + 1) (some ⟨W.heap.size, 0, none⟩) 2
    ((((W.setCell ⟨g, 0, none⟩ (.int .i64 3)).setCell ⟨g, 1, none⟩ (.int .i64 0)).setCell ⟨g, 2, none⟩ (.slice (some ⟨W.heap.size, 0, none⟩) 2 2)).alloc
      (.cells #[.int .i64 (chainT i).k, .int .i64 (chainT i).n, .slice S (chainT i).l.length c, .int .i64 1, .int .i64 0, .slice none 0 0] 36)) := by
  have hk : Keep (fun j => j = g) W (((W.setCell ⟨g, 0, none⟩ (.int .i64 3)).setCell ⟨g, 1, none⟩ (.int .i64 0)).setCell ⟨g, 2, none⟩ (.slice (some ⟨W.heap.size, 0, none⟩) 2 2)) := keep_set3 (F := fun j => j = g) (Keep.refl _ _) (show g = g from rfl) _ _ _
  have hz : (((W.setCell ⟨g, 0, none⟩ (.int .i64 3)).setCell ⟨g, 1, none⟩ (.int .i64 0)).setCell ⟨g, 2, none⟩ (.slice (some ⟨W.heap.size, 0, none⟩) 2 2)).heap.size = W.heap.size := by simp
  have hb : Blk (((W.setCell ⟨g, 0, none⟩ (.int .i64 3)).setCell ⟨g, 1, none⟩ (.int .i64 0)).setCell ⟨g, 2, none⟩ (.slice (some ⟨W.heap.size, 0, none⟩) 2 2)) g 36 #[.int .i64 3, .int .i64 0, .slice (some ⟨W.heap.size, 0, none⟩) 2 2] := by
    have := ((h.b.set 0 (.int .i64 3)).set 1 (.int .i64 0)).set 2 (.slice (some ⟨W.heap.size, 0, none⟩) 2 2)
    simpa using this
  have hlt := h.b.lt
  have hge := h.ge
  have hbl : Below w.heap.size w (((W.setCell ⟨g, 0, none⟩ (.int .i64 3)).setCell ⟨g, 1, none⟩ (.int .i64 0)).setCell ⟨g, 2, none⟩ (.slice (some ⟨W.heap.size, 0, none⟩) 2 2)) := h.bl.trans (hk.below (fun k e => by subst e; exact hge) h.bl.size)
  have hv := h.v.keep (W' := ((W.setCell ⟨g, 0, none⟩ (.int .i64 3)).setCell ⟨g, 1, none⟩ (.int .i64 0)).setCell ⟨g, 2, none⟩ (.slice (some ⟨W.heap.size, 0, none⟩) 2 2)) (fun b h1 h2 => hk.block b h2 (by omega))
  have hls := Ls.pairLo (lo := g + 1) (hi := W.heap.size) (by omega) (by omega) 36 hv (leaf_in _ (g + 1) W.heap.size 1 0 (by unfold W64; omega) w64_zero)
  rw [hz] at hls
  have hin := In.of (k := 3) (n := 0) (by unfold W64; omega) w64_zero hls
  exact ⟨hb.alloc _, by rw [World.size_alloc, hz]; exact hin, hbl.alloc hbl.size _, hge⟩

/-- The second value, as far as it is made. -/
structure WH (w : World) (g a : Nat) (S : Option Addr) (c h b j : Nat) (W : World) : Prop where
  cb : Blk W g 36 #[.int .i64 (chainT a).k, .int .i64 (chainT a).n, .slice S (chainT a).l.length c]
  cv : In W 0 h (.agg #[.int .i64 (chainT a).k, .int .i64 (chainT a).n, .slice S (chainT a).l.length c]) (chainT a)
  lt : g < h
  bx : Blk W (h + 1) 36 #[.int .i64 9, .int .i64 0, .slice (some ⟨h, 0, none⟩) b b]
  row : ∃ cs, Blk W h 36 cs ∧ cs.size = b * 3 ∧ ∀ i, i < j → cs[i * 3]? = some (.int .i64 8) ∧ cs[i * 3 + 1]? = some (.int .i64 0) ∧ cs[i * 3 + 2]? = some (.slice none 0 0)
  bl : Below w.heap.size w W
  ge : w.heap.size ≤ g
theorem WH.start {w W : World} {g a c b : Nat} {S : Option Addr} (h : CH w g a S c W) : WH w g a S c W.heap.size b 0
    ((W.alloc (.cells (madeCells #[.int .i64 0, .int .i64 0, .slice none 0 0] (b * 3)) 36)).alloc (.cells #[.int .i64 9, .int .i64 0, .slice (some ⟨W.heap.size, 0, none⟩) b b] 36)) := by
  have hb := below2 W (.cells (madeCells #[.int .i64 0, .int .i64 0, .slice none 0 0] (b * 3)) 36) (.cells #[.int .i64 9, .int .i64 0, .slice (some ⟨W.heap.size, 0, none⟩) b b] 36)
  refine ⟨(h.b.alloc _).alloc _, (h.v.after hb).mono (Nat.zero_le _) (Nat.le_refl _), h.b.lt, ?_, ⟨_, (Blk.new W _ _).alloc _, by rw [size_madeCells], fun i hi => by omega⟩, h.bl.trans (hb.mono h.bl.size), h.ge⟩
  have := Blk.new (W.alloc (.cells (madeCells #[.int .i64 0, .int .i64 0, .slice none 0 0] (b * 3)) 36)) 36 #[.int .i64 9, .int .i64 0, .slice (some ⟨W.heap.size, 0, none⟩) b b]
  rwa [World.size_alloc] at this
theorem WH.next {w W : World} {g a c h b j : Nat} {S : Option Addr} (H : WH w g a S c h b j W) (hj : j < b) : WH w g a S c h b (j + 1) (((W.setCell ⟨h, j * 3, none⟩ (.int .i64 8)).setCell ⟨h, j * 3 + 1, none⟩ (.int .i64 0)).setCell ⟨h, j * 3 + 2, none⟩ (.slice none 0 0)) := by
  obtain ⟨cs, hb, hs, hr⟩ := H.row
  have hge := H.ge
  have hlt := H.lt
  have hk : Keep (fun j => j = h) W (((W.setCell ⟨h, j * 3, none⟩ (.int .i64 8)).setCell ⟨h, j * 3 + 1, none⟩ (.int .i64 0)).setCell ⟨h, j * 3 + 2, none⟩ (.slice none 0 0)) :=
    by
    have k0 : Keep (fun j => j = h) W W := Keep.refl _ _
    exact ((k0.setCell (p := ⟨h, j * 3, none⟩) (.inl (show h = h from rfl)) _).setCell (p := ⟨h, j * 3 + 1, none⟩) (.inl (show h = h from rfl)) _).setCell (p := ⟨h, j * 3 + 2, none⟩) (.inl (show h = h from rfl)) _
  have hbl : Below w.heap.size w (((W.setCell ⟨h, j * 3, none⟩ (.int .i64 8)).setCell ⟨h, j * 3 + 1, none⟩ (.int .i64 0)).setCell ⟨h, j * 3 + 2, none⟩ (.slice none 0 0)) := H.bl.trans (hk.below (fun k e => by subst e; omega) H.bl.size)
  refine ⟨H.cb.keep (hk.block _ H.cb.lt (by omega)), H.cv.keep (fun i h1 h2 => hk.block i (Nat.lt_trans h2 hb.lt) (by omega)), hlt, H.bx.keep (hk.block _ H.bx.lt (by omega)), ⟨_, ((hb.set (j * 3) (.int .i64 8)).set (j * 3 + 1) (.int .i64 0)).set (j * 3 + 2) (.slice none 0 0), by simpa using hs, fun i hi => ?_⟩, hbl, hge⟩
  rcases Nat.lt_or_eq_of_le (Nat.le_of_lt_succ hi) with h1 | h1
  · obtain ⟨r1, r2, r3⟩ := hr i h1
    exact ⟨by rw [Array.getElem?_setIfInBounds_ne (by omega), Array.getElem?_setIfInBounds_ne (by omega), Array.getElem?_setIfInBounds_ne (by omega)]; exact r1, by rw [Array.getElem?_setIfInBounds_ne (by omega), Array.getElem?_setIfInBounds_ne (by omega), Array.getElem?_setIfInBounds_ne (by omega)]; exact r2, by rw [Array.getElem?_setIfInBounds_ne (by omega), Array.getElem?_setIfInBounds_ne (by omega), Array.getElem?_setIfInBounds_ne (by omega)]; exact r3⟩
  · subst h1
    have e1 : i * 3 < cs.size := by omega
    have e2 : i * 3 + 1 < cs.size := by omega
    have e3 : i * 3 + 2 < cs.size := by omega
    refine ⟨?_, ?_, ?_⟩ <;> simp [e1, e2, e3]
theorem WH.done {w W : World} {g a c h b : Nat} {S : Option Addr} (H : WH w g a S c h b b W) (hb : b ≤ maxLen) : St w W [(h + 1, wideT b, some ⟨h, 0, none⟩, b), (g, chainT a, S, c)] := by
  obtain ⟨cs, hc, hs, hr⟩ := H.row
  have hlt := H.bx.lt
  have hlen : (wideT b).l.length = b := by simp [wideT, V.l]
  have hls : Ls W 0 (h + 1) (.slice (some ⟨h, 0, none⟩) b b) (List.replicate b neverT) := by
    refine ⟨some ⟨h, 0, none⟩, b, h, 0, fun _ => .agg #[.int .i64 8, .int .i64 0, .slice none 0 0], by simp, by simp, hb, fun _ => ⟨rfl, Nat.zero_le _, by omega⟩, fun i hi => ?_, fun i x hx => ?_⟩
    · rw [List.length_replicate] at hi
      obtain ⟨r1, r2, r3⟩ := hr i hi
      rw [Nat.zero_add]
      exact ⟨_, _, _, rfl, (hc.cell _).trans r1, (hc.cell _).trans r2, (hc.cell _).trans r3⟩
    · have := (List.getElem?_eq_some_iff.1 hx).2
      simp at this
      subst this
      exact leaf_in _ _ _ _ _ (by unfold W64; omega) w64_zero
  have hbx := H.bx.cells3
  have hin : In W 0 (h + 1) (.agg #[.int .i64 9, .int .i64 0, .slice (some ⟨h, 0, none⟩) b b]) (wideT b) := In.of (by unfold W64; omega) w64_zero hls
  refine ⟨H.bl, ⟨?_, ?_⟩, ⟨H.cb.cells3, H.cv.mono (Nat.le_refl _) (by omega)⟩, trivial⟩
  · rw [hlen]; exact hbx
  · rw [hlen]; exact hin.mono (Nat.le_refl _) (by omega)
end Go.Proofs.Ytmfcecfcfihgaaa
