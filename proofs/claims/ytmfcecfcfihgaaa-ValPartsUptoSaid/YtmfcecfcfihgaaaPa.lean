/- A value that lies in one block, between two bounds. -/
import Derived.Test.YtmfcecfcfihgaaaWy
namespace Go.Proofs.Ytmfcecfcfihgaaa
open Go.RowKit Go.Shelf

inductive InG (W : World) (g a b : Nat) : Value → V → Prop
  | mk (k n : Int) (l : List V) (A : Option Addr) (c o : Nat) (f : Nat → Value) (hk : W64 k) (hn : W64 n) (h1 : l.length ≤ c) (h2 : c ≤ maxLen)
      (hA : l ≠ [] → A = some ⟨g, o, none⟩ ∧ a ≤ o ∧ o + l.length * 3 ≤ b) (hc : ∀ i, i < l.length → Three W g (o + i * 3) (f i)) (hR : ∀ i x, l[i]? = some x → InG W g a b (f i) x) :
      InG W g a b (.agg #[.int .i64 k, .int .i64 n, .slice A l.length c]) (.mk k n l)

section
variable {W W' : World} {g a b a' b' : Nat} {v : Value} {T : V}
theorem InG.mono (h : InG W g a b v T) (ha : a' ≤ a) (hb : b ≤ b') : InG W g a' b' v T := by
  induction h with
  | mk k n l A c o f hk hn h1 h2 hA hc hR ih =>
    exact .mk k n l A c o f hk hn h1 h2 (fun hne => ⟨(hA hne).1, Nat.le_trans ha (hA hne).2.1, Nat.le_trans (hA hne).2.2 hb⟩) hc ih
theorem Three.cells {o : Nat} (h : Three W g o v) (h0 : W'.cell? ⟨g, o, none⟩ = W.cell? ⟨g, o, none⟩) (h1 : W'.cell? ⟨g, o + 1, none⟩ = W.cell? ⟨g, o + 1, none⟩) (h2 : W'.cell? ⟨g, o + 2, none⟩ = W.cell? ⟨g, o + 2, none⟩) : Three W' g o v := by
  obtain ⟨x, y, z, rfl, e1, e2, e3⟩ := h
  exact ⟨x, y, z, rfl, h0.trans e1, h1.trans e2, h2.trans e3⟩
theorem InG.keep (h : InG W g a b v T) (hk : ∀ i, a ≤ i → i < b → W'.cell? ⟨g, i, none⟩ = W.cell? ⟨g, i, none⟩) : InG W' g a b v T := by
  induction h with
  | mk k n l A c o f hk' hn h1 h2 hA hc hR ih =>
    refine .mk k n l A c o f hk' hn h1 h2 hA (fun i hi => ?_) ih
    have hne : l ≠ [] := by rintro rfl; simp at hi
    obtain ⟨_, h3, h4⟩ := hA hne
    have : i * 3 + 3 ≤ l.length * 3 := by omega
    exact (hc i hi).cells (hk _ (by omega) (by omega)) (hk _ (by omega) (by omega)) (hk _ (by omega) (by omega))
theorem InG.in_ (h : InG W g a b v T) : In W g (g + 1) v T := by
  induction h with
  | mk k n l A c o f hk' hn h1 h2 hA hc hR ih =>
    exact .mk k n l A c g o f hk' hn h1 h2 (fun hne => ⟨(hA hne).1, Nat.le_refl _, Nat.lt_succ_self _⟩) hc ih
theorem InG.form (h : InG W g a b v T) : ∃ S c, v = .agg #[.int .i64 T.k, .int .i64 T.n, .slice S T.l.length c] := by
  cases h with
  | mk k n l A c o f hk' hn h1 h2 hA hc hR => exact ⟨A, c, rfl⟩
theorem InG.leaf {k n : Int} (hk : W64 k) (hn : W64 n) : InG W g a b (.agg #[.int .i64 k, .int .i64 n, .slice none 0 0]) (.mk k n []) :=
  .mk k n [] none 0 0 (fun _ => undef) hk hn (Nat.le_refl _) (by simp [maxLen]) (by simp) (by simp) (by simp)
end

/-- How many values lie beneath the first j. -/
def sub (l : List V) (j : Nat) : Nat := V.sizeL (l.take j) - j
theorem len_le_take (l : List V) (j : Nat) (hj : j ≤ l.length) : j ≤ V.sizeL (l.take j) := by
  have := V.len_le_sizeL (l.take j)
  rw [List.length_take] at this
  omega
theorem sub_succ {l : List V} {j : Nat} {x : V} (hx : l[j]? = some x) : sub l (j + 1) = sub l j + V.sizeL x.l := by
  obtain ⟨hlt, hge⟩ := List.getElem?_eq_some_iff.1 hx
  have e : l.take (j + 1) = l.take j ++ [x] := by rw [List.take_succ_eq_append_getElem hlt, hge]
  unfold sub
  rw [e, V.sizeL_append, V.sizeL_cons, V.sizeL_nil]
  have h1 := len_le_take l j (by omega)
  have h2 : x.size = 1 + V.sizeL x.l := by cases x; exact V.size_mk _ _ _
  omega
theorem sub_all (l : List V) : l.length + sub l l.length = V.sizeL l := by
  unfold sub
  rw [List.take_length]
  have := V.len_le_sizeL l
  omega
theorem sub_zero (l : List V) : sub l 0 = 0 := by simp [sub, V.sizeL_nil]
theorem sub_le {l : List V} {j : Nat} (hj : j ≤ l.length) : l.length + sub l j ≤ V.sizeL l := by
  have h := sub_all l
  have : sub l j ≤ sub l l.length := by
    unfold sub
    have e : V.sizeL l = V.sizeL (l.take j) + V.sizeL (l.drop j) := by rw [← V.sizeL_append, List.take_append_drop]
    have h1 := V.len_le_sizeL (l.drop j)
    rw [List.length_drop] at h1
    have h2 := len_le_take l j hj
    rw [List.take_length]
    omega
  omega
end Go.Proofs.Ytmfcecfcfihgaaa
