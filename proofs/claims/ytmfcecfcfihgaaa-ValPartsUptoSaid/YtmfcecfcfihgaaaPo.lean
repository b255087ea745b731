/- ValParts' state. -/
import Derived.Test.YtmfcecfcfihgaaaEr
import Derived.Test.YtmfcecfcfihgaaaPy
import Derived.Test.YtmfcecfcfihgaaaNf
namespace Go.Proofs.Ytmfcecfcfihgaaa
open Go.RowKit Go.Shelf
attribute [local go_sem] Oper.semAt_some

/-- The boxes of the value, of the number and of the result. -/
structure P3 (w : World) (T : V) (A : Option Addr) (c : Nat) (many : Int) (W : World) : Prop where
  b0 : Blk W w.heap.size 36 #[.int .i64 T.k, .int .i64 T.n, .slice A T.l.length c]
  b1 : Blk W (w.heap.size + 1) 3 #[.int .i64 many]
  b2 : Blk W (w.heap.size + 1 + 1) 4 #[.bool false]
  bl : Below w.heap.size w W
section
variable {w W W' : World} {T : V} {A : Option Addr} {c : Nat} {many : Int}
theorem P3.new (w : World) (T : V) (A : Option Addr) (c : Nat) (many : Int) :
    P3 w T A c many (((w.alloc (.cells #[.int .i64 T.k, .int .i64 T.n, .slice A T.l.length c] 36)).alloc (.cells #[.int .i64 many] 3)).alloc (.cells #[.bool false] 4)) := by
  have h1 := Blk.new (w.alloc (.cells #[.int .i64 T.k, .int .i64 T.n, .slice A T.l.length c] 36)) 3 #[.int .i64 many]
  have h2 := Blk.new ((w.alloc (.cells #[.int .i64 T.k, .int .i64 T.n, .slice A T.l.length c] 36)).alloc (.cells #[.int .i64 many] 3)) 4 #[.bool false]
  rw [World.size_alloc] at h1 h2
  rw [World.size_alloc] at h2
  exact ⟨((Blk.new w _ _).alloc _).alloc _, h1.alloc _, h2, below3 w _ _ _⟩
theorem P3.below (h : P3 w T A c many W) (hb : Below W.heap.size W W') : P3 w T A c many W' :=
  ⟨h.b0.keep (hb.block _ h.b0.lt), h.b1.keep (hb.block _ h.b1.lt), h.b2.keep (hb.block _ h.b2.lt), h.bl.trans (hb.mono h.bl.size)⟩
theorem P3.keep {F : Nat → Prop} (h : P3 w T A c many W) (hk : Keep F W W') (hF : ∀ k, F k → w.heap.size + 1 + 1 < k) : P3 w T A c many W' :=
  ⟨h.b0.keep (hk.block _ h.b0.lt (fun f => by have := hF _ f; omega)), h.b1.keep (hk.block _ h.b1.lt (fun f => by have := hF _ f; omega)), h.b2.keep (hk.block _ h.b2.lt (fun f => by have := hF _ f; omega)),
    h.bl.trans (hk.below (fun k f => by have := hF _ f; omega) h.bl.size)⟩
theorem P3.cells (h : P3 w T A c many W) : (W.cell? ⟨w.heap.size, 0, none⟩ = some (.int .i64 T.k) ∧ W.cell? ⟨w.heap.size, 1, none⟩ = some (.int .i64 T.n) ∧ W.cell? ⟨w.heap.size, 2, none⟩ = some (.slice A T.l.length c)) ∧
    W.cell? ⟨w.heap.size + 1, 0, none⟩ = some (.int .i64 many) ∧ W.cell? ⟨w.heap.size + 1 + 1, 0, none⟩ = some (.bool false) ∧ W.frozen? ⟨w.heap.size + 1 + 1, 0, none⟩ = false :=
  ⟨h.b0.cells3, (h.b1.cell 0).trans rfl, (h.b2.cell 0).trans rfl, h.b2.frozen _⟩
theorem P3.fin (h : P3 w T A c many W) : (W.setCell ⟨w.heap.size + 1 + 1, 0, none⟩ (.bool true)).cell? ⟨w.heap.size + 1 + 1, 0, none⟩ = some (.bool true) ∧ Hid (Below w.heap.size w (W.setCell ⟨w.heap.size + 1 + 1, 0, none⟩ (.bool true))) :=
  ⟨World.cell?_setCell_same _ _ _ ((h.b2.cell 0).trans rfl), Lib.hid (h.bl.setCell (by show w.heap.size ≤ w.heap.size + 1 + 1; omega) _)⟩
theorem P3.size_ (h : Hid (P3 w T A c many W)) (hin : In w 0 w.heap.size (.agg #[.int .i64 T.k, .int .i64 T.n, .slice A T.l.length c]) T) (hT : T.size ≤ 1000000000000) :
    Calls Try.prog 19 #[.agg #[.int .i64 T.k, .int .i64 T.n, .slice A T.l.length c]] W fun e w' => e = .returned (.int .i64 (T.sz : Int)) ∧ Hid (P3 w T A c many w') :=
  (rSize_ok W (hin.after h.out.bl) h.out.bl.size hT).mono fun _ _ q => ⟨q.1, Lib.hid (h.out.below q.2)⟩
theorem P3.works_ (h : Hid (P3 w T A c many W)) : Calls Try.prog 20 #[] W fun e w' => e = .returned (.bool true) ∧ Hid (P3 w T A c many w') :=
  (works_ok W).mono fun _ _ q => ⟨q.1, Lib.hid (h.out.below q.2)⟩
theorem P3.want_ (h : Hid (P3 w T A c many W)) (hin : In w 0 w.heap.size (.agg #[.int .i64 T.k, .int .i64 T.n, .slice A T.l.length c]) T) (hT : T.size ≤ 256) :
    Calls Try.prog 21 #[.agg #[.int .i64 T.k, .int .i64 T.n, .slice A T.l.length c]] W fun e w' => ∃ S d, e = .returned (.slice S (wantOf T).length d) ∧ Hid (P3 w T A c many w' ∧ PartsL W w.heap.size (wantOf T) (.slice S (wantOf T).length d) w') :=
  (rParts_ok W (hin.after h.out.bl) h.out.bl.size hT).mono fun e w' q => by
    obtain ⟨s, rfl, hp⟩ := q
    obtain ⟨xs, hr, he⟩ := hp.ex
    obtain ⟨S, d, rfl, _, _⟩ := hr.form
    exact ⟨S, d, rfl, Lib.hid ⟨h.out.below hp.bl, hp⟩⟩
end

/-- What the loop that empties the copy's row keeps. -/
structure ZI (P : World) (g o j : Nat) (W : World) : Prop where
  blk : ∃ cs, Blk W g 36 cs
  hi : ∀ p, o + j * 3 ≤ p → W.cell? ⟨g, p, none⟩ = P.cell? ⟨g, p, none⟩
  kp : Keep (fun k => k = g) P W
theorem ZI.next {P W : World} {g o j : Nat} (h : ZI P g o j W) :
    ZI P g o (j + 1) (((W.setCell ⟨g, o + j * 3, none⟩ (.int .i64 0)).setCell ⟨g, o + j * 3 + 1, none⟩ (.int .i64 0)).setCell ⟨g, o + j * 3 + 2, none⟩ (.slice none 0 0)) := by
  obtain ⟨cs, hb⟩ := h.blk
  refine ⟨⟨_, ((hb.set _ _).set _ _).set _ _⟩, fun p hp => ?_, ((h.kp.setCell (.inl rfl) _).setCell (.inl rfl) _).setCell (.inl rfl) _⟩
  rw [World.cell?_setCell_other _ _ _ _ (by simp <;> omega), World.cell?_setCell_other _ _ _ _ (by simp <;> omega), World.cell?_setCell_other _ _ _ _ (by simp <;> omega)]
  exact h.hi p (by omega)
end Go.Proofs.Ytmfcecfcfihgaaa
