/- walk, as an iterator. -/
import Derived.Test.YtmfcecfcfihgaaaWk
namespace Go.Proofs.Ytmfcecfcfihgaaa
open Go.RowKit Go.Shelf
attribute [local go_sem] Oper.semAt_some store_nilFunc store_func

/-- What walk's iterator reads: the value's blocks, and the box that holds it. -/
structure SnapW (w0 : World) (hi pb : Nat) (cs : Array Value) (pre : List (Nat × V)) (W : World) : Prop where
  bl : Below hi w0 W
  box : Blk W pb 36 cs
  few : pre.length ≤ 1000000

set_option maxRecDepth 100000 in
set_option maxHeartbeats 1600000 in
theorem walk_any (k n : Int) (s : Value) (w : World) : Calls Try.prog 84 #[.agg #[.int .i64 k, .int .i64 n, s]] w fun e w' =>
    e = .returned (.func (.func 141) #[] #[.pointer (some ⟨w.heap.size, 0, none⟩)]) ∧ w.alloc (.cells #[.int .i64 k, .int .i64 n, s] 36) = w' := by
  have hmf : ∀ (fn : Fn) (first cap : Array Value) (w : World), (Instr.makeFunc fn first cap).run Try.prog w = .ok (.func fn first cap) w := fun _ _ _ _ => rfl
  go_enter Try.func84, Try.ntmps84
  go_wp2
  go_ret
  exact ⟨rfl, rfl⟩

set_option maxRecDepth 100000 in
set_option maxHeartbeats 3200000 in
theorem walk1_seqs (T : V) (w0 : World) (hi pb : Nat) (s : Value) (hin : In w0 0 hi (.agg #[.int .i64 T.k, .int .i64 T.n, s]) T) :
    SeqsP Try.prog 141 #[.pointer (some ⟨pb, 0, none⟩)] (encW w0 hi) (V.pre 0 T) (SnapW w0 hi pb #[.int .i64 T.k, .int .i64 T.n, s]) := by
  intro n l J Jx Jp W hJ hJx hS hY h0
  refine callsIn_wide.2 ?_
  have hs := hS _ _ h0
  have c0 := hs.box.cell 0
  have c1 := hs.box.cell 1
  have c2 := hs.box.cell 2
  have clt := hs.box.lt
  obtain ⟨A, c, rfl⟩ : ∃ A c, s = .slice A T.l.length c := by
    obtain ⟨s', e, _, _, h⟩ := hin.parts
    simp only [Value.agg.injEq, Array.mk.injEq, List.cons.injEq, and_true, true_and] at e
    subst e
    obtain ⟨X, cx, h, _⟩ := h.form
    exact ⟨X, cx, h⟩
  simp at c0 c1 c2
  have hmf : ∀ (fn : Fn) (first cap : Array Value) (w : World), (Instr.makeFunc fn first cap).run Try.prog w = .ok (.func fn first cap) w := fun _ _ _ _ => rfl
  have hV : Visits (V.pre 0 T) w0 hi W.heap.size W.heap.size (W.heap.size + 1) (W.heap.size + 1 + 1) l J Jx Jp :=
    ⟨hJ, fun pre W1 h => ⟨(hS pre W1 h).bl, (hS pre W1 h).few⟩, fun pre x rest W1 xa h1 h2 h3 => yield_depth 4 (hY pre x rest W1 xa h1 h2 h3), Nat.le_refl _, by omega, by omega⟩
  obtain ⟨W3, hW3⟩ : ∃ W3, ((W.alloc (.cells #[.func (.yield l) #[] #[]] 168)).alloc (.cells #[.int .i64 0] 3)).alloc (.cells #[.func (.func 142) #[] #[.pointer (some ⟨W.heap.size, 0, none⟩), .pointer (some ⟨W.heap.size + 1, 0, none⟩), .pointer (some ⟨W.heap.size + 1 + 1, 0, none⟩)]] 169) = W3 := ⟨_, rfl⟩
  have hws : WS W3 W.heap.size (W.heap.size + 1) (W.heap.size + 1 + 1) l ([] : List (Nat × V)).length := by
    rw [← hW3]
    refine ⟨((Blk.new W _ _).alloc _).alloc _, ?_, ?_⟩
    · have := (Blk.new (W.alloc (.cells #[.func (.yield l) #[] #[]] 168)) 3 #[.int .i64 0]).alloc (.cells #[.func (.func 142) #[] #[.pointer (some ⟨W.heap.size, 0, none⟩), .pointer (some ⟨W.heap.size + 1, 0, none⟩), .pointer (some ⟨W.heap.size + 1 + 1, 0, none⟩)]] 169)
      rw [World.size_alloc] at this
      exact this
    · have := Blk.new ((W.alloc (.cells #[.func (.yield l) #[] #[]] 168)).alloc (.cells #[.int .i64 0] 3)) 169 #[.func (.func 142) #[] #[.pointer (some ⟨W.heap.size, 0, none⟩), .pointer (some ⟨W.heap.size + 1, 0, none⟩), .pointer (some ⟨W.heap.size + 1 + 1, 0, none⟩)]]
      rw [World.size_alloc, World.size_alloc] at this
      exact this
  have hJ3 : J [] W3 := by rw [← hW3]; exact hJ _ _ _ h0 ((((Keep.refl _ W).alloc _).alloc _).alloc _)
  have hcall := visit_ok hV T [] [] 0 _ W3 (by simp) (by simp) hJ3 hws hin
  rw [← hW3] at hcall
  simp only [List.nil_append] at hcall
  have hbx3 : Blk W3 pb 36 #[.int .i64 T.k, .int .i64 T.n, .slice A T.l.length c] := by rw [← hW3]; exact ((hs.box.alloc _).alloc _).alloc _
  have d0 := hbx3.cell 0
  have d1 := hbx3.cell 1
  have d2 := hbx3.cell 2
  simp at d0 d1 d2
  rw [← hW3] at d0 d1 d2
  have HW := Lib.hid hW3
  clear hbx3 c0 c1 c2
  clear hV hws hJ3 hY h0 hs hW3 hin
  show Calls Try.prog 141 #[.func (.yield l) #[] #[], .pointer (some ⟨pb, 0, none⟩)] W _
  go_enter Try.func141, Try.ntmps141
  go_wp2_with (go_at_call 142; refine hcall.mono ?_; rintro e w' (⟨rfl, hJ6, hws6, hk6⟩ | ⟨rfl, p, hp, hx6⟩ | ⟨ch, rfl, hp⟩))
  · go_end0
    exact .inl ⟨⟨_, rfl⟩, .inl hJ6⟩
  · go_end0
    exact .inl ⟨⟨_, rfl⟩, .inr ⟨p, hp, hx6⟩⟩
  · exact ⟨rfl, .inr ⟨ch, rfl, hp⟩⟩
end Go.Proofs.Ytmfcecfcfihgaaa
