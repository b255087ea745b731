/- Two copies that are put into boxes, whenever the boxes are made. -/
import Derived.Test.YthfmbeecpjeegaaNm
namespace Go.Proofs.Ythfmbeecpjeegaa
open Go.RowKit Go.Shelf
attribute [local go_sem] Oper.semAt_some

abbrev zBox : Obj := .cells #[.int .i64 0, .int .i64 0, .slice none 0 0] 25
def vOf (T : V) (S : Option Addr) (c : Nat) : Value := .agg #[.int .i64 T.k, .int .i64 T.n, .slice S T.l.length c]
/-- Values that lie in memory, and boxes that are empty so far. -/
structure Two (w : World) (g : Nat) (L : List Box) (P : List Nat) (vs : List (Nat × Nat × V × Option Addr × Nat)) (W : World) : Prop where
  bl : Below w.heap.size w W
  bx : BoxesU W g L
  wg : w.heap.size ≤ g
  gW : g ≤ W.heap.size
  pend : ∀ p ∈ P, g ≤ p ∧ Blk W p 25 #[.int .i64 0, .int .i64 0, .slice none 0 0]
  vals : ∀ e ∈ vs, In W e.1 e.2.1 (vOf e.2.2.1 e.2.2.2.1 e.2.2.2.2) e.2.2.1 ∧ g ≤ e.1 ∧ e.2.1 ≤ W.heap.size ∧ ∀ p ∈ P, p < e.1 ∨ e.2.1 ≤ p
theorem Two.of {w W : World} {L : List Box} (h : St w W L) : Two w W.heap.size L [] [] W := ⟨h.1, h.2.toU, h.1.size, Nat.le_refl _, by simp, by simp⟩
theorem Two.below {w W W' : World} {g : Nat} {L : List Box} {P : List Nat} {vs : List (Nat × Nat × V × Option Addr × Nat)} (h : Two w g L P vs W) (hb : Below W.heap.size W W') : Two w g L P vs W' :=
  ⟨h.bl.trans (hb.mono h.bl.size), h.bx.keep fun i hi => hb.block i (Nat.lt_of_lt_of_le hi h.gW), h.wg, Nat.le_trans h.gW hb.size, fun p hp => ⟨(h.pend p hp).1, (h.pend p hp).2.keep (hb.block _ (h.pend p hp).2.lt)⟩,
    fun e he => ⟨(h.vals e he).1.keep fun b _ h2 => hb.block b (Nat.lt_of_lt_of_le h2 (h.vals e he).2.2.1), (h.vals e he).2.1, Nat.le_trans (h.vals e he).2.2.1 hb.size, (h.vals e he).2.2.2⟩⟩
theorem Two.drew {w W : World} {g : Nat} {L : List Box} {P : List Nat} {vs : List (Nat × Nat × V × Option Addr × Nat)} (h : Two w g L P vs W) : Two w g L P vs W.drew := h.below (Below.refl _ W).drew
theorem Two.alloc {w W : World} {g : Nat} {L : List Box} {P : List Nat} {vs : List (Nat × Nat × V × Option Addr × Nat)} (h : Two w g L P vs W) : Two w g L (W.heap.size :: P) vs (W.alloc zBox) := by
  have h2 := h.below ((Below.refl _ W).alloc (Nat.le_refl _) zBox)
  refine ⟨h2.bl, h2.bx, h2.wg, h2.gW, fun p hp => ?_, fun e he => ⟨(h2.vals e he).1, (h2.vals e he).2.1, (h2.vals e he).2.2.1, fun p hp => ?_⟩⟩
  · rcases List.mem_cons.1 hp with rfl | hp
    · exact ⟨h.gW, Blk.new W _ _⟩
    · exact h2.pend p hp
  · rcases List.mem_cons.1 hp with rfl | hp
    · exact .inr (h.vals e he).2.2.1
    · exact (h2.vals e he).2.2.2 p hp
theorem Two.st {w W : World} {g : Nat} {L : List Box} {P : List Nat} {vs : List (Nat × Nat × V × Option Addr × Nat)} (h : Two w g L P vs W) : St w W L := ⟨h.bl, h.bx.toV h.gW⟩

def copyT (T : V) : V := if T.size ≤ 256 then T else zeroV
theorem use_CopyT {w W : World} {g b : Nat} {L : List Box} {P : List Nat} {vs : List (Nat × Nat × V × Option Addr × Nat)} {T : V} {S : Option Addr} {c : Nat} (h : Hid (Two w g L P vs W)) (hm : BoxV W b T S c) :
    Calls Try.prog 19 #[.agg #[.int .i64 T.k, .int .i64 T.n, .slice S T.l.length c]] W fun e w' => ∃ S' c' a z, e = .returned (.agg #[.int .i64 (copyT T).k, .int .i64 (copyT T).n, .slice S' (copyT T).l.length c']) ∧ Hid (Two w g L P ((a, z, copyT T, S', c') :: vs) w') := by
  have key : ∀ (e : Ending) (w' : World) (v' : Value), e = .returned v' → In w' W.heap.size w'.heap.size v' (copyT T) → Below W.heap.size W w' →
      ∃ S' c' a z, e = .returned (.agg #[.int .i64 (copyT T).k, .int .i64 (copyT T).n, .slice S' (copyT T).l.length c']) ∧ Hid (Two w g L P ((a, z, copyT T, S', c') :: vs) w') := by
    rintro e w' v' rfl hi hb
    obtain ⟨s, rfl, _, _, hl⟩ := hi.parts
    obtain ⟨A, c', rfl, _, _⟩ := hl.form
    have h2 := h.out.below hb
    refine ⟨A, c', W.heap.size, w'.heap.size, rfl, Lib.hid ⟨h2.bl, h2.bx, h2.wg, h2.gW, h2.pend, fun e he => ?_⟩⟩
    rcases List.mem_cons.1 he with rfl | he
    · exact ⟨hi, h.out.gW, Nat.le_refl _, fun p hp => .inl (h.out.pend p hp).2.lt⟩
    · exact h2.vals e he
  by_cases hs : T.size ≤ 256
  · have e1 : copyT T = T := by simp [copyT, hs]
    refine (Copy_ok W hm.2 (Nat.le_refl _) hs).mono ?_
    rintro e w' ⟨v', he, hi, hb⟩
    exact key e w' v' he (by rw [e1]; exact hi) hb
  · have e1 : copyT T = zeroV := by simp [copyT, hs]
    refine (Copy_big W hm.2 (Nat.le_refl _) hs).mono ?_
    rintro e w' ⟨he, hb⟩
    exact key e w' _ he (by rw [e1]; exact zero_in _ _ _) hb

section
variable {w W X : World} {g a1 z1 a2 z2 c1 c2 p q : Nat} {L : List Box} {P : List Nat} {T1 T2 : V} {S1 S2 : Option Addr}
theorem Two.fin (h : Two w g L P [(a2, z2, T2, S2, c2), (a1, z1, T1, S1, c1)] W) (hk : Keep (fun j => j = p ∨ j = q) W X) (hp : Blk X p 25 #[.int .i64 T1.k, .int .i64 T1.n, .slice S1 T1.l.length c1]) (hq : Blk X q 25 #[.int .i64 T2.k, .int .i64 T2.n, .slice S2 T2.l.length c2])
    (dp : p ∈ P ∨ W.heap.size ≤ p) (dq : q ∈ P ∨ W.heap.size ≤ q) : St w X ((q, T2, S2, c2) :: (p, T1, S1, c1) :: L) := by
  have gp : ∀ r, r ∈ P ∨ W.heap.size ≤ r → g ≤ r := fun r hr => hr.elim (fun h1 => (h.pend r h1).1) (fun h1 => Nat.le_trans h.gW h1)
  have hbl : Below w.heap.size w X := h.bl.trans (hk.below (fun k e => by have := h.wg; rcases e with rfl | rfl; exact Nat.le_trans this (gp _ dp); exact Nat.le_trans this (gp _ dq)) h.bl.size)
  have far : ∀ e ∈ [(a2, z2, T2, S2, c2), (a1, z1, T1, S1, c1)], ∀ r, r ∈ P ∨ W.heap.size ≤ r → r < e.1 ∨ e.2.1 ≤ r := fun e he r hr => hr.elim (fun h1 => (h.vals e he).2.2.2 r h1) (fun h1 => .inr (Nat.le_trans (h.vals e he).2.2.1 h1))
  have hin : ∀ e ∈ [(a2, z2, T2, S2, c2), (a1, z1, T1, S1, c1)], In X 0 X.heap.size (vOf e.2.2.1 e.2.2.2.1 e.2.2.2.2) e.2.2.1 := fun e he =>
    ((h.vals e he).1.keep fun b h1 h2 => hk.block b (Nat.lt_of_lt_of_le h2 (h.vals e he).2.2.1) (by
      rintro (rfl | rfl)
      · rcases far e he _ dp with h3 | h3 <;> omega
      · rcases far e he _ dq with h3 | h3 <;> omega)).mono (Nat.zero_le _) (Nat.le_trans (h.vals e he).2.2.1 hk.size)
  have i2 := hin (a2, z2, T2, S2, c2) (by simp)
  have i1 := hin (a1, z1, T1, S1, c1) (by simp)
  refine ⟨hbl, ⟨hq.cells3, i2⟩, ⟨hp.cells3, i1⟩, (h.bx.keep fun i hi => hk.block i (Nat.lt_of_lt_of_le hi h.gW) ?_).toV (Nat.le_trans h.gW hk.size)⟩
  rintro (rfl | rfl)
  · exact absurd (gp _ dp) (by omega)
  · exact absurd (gp _ dq) (by omega)
def PendF (W : World) (p : Nat) : Prop := W.cell? ⟨p, 0, none⟩ = some (.int .i64 0) ∧ W.cell? ⟨p, 1, none⟩ = some (.int .i64 0) ∧ W.cell? ⟨p, 2, none⟩ = some (.slice none 0 0) ∧ W.frozen? ⟨p, 0, none⟩ = false ∧ W.frozen? ⟨p, 1, none⟩ = false ∧ W.frozen? ⟨p, 2, none⟩ = false ∧ p < W.heap.size
theorem Two.first {vs : List (Nat × Nat × V × Option Addr × Nat)} (h : Two w g L (p :: P) vs W) : PendF W p := by
  have := (h.pend p (by simp)).2
  exact ⟨this.cells3.1, this.cells3.2.1, this.cells3.2.2, this.frozen _, this.frozen _, this.frozen _, this.lt⟩
theorem Two.second {vs : List (Nat × Nat × V × Option Addr × Nat)} (h : Two w g L (q :: p :: P) vs W) : PendF W p := by
  have := (h.pend p (by simp)).2
  exact ⟨this.cells3.1, this.cells3.2.1, this.cells3.2.2, this.frozen _, this.frozen _, this.frozen _, this.lt⟩
def Out16 (w : World) (L : List Box) (T1 T2 : V) (p q : Value) (W : World) : Prop :=
  ∃ b S c b' S' c', p = .pointer (some ⟨b, 0, none⟩) ∧ q = .pointer (some ⟨b', 0, none⟩) ∧ St w W ((b', T2, S', c') :: (b, T1, S, c) :: L)
theorem St.out16 {b b' c c' : Nat} {S S' : Option Addr} (h : St w W ((b', T2, S', c') :: (b, T1, S, c) :: L)) : Out16 w L T1 T2 (.pointer (some ⟨b, 0, none⟩)) (.pointer (some ⟨b', 0, none⟩)) W := ⟨b, S, c, b', S', c', rfl, rfl, h⟩
theorem blk_put {W : World} {p : Nat} {x y z : Value} (h : Blk W p 25 #[.int .i64 0, .int .i64 0, .slice none 0 0]) : Blk (((W.setCell ⟨p, 0, none⟩ x).setCell ⟨p, 1, none⟩ y).setCell ⟨p, 2, none⟩ z) p 25 #[x, y, z] := by
  have := ((h.set 0 x).set 1 y).set 2 z
  simpa using this
theorem Blk.far3 {W : World} {p q : Nat} {t : TypeId} {cs : Array Value} {x y z : Value} (h : Blk W q t cs) (hne : q ≠ p) : Blk (((W.setCell ⟨p, 0, none⟩ x).setCell ⟨p, 1, none⟩ y).setCell ⟨p, 2, none⟩ z) q t cs :=
  ((h.far (p := ⟨p, 0, none⟩) hne _).far (p := ⟨p, 1, none⟩) hne _).far (p := ⟨p, 2, none⟩) hne _
theorem Two.fin_pp (h : Two w g L P [(a2, z2, T2, S2, c2), (a1, z1, T1, S1, c1)] W) (hp : p ∈ P) (hq : q ∈ P) (hpq : p ≠ q) : St w ((((((W.setCell ⟨p, 0, none⟩ (.int .i64 T1.k)).setCell ⟨p, 1, none⟩ (.int .i64 T1.n)).setCell ⟨p, 2, none⟩ (.slice S1 T1.l.length c1)).setCell ⟨q, 0, none⟩ (.int .i64 T2.k)).setCell ⟨q, 1, none⟩ (.int .i64 T2.n)).setCell ⟨q, 2, none⟩ (.slice S2 T2.l.length c2)) ((q, T2, S2, c2) :: (p, T1, S1, c1) :: L) :=
  h.fin (keep_set3 (F := fun j => j = p ∨ j = q) (keep_set3 (F := fun j => j = p ∨ j = q) (Keep.refl _ _) (.inl rfl) _ _ _) (.inr rfl) _ _ _) ((blk_put (h.pend p hp).2).far3 hpq) (blk_put ((h.pend q hq).2.far3 (Ne.symm hpq))) (.inl hp) (.inl hq)
theorem Two.fin_pa (h : Two w g L P [(a2, z2, T2, S2, c2), (a1, z1, T1, S1, c1)] W) (hp : p ∈ P) : St w ((((W.setCell ⟨p, 0, none⟩ (.int .i64 T1.k)).setCell ⟨p, 1, none⟩ (.int .i64 T1.n)).setCell ⟨p, 2, none⟩ (.slice S1 T1.l.length c1)).alloc (.cells #[.int .i64 T2.k, .int .i64 T2.n, .slice S2 T2.l.length c2] 25)) ((W.heap.size, T2, S2, c2) :: (p, T1, S1, c1) :: L) := by
  have hz : (((W.setCell ⟨p, 0, none⟩ (.int .i64 T1.k)).setCell ⟨p, 1, none⟩ (.int .i64 T1.n)).setCell ⟨p, 2, none⟩ (.slice S1 T1.l.length c1)).heap.size = W.heap.size := by simp
  have hb := Blk.new (((W.setCell ⟨p, 0, none⟩ (.int .i64 T1.k)).setCell ⟨p, 1, none⟩ (.int .i64 T1.n)).setCell ⟨p, 2, none⟩ (.slice S1 T1.l.length c1)) 25 #[.int .i64 T2.k, .int .i64 T2.n, .slice S2 T2.l.length c2]
  rw [hz] at hb
  exact h.fin ((keep_set3 (F := fun j => j = p ∨ j = W.heap.size) (Keep.refl _ _) (.inl rfl) _ _ _).alloc _) ((blk_put (h.pend p hp).2).alloc _) hb (.inl hp) (.inr (Nat.le_refl _))
theorem Two.fin_ap (h : Two w g L P [(a2, z2, T2, S2, c2), (a1, z1, T1, S1, c1)] W) (hq : q ∈ P) : St w ((((W.setCell ⟨q, 0, none⟩ (.int .i64 T2.k)).setCell ⟨q, 1, none⟩ (.int .i64 T2.n)).setCell ⟨q, 2, none⟩ (.slice S2 T2.l.length c2)).alloc (.cells #[.int .i64 T1.k, .int .i64 T1.n, .slice S1 T1.l.length c1] 25)) ((q, T2, S2, c2) :: (W.heap.size, T1, S1, c1) :: L) := by
  have hz : (((W.setCell ⟨q, 0, none⟩ (.int .i64 T2.k)).setCell ⟨q, 1, none⟩ (.int .i64 T2.n)).setCell ⟨q, 2, none⟩ (.slice S2 T2.l.length c2)).heap.size = W.heap.size := by simp
  have hb := Blk.new (((W.setCell ⟨q, 0, none⟩ (.int .i64 T2.k)).setCell ⟨q, 1, none⟩ (.int .i64 T2.n)).setCell ⟨q, 2, none⟩ (.slice S2 T2.l.length c2)) 25 #[.int .i64 T1.k, .int .i64 T1.n, .slice S1 T1.l.length c1]
  rw [hz] at hb
  exact h.fin ((keep_set3 (F := fun j => j = W.heap.size ∨ j = q) (Keep.refl _ _) (.inr rfl) _ _ _).alloc _) hb ((blk_put (h.pend q hq).2).alloc _) (.inr (Nat.le_refl _)) (.inl hq)
theorem Two.fin_aa (h : Two w g L P [(a2, z2, T2, S2, c2), (a1, z1, T1, S1, c1)] W) : St w ((W.alloc (.cells #[.int .i64 T1.k, .int .i64 T1.n, .slice S1 T1.l.length c1] 25)).alloc (.cells #[.int .i64 T2.k, .int .i64 T2.n, .slice S2 T2.l.length c2] 25)) ((W.heap.size + 1, T2, S2, c2) :: (W.heap.size, T1, S1, c1) :: L) := by
  have hb := Blk.new (W.alloc (.cells #[.int .i64 T1.k, .int .i64 T1.n, .slice S1 T1.l.length c1] 25)) 25 #[.int .i64 T2.k, .int .i64 T2.n, .slice S2 T2.l.length c2]
  rw [World.size_alloc] at hb
  exact h.fin (((Keep.refl (fun j => j = W.heap.size ∨ j = W.heap.size + 1) W).alloc _).alloc _) ((Blk.new W _ _).alloc _) hb (.inr (Nat.le_refl _)) (.inr (Nat.le_succ _))
theorem Two.fin_aa' (h : Two w g L P [(a2, z2, T2, S2, c2), (a1, z1, T1, S1, c1)] W) : St w ((W.alloc (.cells #[.int .i64 T2.k, .int .i64 T2.n, .slice S2 T2.l.length c2] 25)).alloc (.cells #[.int .i64 T1.k, .int .i64 T1.n, .slice S1 T1.l.length c1] 25)) ((W.heap.size, T2, S2, c2) :: (W.heap.size + 1, T1, S1, c1) :: L) := by
  have hb := Blk.new (W.alloc (.cells #[.int .i64 T2.k, .int .i64 T2.n, .slice S2 T2.l.length c2] 25)) 25 #[.int .i64 T1.k, .int .i64 T1.n, .slice S1 T1.l.length c1]
  rw [World.size_alloc] at hb
  exact h.fin (((Keep.refl (fun j => j = W.heap.size + 1 ∨ j = W.heap.size) W).alloc _).alloc _) hb ((Blk.new W _ _).alloc _) (.inr (Nat.le_succ _)) (.inr (Nat.le_refl _))
end
end Go.Proofs.Ythfmbeecpjeegaa
