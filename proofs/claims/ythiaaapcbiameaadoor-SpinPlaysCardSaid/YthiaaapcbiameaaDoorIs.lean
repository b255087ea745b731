/- SpinPlays: does an arena stand as the document's? -/
import Derived.Test.YthiaaapcbiameaaDoorSx
import Derived.Test.YthiaaapcbiameaaDoorSm
namespace Go.Proofs.YthiaaapcbiameaaDoor
open Go.RowKit Go.Shelf
attribute [local go_sem] Oper.semAt_some

/-- The copy, of which some cells were read. -/
structure Isr (B b : Nat) (s : St) (k : Nat) (w0 W : World) : Prop where
  ex : ∃ s1, (arena b).R s1 W ∧ s1.cs = s.cs ∧ s1.hist.length = s.hist.length + k
  low : ∀ k, footA b W k → B ≤ k
  below : Below B w0 W
theorem load_isr {B b k : Nat} {s : St} {w0 W : World} (h : Isr B b s k w0 W) (hB : B ≤ w0.heap.size) (hk : k < s.cs.length) (hh : s.hist.length + k < 1000000000) :
    Calls Tryd.prog 32 #[.pointer (some ⟨b, 0, none⟩), .int .i64 (k : Int)] W fun e W' => e = .returned (.tuple #[.int .u64 (s.at_ k), .int .i64 0]) ∧ Isr B b s (k + 1) w0 W' ∧ Moved b W W' := by
  obtain ⟨⟨s1, hR, hcs, hhs⟩, hlow, hb⟩ := h
  refine (Load_st (k : Int) hR (by omega)).mono ?_
  rintro e W' ⟨rfl, hst⟩
  have hi : inSt s1 (k : Int) = true := by simp [inSt, hcs]; omega
  have hat : s1.at_ k = s.at_ k := by unfold St.at_; rw [hcs]
  have hsz := hb.size
  have hd : doSt s1 1 (k : Int) 0 0 = (s1.step k (accOf s1 1 k 0 0), accOf s1 1 k 0 0, 0) := by unfold doSt; rw [if_pos hi]; rfl
  rw [hd] at hst ⊢
  refine ⟨?_, ⟨⟨_, hst.at_, ?_, ?_⟩, Res.StepsN.low hst (by omega) hlow, hb.trans (hst.keep.below hlow (by omega))⟩, ⟨_, hst⟩⟩
  · show Ending.returned (.tuple #[.int .u64 (s1.at_ (k : Int).toNat), .int .i64 0]) = _
    rw [Int.toNat_natCast, hat]
  · show s1.cs.set k (newOf 1 (s1.at_ (k : Int).toNat) 0 0) = s.cs
    rw [Int.toNat_natCast, hat, ← hcs]
    have hk1 : k < s1.cs.length := by rw [hcs]; exact hk
    have hg : s1.cs[k]? = some s1.cs[k] := List.getElem?_eq_getElem hk1
    rw [hcs]
    have hk2 : s.at_ k = s.cs[k] := by unfold St.at_; simp [hk]
    unfold newOf
    simp [hk2]
  · show (s1.hist ++ [_]).length = _
    simp; omega

theorem quiet_left' {P : Program} {f : FuncId} {args : Array Value} {w : World} {n : Nat} {v : Value} (h : Calls P f args (w.drewN n) fun e w' => e = .returned v ∧ w.drewN n = w') :
    Calls P f args (w.drewN n) fun e w' => e = .returned v ∧ ∃ k, w' = w.drewN k := h.mono fun _ _ ⟨he, hm⟩ => ⟨he, n, hm.symm⟩

/-- Between two rounds: the box of the document's value and its cells stand. -/
structure Isq (b : Nat) (s : St) (k : Nat) (v0 v1 v2 : Value) (w W : World) : Prop where
  isr : Isr w.heap.size b s k w W
  bx : Blk W w.heap.size 31 #[v0, v1, v2]
  row : Row W 48 1 v0 s.cs.length (s.cs.map (Value.int .u64))
  nfb : ¬ footA b W w.heap.size
  nfc : ∀ j, v0.ownBlock = some j → ¬ footA b W j
theorem load_isq {b k : Nat} {s : St} {w W : World} {v0 v1 v2 : Value} (h : Isq b s k v0 v1 v2 w W) (hk : k < s.cs.length) (hh : s.hist.length + k < 1000000000) :
    Calls Tryd.prog 32 #[.pointer (some ⟨b, 0, none⟩), .int .i64 (k : Int)] W fun e W' => e = .returned (.tuple #[.int .u64 (s.at_ k), .int .i64 0]) ∧ Isq b s (k + 1) v0 v1 v2 w W' := by
  refine (load_isr h.isr (Nat.le_refl _) hk hh).mono ?_
  rintro e W' ⟨rfl, h1, ⟨s', hm⟩⟩
  have o1 := hm.out h.bx.lt h.nfb
  exact ⟨rfl, h1, h.bx.keep o1.1, h.row.keep (fun j hj => (hm.out (h.row.lt j hj) (h.nfc j hj)).1), o1.2, fun j hj => (hm.out (h.row.lt j hj) (h.nfc j hj)).2⟩
theorem Isq.drewN {b k : Nat} {s : St} {w W : World} {v0 v1 v2 : Value} (h : Isq b s k v0 v1 v2 w W) (n : Nat) : Isq b s k v0 v1 v2 w (W.drewN n) := by
  obtain ⟨⟨⟨s1, h1, h2, h3⟩, h4, h5⟩, h6, h7, h8, h9⟩ := h
  have hst := Res.Steps.below (r := arena b) h1 (below_drewN (Below.refl W.heap.size W) n)
  exact ⟨⟨⟨s1, hst.at_, h2, h3⟩, fun k hk => (hst.ft k hk).elim (h4 k) (fun e => Nat.le_trans h5.size e), below_drewN h5 n⟩, h6.drewN n, h7, (hst.out h6.lt h8).2, fun j hj => (hst.out (h7.lt j hj) (h9 j hj)).2⟩

set_option maxRecDepth 100000 in
set_option maxHeartbeats 1600000 in
theorem is3_ok {b : Nat} {s : St} {v : Value} (w : World) (h : Sd b s s v w) (hh : s.hist.length < 1000000) :
    Calls Tryd.prog 11 #[.pointer (some ⟨b, 0, none⟩), v] w fun e w' => e = .returned (.bool true) ∧ Below w.heap.size w w' := by
  obtain ⟨⟨vC, vL, rfl, hc, hl⟩, h1, h2⟩ := h.ref
  have hA := arena_are h.lk.are
  obtain ⟨A0, c0, rfl, hc1, hm1⟩ := hc.form
  obtain ⟨A1, c1, rfl, hc2, hm2⟩ := hl.form
  unfold maxLen at hm1 hm2
  have e0 : ((s.cs.length : Int) != (s.cs.length : Int)) = false := by simp
  have e1 : ((s.hist.length : Int) != (s.hist.length : Int)) = false := by simp
  have hwr : IntKind.u64.wrap (s.hist.length : Int) = (s.hist.length : Int) := IntWalk.u64_in _ (by omega)
  have B1 : Below w.heap.size w (w.alloc (.cells #[.slice A0 s.cs.length c0, .int .i64 s.most, .slice A1 s.hist.length c1] 31)) := (Below.refl _ _).alloc (Nat.le_refl _) _
  have b1 := Blk.new w 31 #[.slice A0 s.cs.length c0, .int .i64 s.most, .slice A1 s.hist.length c1]
  have hA1 := hA.below B1
  have hc1 := hc.alloc (.cells #[.slice A0 s.cs.length c0, .int .i64 s.most, .slice A1 s.hist.length c1] 31)
  go_enter Tryd.func11, Tryd.ntmps11
  go_wp2_with fail
  revert B1 b1 hA1 hc1
  generalize w.alloc (.cells #[.slice A0 s.cs.length c0, .int .i64 s.most, .slice A1 s.hist.length c1] 31) = W1
  intro B1 b1 hA1 hc1
  have cl1 : ∀ n, Calls Tryd.prog 30 #[.pointer (some ⟨b, 0, none⟩)] (W1.drewN n) fun e w' => e = .returned (.int .i64 (s.cs.length : Int)) ∧ W1.drewN n = w' := fun n => Len_are (hA1.drewN n)
  have cl3 : ∀ n, Calls Tryd.prog 16 #[.pointer (some ⟨b, 0, none⟩)] (W1.drewN n) fun e w' => e = .returned (.int .u64 (s.hist.length : Int)) ∧ W1.drewN n = w' := fun n => Count_are (hA1.drewN n)
  have H1 := Lib.hid cl1
  have H3 := Lib.hid cl3
  clear cl1 cl3 h hA hl hc
  have k0 := b1.cell 0
  have k2 := b1.cell 2
  simp at k0 k2
  go_quiet ((first | (go_at_call 30; exact quiet_left' (H1.out _)) | (go_at_call 16; exact quiet_left' (H3.out _))))
  have hA2 := hA1.drewN nq
  have b2 := b1.drewN nq
  have B2 := below_drewN B1 nq
  have c2 : Row (W1.drewN nq) 48 1 _ _ _ := hc1
  clear hA1 b1 B1 hc1 H1 H3 k0 k2
  revert hA2 b2 B2 c2
  generalize W1.drewN nq = W2
  intro hA2 b2 B2 c2
  have hs2 := B2.size
  go_wp2_with (go_at_call 31
               refine (Copy_ok _ hA2).mono ?_
               rintro e W3 ⟨b3, rfl, hA3, hB3⟩
               have b3' := b2.keep (hB3.block _ b2.lt)
               have c3 := Row.keep c2 (fun k hk => hB3.block k (Row.lt c2 k hk))
               have B3 := B2.trans (hB3.mono hs2))
  have hR : Isr w.heap.size b3 s 0 w W3 := ⟨⟨s, hA3.foot.1, rfl, by simp⟩, fun k hk => by have := hA3.foot.2 k hk; omega, B3⟩
  have nfb : ¬ footA b3 W3 w.heap.size := fun hf => by have := hA3.foot.2 _ hf; have := b2.lt; omega
  have nfc : ∀ k, (Value.slice A0 s.cs.length c0).ownBlock = some k → ¬ footA b3 W3 k := fun k hk hf => by have := hA3.foot.2 _ hf; have := Row.lt c2 k hk; omega
  have hq : Isq b3 s 0 _ _ _ w W3 := ⟨hR, b3', c3, nfb, nfc⟩
  clear hR b3' c3 nfb nfc hA3 hB3 b2 c2 hA2 B2 B3 hs2
  go_loopw [6] (fun i wr => ∃ k : Nat, k ≤ s.cs.length ∧ i = .int .i64 (k : Int) ∧ Isq b3 s k (.slice A0 s.cs.length c0) (.int .i64 s.most) (.slice A1 s.hist.length c1) w wr) (fun i _ => s.cs.length - (intOf i).toNat)
  case atStart => exact ⟨0, Nat.zero_le _, rfl, hq⟩
  case round =>
    obtain ⟨k, hk, rfl, hQ⟩ := hrel
    clear hq
    have k0 := hQ.bx.cell 0
    simp at k0
    by_cases hlt : k < s.cs.length
    · have hltI : (k : Int) < (s.cs.length : Int) := by omega
      have hk0 : (0 : Int) ≤ (k : Int) := by omega
      have hL := load_isq hQ hlt (by omega)
      have ev : (s.at_ k != s.at_ k) = false := by simp
      go_wp2_with (first
                | (go_at_call 12; refine (num_any _ _).mono ?_; rintro e w' ⟨rfl, rfl⟩)
                | (go_at_call 32
                   refine hL.mono ?_
                   rintro e w5 ⟨rfl, hQ5⟩
                   obtain ⟨g, d1, cu1, hv, _⟩ := Row.addr hQ5.row (by omega)
                   simp only [Value.slice.injEq, true_and] at hv
                   obtain ⟨rfl, rfl⟩ := hv
                   have q1 := (Row.cells hQ5.row rfl k (by omega)).1
                   have qa : (s.cs.map (Value.int .u64))[k]? = some (.int .u64 (s.at_ k)) := St.at_get hlt
                   rw [qa] at q1
                   clear qa
                   have k5 := hQ5.bx.cell 0
                   simp at k5))
      exact ⟨⟨k + 1, by omega, by simp, hQ5⟩, by simp [intOf]; omega⟩
    · have hltI : ¬ (k : Int) < (s.cs.length : Int) := by omega
      go_wp2_with fail
      go_ret
      exact ⟨rfl, hQ.isr.below⟩
end Go.Proofs.YthiaaapcbiameaaDoor
