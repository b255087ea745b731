/- Parts' iterator. -/
import Derived.Test.YtmfcecfcfihgaaaRn
import Derived.Test.YtmfcecfcfihgaaaPh
import Derived.Test.YtmfcecfcfihgaaaWd
import Derived.Stop.RegionWithIn
namespace Go.Proofs.Ytmfcecfcfihgaaa
open Go.RowKit Go.Shelf
attribute [local go_sem] Oper.semAt_some store_nilFunc store_func

/-- A part that is handed on: a copy, and how deep it lies. -/
def encP (W : World) (_ : Nat) (x : Nat × V) (xa : Array Value) : Prop :=
  ∃ S c, xa = #[.int .i64 (x.1 : Int), .agg #[.int .i64 x.2.k, .int .i64 x.2.n, .slice S x.2.l.length c]] ∧ In W 0 W.heap.size (.agg #[.int .i64 x.2.k, .int .i64 x.2.n, .slice S x.2.l.length c]) x.2

theorem part_size (T : V) : ∀ d p, p ∈ V.pre d T → p.2.size ≤ T.size := by
  induction T using V.ind with
  | h k n l ih =>
    intro d p hp
    simp only [V.pre, List.mem_cons] at hp
    rcases hp with rfl | hp
    · exact Nat.le_refl _
    · rw [V.size_mk]
      have : p.2.size ≤ V.sizeL l := by
        clear k n
        induction l with
        | nil => simp [V.preL] at hp
        | cons x xs ihx =>
          simp only [V.preL, List.mem_append] at hp
          rw [V.sizeL_cons]
          rcases hp with hp | hp
          · have := ih x (by simp) _ p hp; omega
          · have := ihx (fun y hy => ih y (by simp [hy])) hp; omega
      omega

set_option maxRecDepth 100000 in
set_option maxHeartbeats 3200000 in
theorem parts2_seqs (T : V) (w0 : World) (hi pb : Nat) (s : Value) (hin : In w0 0 hi (.agg #[.int .i64 T.k, .int .i64 T.n, s]) T) (hh : hi ≤ w0.heap.size) (hT : T.size ≤ 256) :
    SeqsN Try.prog 83 #[.pointer (some ⟨pb, 0, none⟩)] encP (V.pre 0 T) (SnapW w0 hi pb #[.int .i64 T.k, .int .i64 T.n, s]) := by
  intro n l J Jx Jp W hJp hJ hJx hS hY h0
  refine callsIn_wide.2 ?_
  have hs := hS _ _ h0
  have c0 := hs.box.cell 0
  have c1 := hs.box.cell 1
  have c2 := hs.box.cell 2
  have clt := hs.box.lt
  obtain ⟨A, c, rfl⟩ : ∃ A c, s = .slice A T.l.length c := by
    obtain ⟨s', e, _, _, h⟩ := hin.parts
    obtain ⟨_, _, rfl⟩ := agg3 e
    obtain ⟨X, cx, h, _⟩ := h.form
    exact ⟨X, cx, h⟩
  simp at c0 c1 c2
  have hwk := walk_any T.k T.n (.slice A T.l.length c)
  show Calls Try.prog 83 #[.func (.yield l) #[] #[], .pointer (some ⟨pb, 0, none⟩)] W _
  refine calls_of_wp_marks 5 Try.func83 rfl ?_
  simp only [Try.ntmps83, List.size_toArray, List.length_cons, List.length_nil, Nat.reduceAdd, Nat.reduceSub, Array.replicate_succ, Array.replicate_zero, List.push_toArray, List.append_toArray, List.nil_append, List.cons_append]
  go_wp2_with fail
  go_step3
  go_wp2_with fail
  go_step3
  go_wp2_with (go_at_call 84; refine (hwk _).mono ?_; rintro e w' ⟨rfl, rfl⟩)
  obtain ⟨cs, hcs⟩ : ∃ cs : Array Value, #[.int .i64 T.k, .int .i64 T.n, .slice A T.l.length c] = cs := ⟨_, rfl⟩
  obtain ⟨W0, hW0⟩ : ∃ W0, (W.alloc (.cells #[.func (.yield l) #[] #[]] 113)).alloc (.cells #[.int .i64 T.k, .int .i64 T.n, .slice A T.l.length c] 36) = W0 := ⟨_, rfl⟩
  have hsz : W0.heap.size = W.heap.size + 2 := by rw [← hW0]; simp
  have hy0 : Blk W0 W.heap.size 113 #[.func (.yield l) #[] #[]] := by rw [← hW0]; exact (Blk.new W _ _).alloc _
  have hb0 : Blk W0 (W.heap.size + 1) 36 cs := by
    rw [← hW0, hcs]
    have := Blk.new (W.alloc (.cells #[.func (.yield l) #[] #[]] 113)) 36 cs
    rwa [World.size_alloc] at this
  have hJ0 : J [] W0 := by rw [← hW0]; exact hJ _ _ _ h0 (((Keep.refl _ W).alloc _).alloc _)
  rw [hW0]
  refine wp_rangeP 4 rfl (enters_of Try.func141 (by kernel_rfl) rfl) (walk1_seqs T w0 hi (W.heap.size + 1) _ hin) (fun W i x xa hx => by obtain ⟨s, rfl, _⟩ := hx; rfl)
    (fun pre W' => (J pre W' ∧ Blk W' W.heap.size 113 #[.func (.yield l) #[] #[]]) ∧ Blk W' (W.heap.size + 1) 36 cs)
    (fun cd pre W' => cd = .exit 0 ∧ Jx pre W')
    (fun _ _ => False)
    (fun s X Y hs hk => ⟨⟨hJ s X Y hs.1.1 (hk.mono (fun k hk' => by omega)), hs.1.2.keepB hk (by omega)⟩, hs.2.keepB hk (by omega)⟩)
    (fun cd s X Y hs hk => ⟨hs.1, hJx s X Y hs.2 (hk.mono (fun k hk' => by omega))⟩)
    (fun pre W' hi' => ⟨(hS _ _ hi'.1.1).bl, by rw [hcs]; exact hi'.2, (hS _ _ hi'.1.1).few⟩)
    ⟨⟨hJ0, hy0⟩, hb0⟩ ?round ?done ?panic ?stop
  case round =>
    intro l' pre x rest W1 xa hsz1 hx hi' hxa
    obtain ⟨sx, rfl, hinx⟩ := hxa
    obtain ⟨Y, cy, rfl, _⟩ := hinx.slice
    have hxs : x.2.size ≤ 256 := Nat.le_trans (part_size T 0 x (by rw [hx]; simp)) hT
    have hbox : Blk (W1.alloc (.cells #[.int .i64 x.2.k, .int .i64 x.2.n, .slice Y x.2.l.length cy, .int .i64 (x.1 : Int)] 118)) W1.heap.size 118 #[.int .i64 x.2.k, .int .i64 x.2.n, .slice Y x.2.l.length cy, .int .i64 (x.1 : Int)] := Blk.new _ _ _
    refine .inl ?_
    gi_wp2
    refine ⟨(Since.refl _ _).alloc _, ⟨⟨hJ _ _ _ hi'.1.1 ((Keep.refl _ W1).alloc _), hi'.1.2.alloc _⟩, hi'.2.alloc _⟩, ?_⟩
    rintro W2 ht ⟨⟨hj, hy1⟩, hb1⟩
    have hbox2 := ht.blk hbox
    have y0 := hy1.cell 0
    have x0 := hbox2.cell 0
    have x1 := hbox2.cell 1
    have x2 := hbox2.cell 2
    have x3 := hbox2.cell 3
    simp at y0 x0 x1 x2 x3
    have hbl := (hS _ _ hj).bl
    have hW2 : W.heap.size ≤ W2.heap.size := Nat.le_of_lt hy1.lt
    have hcp := (Copy_ok W2.drew ((hinx.after hbl).after (Below.refl _ W2).drew) (Nat.le_trans hh hbl.size) hxs).mono
      (R' := fun e w' => ∃ S c', e = .returned (.agg #[.int .i64 x.2.k, .int .i64 x.2.n, .slice S x.2.l.length c']) ∧ w'.cell? ⟨W.heap.size, 0, none⟩ = some (.func (.yield l) #[] #[]) ∧ w'.cell? ⟨W1.heap.size, 3, none⟩ = some (.int .i64 (x.1 : Int)) ∧
        Hid (J pre w' ∧ Blk w' W.heap.size 113 #[.func (.yield l) #[] #[]] ∧ Blk w' (W.heap.size + 1) 36 cs ∧ In w' 0 w'.heap.size (.agg #[.int .i64 x.2.k, .int .i64 x.2.n, .slice S x.2.l.length c']) x.2 ∧ Since W0.heap.size W2 w'))
      (fun e w' q => by
        obtain ⟨v', rfl, hv, hb0'⟩ := q
        have hb : Below W2.heap.size W2 w' := (Below.refl _ W2).drew.trans hb0'
        obtain ⟨S, c', rfl, _⟩ := hv.val
        have hy' := hy1.keep (hb.block _ hy1.lt)
        have hb' := hbox2.keep (hb.block _ hbox2.lt)
        exact ⟨S, c', rfl, by simpa using hy'.cell 0, by simpa using hb'.cell 3, Lib.hid ⟨hJ _ _ _ hj (Keep.of_below hb (fun k h1 h2 => by omega)), hy', hb1.keep (hb.block _ hb1.lt), hv.mono (Nat.zero_le _) (Nat.le_refl _), since_below hb⟩⟩)
    have hcpI := callsIn_wide (n := 4 - 1) |>.2 hcp
    have HC := Lib.hid hcpI
    have hYo : ∀ (w1 : World) (S : Option Addr) (c' : Nat), Hid (J pre w1 ∧ Blk w1 W.heap.size 113 #[.func (.yield l) #[] #[]] ∧ Blk w1 (W.heap.size + 1) 36 cs ∧ In w1 0 w1.heap.size (.agg #[.int .i64 x.2.k, .int .i64 x.2.n, .slice S x.2.l.length c']) x.2 ∧ Since W0.heap.size W2 w1) →
        YieldAt Fence.wide 3 Try.prog l #[.int .i64 (x.1 : Int), .agg #[.int .i64 x.2.k, .int .i64 x.2.n, .slice S x.2.l.length c']] w1 fun e W' => ∃ b, e = .returned (.bool b) ∧
          Hid ((b = true ∧ ((J (pre ++ [x]) W' ∧ Blk W' W.heap.size 113 #[.func (.yield l) #[] #[]]) ∧ Blk W' (W.heap.size + 1) 36 cs) ∨ b = false ∧ Jx (pre ++ [x]) W') ∧ Since W0.heap.size W2 W') := fun w1 S c' h1 => by
      obtain ⟨g1, g2, g3, g4, g5⟩ := h1.out
      obtain ⟨fn, tmps, assign, body, hy, hR⟩ := yield_depth 3 (hY pre x rest w1 _ hx g1 ⟨S, c', rfl, g4⟩)
      refine ⟨fn, tmps, assign, body, hy, hR.mono ?_⟩
      rintro e W' (⟨rfl, hJ3, hs3⟩ | ⟨rfl, hJx3, hs3⟩ | ⟨ch, rfl, hp⟩)
      · exact ⟨true, rfl, Lib.hid ⟨.inl ⟨rfl, ⟨hJ3, g2.keep (hs3.same _ (Nat.le_refl _) g2.lt)⟩, g3.keep (hs3.same _ (by omega) g3.lt)⟩, g5.trans (hs3.mono (by omega))⟩⟩
      · exact ⟨false, rfl, Lib.hid ⟨.inr ⟨rfl, hJx3⟩, g5.trans (hs3.mono (by omega))⟩⟩
      · exact (hJp _ _ hp).elim
    have HY := Lib.hid hYo
    have hf19 : Fence.wide.fn 22 := trivial
    have HSZ := Lib.hid hsz
    clear hs hS hY h0 c0 c1 c2 clt hwk hin hJ0 hb0 hy0 hT hh hxs hsz
    clear hYo hcpI hcp ht hi' hbox hbox2 hj hy1 hb1 hinx hbl hx
    gi_wp2
    gi_region_with (first
      | (gi_at_call 22; refine (CallsIn.inRound l' HC.out).mono ?_; rintro e w1 ⟨S, c', rfl, z0, z3, hQ⟩; obtain ⟨fn, tmps, assign, body, hyl, hR⟩ := HY.out w1 S c' hQ)
      | (refine hR.mono ?_; rintro e W3 ⟨b, rfl, hB⟩))
    all_goals
      cases b
      · gi_wp2
        rcases hB.out with ⟨(⟨hf, _⟩ | ⟨_, hx3⟩), hs3⟩
        · cases hf
        · exact ⟨hs3, rfl, hx3⟩
      · gi_wp2
        rcases hB.out with ⟨(⟨_, hg⟩ | ⟨hf, _⟩), hs3⟩
        · exact ⟨hs3, hg⟩
        · cases hf
  case done =>
    rintro D W1 hD ⟨⟨hj, _⟩, _⟩ hdef
    go_wp2
    rw [Exit.noGoto_normal]
    refine ⟨by simp, .inl ⟨_, _, rfl, run_takeDeferred hdef, ?_⟩⟩
    exact ⟨_, results_none rfl _ _ _, .inl ⟨⟨_, rfl⟩, .inl (hJ.from.putObj _ hj (by omega) hdef rfl)⟩⟩
  case panic =>
    intro D ch W1 _ hf
    exact hf.elim
  case stop =>
    rintro D cd pre W1 hD hpre ⟨rfl, hjx⟩ hdef
    go_wp2
    rw [Exit.noGoto_normal]
    refine ⟨by simp, .inl ⟨_, _, rfl, run_takeDeferred hdef, ?_⟩⟩
    exact ⟨_, results_none rfl _ _ _, .inl ⟨⟨_, rfl⟩, .inr ⟨pre, hpre, hJx.from.putObj _ hjx (by omega) hdef rfl⟩⟩⟩
end Go.Proofs.Ytmfcecfcfihgaaa
