/- PickWaits, walked. -/
import Derived.Test.YtchmoalcjbolbaaWa
import Derived.Test.YtchmoalcjbolbaaWb
import Derived.Test.YtchmoalcjbolbaaHp
import Derived.Test.YtchmoalcjbolbaaJn
import Derived.Deep.CutRange
import Derived.Deep.CutBlock
namespace Go.Proofs.Ytchmoalcjbolbaa
open Go.RowKit Go.Shelf Go.Sort
attribute [local go_sem] Oper.semAt_some

/-- What is told, beside the reference's answers. -/
def Pairs (f : Int → Nat) (ts : List Int) (ps : List (Int × Nat)) : Prop := ps = ts.map fun t => (t, f t)
theorem told_pairs {l : List Tn} {ts : List Int} {ps : List (Int × Nat)} {p : Nat} (hp : p = 1 ∨ p = 2) (h : toldOf p l ps) (hb : badAt l = none) (ht : ThreadsOf (evK l l.length) ts) :
    Pairs (fun t => if p = 1 then bestTo l t l.length else wentTo l t l.length) ts ps := by
  have hv := badAt_all hb
  rcases h with ⟨h1, _⟩ | ⟨_, us, h2, rfl⟩
  · rw [hb] at h1; simp at h1
  · obtain rfl := h2.unique ht
    unfold Pairs
    refine List.map_congr_left fun t _ => ?_
    have hs := cnt_spec hv t l.length (Nat.le_refl _)
    unfold cntAt
    rcases hp with rfl | rfl
    · simp only [if_true]; rw [hs.2.2.1]
    · simp only [show ¬ (2 : Nat) = 1 by omega, if_false]; rw [hs.2.2.2]
theorem told_none {l : List Tn} {ps : List (Int × Nat)} {p k : Nat} (h : toldOf p l ps) (hb : badAt l = some k) (f : Int → Nat) : Pairs f [] ps := by
  rcases h with ⟨_, rfl⟩ | ⟨h1, _⟩
  · rfl
  · rw [hb] at h1; cases h1

/-- What stands through all rounds. -/
structure PV (w : World) (g2 g5 : Nat) (vl va : Value) (l : List Tn) (ts : List Int) (many : Int) (W : World) : Prop where
  bl : RowKit.Below w.heap.size w W
  c2 : Blk W g2 33 #[vl]
  c3 : Blk W (g2 + 1) 3 #[.int .i64 many]
  c4 : Blk W (g2 + 1 + 1) 4 #[.bool false]
  c5 : Blk W g5 24 #[va]
  hl : Turns W vl l
  ha : Ints W va ts
  lt4 : w.heap.size ≤ g2
  lt5 : g2 ≤ g5
theorem PV.below {w : World} {g2 g5 : Nat} {vl va : Value} {l : List Tn} {ts : List Int} {many : Int} {W W' : World}
    (h : PV w g2 g5 vl va l ts many W) (hb : RowKit.Below W.heap.size W W') : PV w g2 g5 vl va l ts many W' :=
  ⟨h.bl.trans (hb.mono h.bl.size), h.c2.keep (hb.block _ h.c2.lt), h.c3.keep (hb.block _ h.c3.lt), h.c4.keep (hb.block _ h.c4.lt), h.c5.keep (hb.block _ h.c5.lt), h.hl.below hb, h.ha.below hb, h.lt4, h.lt5⟩
theorem PV.cells {w : World} {g2 g5 : Nat} {vl va : Value} {l : List Tn} {ts : List Int} {many : Int} {W : World} (h : PV w g2 g5 vl va l ts many W) :
    W.cell? ⟨g2, 0, none⟩ = some vl ∧ W.cell? ⟨g2 + 1, 0, none⟩ = some (.int .i64 many) ∧ W.cell? ⟨g2 + 1 + 1, 0, none⟩ = some (.bool false) ∧ W.frozen? ⟨g2 + 1 + 1, 0, none⟩ = false ∧ W.cell? ⟨g5, 0, none⟩ = some va := by
  have h1 := h.c2.cell 0
  have h2 := h.c3.cell 0
  have h3 := h.c4.cell 0
  have h4 := h.c5.cell 0
  simp at h1 h2 h3 h4
  exact ⟨h1, h2, h3, h.c4.frozen 0, h4⟩

theorem Pairs.at_ {f : Int → Nat} {ts : List Int} {ps pre rest : List (Int × Nat)} {x : Int × Nat} (h : Pairs f ts ps) (hx : ps = pre ++ x :: rest) : ts[pre.length]? = some x.1 ∧ x.2 = f x.1 ∧ pre.length < ts.length := by
  unfold Pairs at h
  have h1 : ps[pre.length]? = some x := by rw [hx]; simp
  rw [h, List.getElem?_map] at h1
  cases h2 : ts[pre.length]? with
  | none => rw [h2] at h1; simp at h1
  | some t =>
    rw [h2] at h1
    simp at h1
    subst h1
    exact ⟨rfl, rfl, (List.getElem?_eq_some_iff.1 h2).1⟩

/-- A list of integers stays when a box that holds a slice is written. -/
theorem Ints.far_slice {W : World} {u : Value} {xs : List Int} (h : Ints W u xs) {g : Nat} {t : TypeId} {A : Option Addr} {n c : Nat} (hg : Blk W g t #[.slice A n c]) (v : Value) : Ints (W.setCell ⟨g, 0, none⟩ v) u xs := by
  obtain ⟨A', c', rfl, h1, h2, hw, h3⟩ := h
  refine ⟨A', c', rfl, h1, h2, hw, fun hne => ?_⟩
  obtain ⟨b, o, rfl, hb, hc⟩ := h3 hne
  refine ⟨b, o, rfl, by simpa [World.setCell] using hb, fun i x hx => ?_⟩
  have hi := hc i x hx
  by_cases e : g = b
  · subst e
    rw [hg.cell] at hi
    rcases Nat.eq_zero_or_pos (o + i) with h0 | h0
    · rw [h0] at hi; simp at hi
    · rw [Array.getElem?_eq_none (by simp; omega)] at hi; cases hi
  · rw [World.cell?_setCell_far _ _ _ _ e]
    exact hi

theorem run_max (ats : Array TypeId) (ty : TypeId) (a b : Int) (w : World) : Sem.run Try.prog (Builtin.max_ ats ty #[.int .i64 a, .int .i64 b]) w = .ok (.int .i64 (max a b)) w := by
  have : max a b = if a < b then b else a := by split <;> omega
  rw [this]
  by_cases h : a < b <;> simp [Builtin.max_, Builtin.max2, h]
theorem run_min (ats : Array TypeId) (ty : TypeId) (a b : Int) (w : World) : Sem.run Try.prog (Builtin.min_ ats ty #[.int .i64 a, .int .i64 b]) w = .ok (.int .i64 (min a b)) w := by
  have : min a b = if b < a then b else a := by split <;> omega
  rw [this]
  by_cases h : b < a <;> simp [Builtin.min_, Builtin.min2, h]
/-- What the document's part leaves. -/
def MidP (w : World) (g2 g5 : Nat) (vl : Value) (l : List Tn) (many : Int) (W : World) : Prop :=
  ∃ A5 ts c5, PV w g2 g5 vl (.slice A5 ts.length c5) l ts many W ∧ (∀ ps, toldOf 1 l ps → Pairs (fun t => bestTo l t l.length) ts ps) ∧ (∀ ps, toldOf 2 l ps → Pairs (fun t => wentTo l t l.length) ts ps)
/-- What stands at the head of a turn: its number in a cell of its own. -/
structure TS (w : World) (g2 g5 : Nat) (vl va : Value) (l : List Tn) (ts : List Int) (many : Int) (B1 : Nat) (v1 : Value) (ps1 : List (Int × Nat)) (B2 : Nat) (v2 : Value) (ps2 : List (Int × Nat)) (W : World) : Prop where
  pv : PV w g2 g5 vl va l ts many W
  t1 : Told B1 v1 ps1 W
  t2 : Told B2 v2 ps2 W
theorem TS.below {w : World} {g2 g5 : Nat} {vl va : Value} {l : List Tn} {ts : List Int} {many : Int} {B1 : Nat} {v1 : Value} {ps1 : List (Int × Nat)} {B2 : Nat} {v2 : Value} {ps2 : List (Int × Nat)} {W W' : World}
    (h : TS w g2 g5 vl va l ts many B1 v1 ps1 B2 v2 ps2 W) (hb : RowKit.Below W.heap.size W W') : TS w g2 g5 vl va l ts many B1 v1 ps1 B2 v2 ps2 W' := ⟨h.pv.below hb, h.t1.below hb, h.t2.below hb⟩
/-- Behind the two calls. -/
def ToldP (w : World) (g2 g5 : Nat) (vl va : Value) (l : List Tn) (ts : List Int) (many : Int) (s8 s9 : Value) (W : World) : Prop :=
  ∃ B1 v1 ps1 B2 v2 ps2, s8 = .func (.func 49) #[] #[.pointer (some ⟨B1, 0, none⟩)] ∧ s9 = .func (.func 49) #[] #[.pointer (some ⟨B2, 0, none⟩)] ∧ ps1.length ≤ 1000000 ∧ ps2.length ≤ 1000000 ∧
    Hid (TS w g2 g5 vl va l ts many B1 v1 ps1 B2 v2 ps2 W ∧ Pairs (fun t => bestTo l t l.length) ts ps1 ∧ Pairs (fun t => wentTo l t l.length) ts ps2)
/-- What a turn's range keeps: the count in its cell, and that it may go on. -/
structure RWi (gN : Nat) (W7 : World) (many : Int) (early : Bool) (pre : List (Int × Nat)) (W : World) : Prop where
  bl : RowKit.Below gN W7 W
  n : Blk W gN 3 #[.int .i64 (pre.length : Int)]
  lim : early = true → pre ≠ [] → (pre.length : Int) < many
/-- How it ends. -/
def endN (early : Bool) (len : Nat) (many : Int) : Int := if early then min (len : Int) (max 1 many) else len
structure RWj (gN : Nat) (W7 : World) (N : Int) (W : World) : Prop where
  bl : RowKit.Below gN W7 W
  n : Blk W gN 3 #[.int .i64 N]
theorem RWi.end_ {gN : Nat} {W7 : World} {many : Int} {early : Bool} {ps : List (Int × Nat)} {W : World} {f : Int → Nat} {ts : List Int} (h : RWi gN W7 many early ps W) (hp : Pairs f ts ps) : RWj gN W7 (endN early ts.length many) W := by
  have hlen : ps.length = ts.length := by unfold Pairs at hp; rw [hp]; simp
  have hn := h.n
  have e : (ps.length : Int) = endN early ts.length many := by
    unfold endN
    cases early with
    | false => simp [hlen]
    | true =>
      simp only [if_true]
      by_cases hp : ps = []
      · have : ts.length = 0 := by rw [← hlen, hp]; rfl
        rw [hlen]; omega
      · have h1 := h.lim rfl hp
        have h2 := List.length_pos_iff.2 hp
        rw [← hlen]; omega
  rw [e] at hn
  exact ⟨h.bl, hn⟩

set_option maxRecDepth 100000 in
set_option maxHeartbeats 6400000 in
theorem waitsWalk (vl : Value) (l : List Tn) (many : Int) (w : World) (hl : Turns w vl l) (_hmw : W64 many) : Calls Try.prog 5 #[vl, .int .i64 many] w (WPost w) := by
  obtain ⟨A, c, rfl, hc1, hc2⟩ := hl.form
  obtain ⟨g2, hg2⟩ : ∃ g, w.heap.size = g := ⟨_, rfl⟩
  obtain ⟨W0, hW0⟩ : ∃ W0, ((w.alloc (.cells #[.slice A l.length c] 33)).alloc (.cells #[.int .i64 many] 3)).alloc (.cells #[.bool false] 4) = W0 := ⟨_, rfl⟩
  have hB0 : RowKit.Below w.heap.size w W0 := by
    rw [← hW0]
    exact (((RowKit.Below.refl _ w).alloc (Nat.le_refl _) _).alloc (by simp) _).alloc (by simp; omega) _
  have b2 : Blk W0 g2 33 #[.slice A l.length c] := by
    rw [← hW0]; exact ((blk_at w g2 hg2 33 _).alloc _).alloc _
  have b3 : Blk W0 (g2 + 1) 3 #[.int .i64 many] := by
    rw [← hW0]; exact (blk_at _ (g2 + 1) (by simp; omega) 3 _).alloc _
  have b4 : Blk W0 (g2 + 1 + 1) 4 #[.bool false] := by
    rw [← hW0]; exact blk_at _ (g2 + 1 + 1) (by simp; omega) 4 _
  have hl0 := hl.below hB0
  have hf := few_ok _ l W0 hl0
  have z2 := b2.cell 0
  have z3 := b3.cell 0
  have z4 := b4.cell 0
  have f4 := b4.frozen 0
  simp at z2 z3 z4
  have hB1 : RowKit.Below W0.heap.size W0 (W0.alloc (.cells #[.slice none 0 0] 24)) := (RowKit.Below.refl _ W0).alloc (Nat.le_refl _) _
  have z2a : (W0.alloc (.cells #[.slice none 0 0] 24)).cell? ⟨g2, 0, none⟩ = some (.slice A l.length c) := (cell_same (hB1.block _ b2.lt)).trans z2
  refine calls_of_wp_marks 5 Try.func5 rfl ?_
  simp only [Try.ntmps5, List.size_toArray, List.length_cons, List.length_nil, Nat.reduceAdd, Nat.reduceSub, Array.replicate_succ, Array.replicate_zero, List.push_toArray, List.append_toArray, List.nil_append, List.cons_append]
  go_upto_region 4 with (go_at_call 14; refine hf.mono ?_; rintro e w1 ⟨⟨b, rfl, hb⟩, rfl⟩; cases b)
  · refine (works_at _).mono ?_
    rintro e w5 ⟨rfl, hb5⟩
    have b4' := b4.keep (hb5.block _ b4.lt)
    have y4 := b4'.cell 0
    have h4 := b4'.frozen 0
    simp at y4
    go_wp2_with fail
    have e4 := (b4'.set 0 (.bool true)).cell 0
    simp at e4
    exact ⟨.bool true, by simp [results, Try.results5, go_sem, e4], rfl, (hB0.trans (hb5.mono hB0.size)).trans (below_set (by omega) _)⟩
  · obtain ⟨h25, h12⟩ := hb trivial
    have hsm : Small l := ⟨by omega, fun x hx => by have := h12 x hx; omega⟩
    have hle : l.length ≤ 1000 := hsm.1
    obtain ⟨g5, hg5⟩ : ∃ g, W0.heap.size = g := ⟨_, rfl⟩
    have b5 : Blk (W0.alloc (.cells #[.slice none 0 0] 24)) g5 24 #[.slice none 0 0] := blk_at _ _ hg5 _ _
    have hl1 := hl0.below hB1
    have hck := refCheck_ok _ l _ hl1
    have HF := Lib.hid b2
    have HG := Lib.hid b3
    have HH := Lib.hid b4
    have H5 := Lib.hid b5
    have HB0 := Lib.hid hB0
    have HB1 := Lib.hid hB1
    have hgl : g2 ≤ g5 := by have := b4.lt; omega
    have HZ : Hid (∀ W', RowKit.Below (W0.alloc (.cells #[.slice none 0 0] 24)).heap.size (W0.alloc (.cells #[.slice none 0 0] 24)) W' →
        PV w g2 g5 (.slice A l.length c) (.slice none 0 0) l [] many W') := Lib.hid (by
      intro W' hb
      have k : ∀ {g t cs}, Blk W0 g t cs → Blk W' g t cs := fun h => (h.alloc _).keep (hb.block _ (h.alloc _).lt)
      exact ⟨(hB0.trans (hB1.mono hB0.size)).trans (hb.mono (Nat.le_trans hB0.size hB1.size)), k b2, k b3, k b4, b5.keep (hb.block _ b5.lt), hl1.below hb, Ints.nil _, by omega, hgl⟩)
    clear HF HG HH H5 HB0 HB1 b2 b3 b4 b5 hB0 hl0 z2 z3 z4 f4 z2a hf hb hW0
    obtain ⟨W1, hW1⟩ : ∃ W1, W0.alloc (.cells #[.slice none 0 0] 24) = W1 := ⟨_, rfl⟩
    rw [hW1] at HZ hB1 hl1 hck ⊢
    rw [hg5]
    clear hB1 hW1
    have HW1 := Lib.hid hg2
    unfold BadPost at hck
    have y0 := (HZ.out W1 (RowKit.Below.refl _ _)).cells.1
    go_upto_if 25 with (go_at_call 16; refine hck.mono ?_; rintro e w2 ⟨rfl, hb2⟩; have hp2 := HZ.out _ hb2; have y2 := hp2.cells.1)
    have HP2 := Lib.hid hp2
    clear hck y0 hb2 hl1 hp2
    go_cut [6, 7] from 19 to 27 (fun _ _ wx => MidP w g2 g5 (.slice A l.length c) l many wx)
    case first =>
      cases hbad : badAt l with
      | some k =>
        have hcE : checkOf l = ((k : Int), 2) := by unfold checkOf; rw [hbad]
        rw [hcE]
        have HBAD := Lib.hid hbad
        clear hcE hbad
        go_wp2_with fail
        go_meet
        exact ⟨none, [], 0, HP2.out, fun ps h => told_none h HBAD.out _, fun ps h => told_none h HBAD.out _⟩
      | none =>
        have hcE : checkOf l = (0, 0) := by unfold checkOf; rw [hbad]
        rw [hcE]
        have HBAD := Lib.hid hbad
        clear hcE hbad
        go_wp2_with (go_at_call 20; refine (refThreads_ok _ l _ HP2.out.hl h25 h12).mono ?_; rintro e w3 ⟨va, ts, rfl, hts, hth, hb3⟩; obtain ⟨A5, c5, rfl, _, _⟩ := hts.form; have k5' := HP2.out.c5.keep (hb3.block _ HP2.out.c5.lt); have y5 := k5'.cell 0; have f5 := k5'.frozen 0; simp at y5)
        go_meet
        have hp3 := HP2.out.below hb3
        exact ⟨A5, ts, c5, ⟨hp3.bl.trans (below_set (Nat.le_trans hp3.lt4 hp3.lt5) _), hp3.c2.far (hp3.c2.ne hp3.c5 (by decide)) _, hp3.c3.far (hp3.c3.ne hp3.c5 (by decide)) _, hp3.c4.far (hp3.c4.ne hp3.c5 (by decide)) _, by simpa using hp3.c5.set 0 (.slice A5 ts.length c5), hl.below (hp3.bl.trans (below_set (Nat.le_trans hp3.lt4 hp3.lt5) _)), hts.far_slice k5' _, hp3.lt4, hp3.lt5⟩, fun ps h => told_pairs (.inl rfl) h HBAD.out hth, fun ps h => told_pairs (.inr rfl) h HBAD.out hth⟩
    case rest =>
      obtain ⟨A5, ts, c5, hPV, hT1, hT2⟩ := hcut
      have HP := Lib.hid hPV
      have HT1 := Lib.hid hT1
      have HT2 := Lib.hid hT2
      clear hPV hT1 hT2 HP2 y2 HZ hl hg2 hg5
      obtain ⟨W4, rfl⟩ : ∃ W, W = wc := ⟨_, rfl⟩
      obtain ⟨y2, _⟩ := HP.out.cells
      go_upto_region 7 with fail
      go_cut [8, 9] from 28 to 31 (fun s8 s9 wx => ToldP w g2 g5 (.slice A l.length c) (.slice A5 ts.length c5) l ts many s8 s9 wx)
      case first =>
        refine exit_drop ?_
        go_region_with (first
          | (go_at_call 21; refine (Waits_ok _ l W4.drew (HP.out.hl.kept (fun p v h => h)) hsm).mono ?_; rintro e w5 ⟨ps1, ht1, B1, v1, rfl, hBs1, htl1, hb5⟩; have hb5' : RowKit.Below W4.heap.size W4 w5 := ⟨hb5.os, hb5.tape, hb5.output, hb5.size, hb5.block⟩; have hP5 := HP.out.below hb5'; obtain ⟨y2', _⟩ := hP5.cells)
          | (go_at_call 22; refine (Went_ok _ l w5 hP5.hl hsm).mono ?_; rintro e w6 ⟨ps2, ht2, B2, v2, rfl, hBs2, htl2, hb6⟩; have hP6 := hP5.below hb6; have htl1' := htl1.below hb6))
        all_goals go_wp2_with fail
        all_goals go_meet
        all_goals exact ⟨B1, v1, ps1, B2, v2, ps2, rfl, rfl, told_len hsm ht1, told_len hsm ht2, Lib.hid ⟨⟨hP6, htl1', htl2⟩, HT1.out _ ht1, HT2.out _ ht2⟩⟩
      case rest =>
        obtain ⟨B1, v1, ps1, B2, v2, ps2, rfl, rfl, hps1, hps2, HTS⟩ := hcut
        obtain ⟨W0, hW0⟩ : ∃ W, W = wc := ⟨_, rfl⟩
        rw [← hW0] at HTS ⊢
        clear hW0 wc
        obtain ⟨z2, z3, z4, f4, z5⟩ := HTS.out.1.pv.cells
        have HP1 := Lib.hid HTS.out.2.1
        have HP2 := Lib.hid HTS.out.2.2
        have HS0 := Lib.hid HTS.out.1
        have HLW := Lib.hid HTS.out.1.pv.bl.size
        clear HTS
        have heq := eql_func
        obtain ⟨M, hM⟩ : ∃ M, max 1 many = M := ⟨_, rfl⟩
        have HM := Lib.hid hM
        clear hM
        go_wp2_with fail
        refine wp_loop_rounds 5 ?_
        rw [rounds_succ]
        go_wp2_with fail
        clear z2 z3 z4 f4 z5
        obtain ⟨gT0, hgT⟩ : ∃ g, W0.heap.size = g := ⟨_, rfl⟩
        obtain ⟨V0, hV⟩ : ∃ V, (W0.alloc (.cells #[.int .i64 0] 3)).alloc (.cells #[.int .i64 0] 3) = V := ⟨_, rfl⟩
        have hb7 : RowKit.Below W0.heap.size W0 V0 := by rw [← hV]; exact ((RowKit.Below.refl _ W0).alloc (Nat.le_refl _) _).alloc (by simp) _
        have hT7 : Blk V0 gT0 3 #[.int .i64 0] := by rw [← hV]; exact (blk_at W0 gT0 hgT 3 _).alloc _
        have hN7 : Blk V0 (gT0 + 1) 3 #[.int .i64 0] := by rw [← hV]; exact blk_at _ (gT0 + 1) (by simp; omega) 3 _
        have hs7 : V0.heap.size = gT0 + 1 + 1 := by rw [← hV]; simp; omega
        have HB0 : Hid (∀ X2, RowKit.Below (gT0 + 1) V0 X2 → TS w g2 g5 (.slice A l.length c) (.slice A5 ts.length c5) l ts many B1 v1 ps1 B2 v2 ps2 X2 ∧ Blk X2 gT0 3 #[.int .i64 0] ∧ RowKit.Below W0.heap.size W0 X2) := Lib.hid (fun X2 hb => ⟨HS0.out.below (hb7.trans (hb.mono (by omega))), hT7.keep (hb.block _ (by omega)), hb7.trans (hb.mono (by omega))⟩)
        have hgl0 : g5 < gT0 := by have := HS0.out.pv.c5.lt; omega
        have HS7 := Lib.hid hs7
        have HG0 := Lib.hid hgT
        have hI0 : RWi (gT0 + 1) V0 many true [] V0 := ⟨RowKit.Below.refl _ _, hN7, fun _ h => absurd rfl h⟩
        rw [hV, hgT]
        clear hT7 hN7 hb7 hV hgT hs7 HS0
        refine wp_range_join 4 2 rfl (enters_of Try.func49 (by kernel_rfl) rfl) (tell2_seqs ps1 B1 v1 hps1) (fun _ => rfl)
          (fun pre W => RWi (gT0 + 1) V0 many true pre W) (fun _ W => RWj (gT0 + 1) V0 (endN true ts.length many) W)
          (fun s X Y row hs hg hr => ⟨ownFrom_below (β := Unit) (by have := HS7.out; omega) (by have := HS7.out; omega) () X Y row hs.bl hg hr, ownFrom_blk (β := Unit) _ _ _ _ () X Y row hs.n hg hr, hs.lim⟩)
          (fun s X Y row hs hg hr => ⟨ownFrom_below (β := Unit) (by have := HS7.out; omega) (by have := HS7.out; omega) () X Y row hs.bl hg hr, ownFrom_blk (β := Unit) _ _ _ _ () X Y row hs.n hg hr⟩)
          (fun pre W' hi => (HB0.out _ hi.bl).1.t1) hI0 (fun _ _ h => h)
          ?round0 (fun W h => h.end_ HP1.out) ?rest0
        case round0 =>
          intro lp pre x rest W1 hsz hx hi
          simp only [encP]
          gi_wp2
          refine ⟨Since.refl _ _, hi, ?_⟩
          rintro X2 ht hi2
          obtain ⟨e1, e2, e3⟩ := HP1.out.at_ hx
          have e4 : pre.length < 1000000 := by have h4 := congrArg List.length hx; simp at h4; omega
          obtain ⟨hS2, hT2, _⟩ := HB0.out _ hi2.bl
          obtain ⟨x2, x3, x4, x5, x6⟩ := hS2.pv.cells
          have hC := refWait_ok x.1 _ l X2 hS2.pv.hl hle
          have e2' : bestTo l x.1 l.length = x.2 := e2.symm
          rw [e2'] at hC
          obtain ⟨ba, oa, rfl, hba, q0⟩ := hS2.pv.ha.at_ e1
          have yT := hT2.cell 0
          have yN := hi2.n.cell 0
          have fN := hi2.n.frozen 0
          simp at yT yN
          have e3I : (pre.length : Int) < (ts.length : Int) := by omega
          have e3N : ¬ (ts.length : Int) ≤ (pre.length : Int) := by omega
          have hp0 : (0 : Int) ≤ (pre.length : Int) := by omega
          have H2 := Lib.hid hi2
          clear e1 e2 e2' hx hi ht hi2 hS2 hT2 hba
          by_cases hmy : many ≤ (pre.length : Int) + 1
          · gi_wp2_with (first | (refine ⟨trivial, (CallsIn.inRound lp (callsIn_wide.2 hC)).mono ?_⟩; rintro e w' ⟨rfl, rfl⟩) | (refine ⟨trivial, ?_⟩))
            have H3 : (((pre ++ [x]).length : Nat) : Int) = (pre.length : Int) + 1 := by simp
            refine ⟨(Since.refl _ _).setCell (by have := HS7.out; show gT0 + 1 < V0.heap.size; omega) _, ?_⟩
            have hlim := H2.out.lim rfl
            have hE : endN true ts.length many = (pre.length : Int) + 1 := by
              unfold endN; simp only [if_true]
              by_cases hp : pre = []
              · subst hp; simp at hmy e3I ⊢; omega
              · have := hlim hp; omega
            exact ⟨rfl, H2.out.bl.trans (below_set (Nat.le_refl _) _), by rw [hE]; exact H2.out.n.set _ _⟩
          · gi_wp2_with (first | (refine ⟨trivial, (CallsIn.inRound lp (callsIn_wide.2 hC)).mono ?_⟩; rintro e w' ⟨rfl, rfl⟩) | (refine ⟨trivial, ?_⟩))
            have H3 : (((pre ++ [x]).length : Nat) : Int) = (pre.length : Int) + 1 := by simp
            exact ⟨(Since.refl _ _).setCell (by have := HS7.out; show gT0 + 1 < V0.heap.size; omega) _, H2.out.bl.trans (below_set (Nat.le_refl _) _), by rw [H3]; exact H2.out.n.set _ _, fun _ _ => by rw [H3]; omega⟩
        case rest0 =>
          rintro D0 pre W1 hD hj hdef
          obtain ⟨hS2, hT2, hbk⟩ := HB0.out _ hj.bl
          obtain ⟨z2, z3, z4, f4, z5⟩ := hS2.pv.cells
          have zT := hT2.cell 0
          have zN := hj.n.cell 0
          simp at zT zN
          have hsz : gT0 + 1 < W1.heap.size := hj.n.lt
          have HS1 := Lib.hid hS2
          have hlt0 : D0 < W1.heap.size := (Array.getElem?_eq_some_iff.1 hdef).1
          have hge0 : W0.heap.size ≤ D0 := by have := HS7.out; have := HG0.out; omega
          have HE0 := Lib.hid (And.intro hdef hlt0)
          have HL0 := Lib.hid (And.intro hge0 hlt0)
          clear hj hS2 hT2 hdef hD HS7 HB0 hI0 hlt0 hge0 hbk HG0
          obtain ⟨N, hN⟩ : ∃ N, endN true ts.length many = N := ⟨_, rfl⟩
          rw [hN] at zN
          have hmx : ∀ ats ty w, Sem.run Try.prog (Builtin.max_ ats ty #[.int .i64 1, .int .i64 many]) w = .ok (.int .i64 M) w := fun ats ty w => by rw [← HM.out]; exact run_max ats ty 1 many w
          have hmn : ∀ ats ty w, Sem.run Try.prog (Builtin.min_ ats ty #[.int .i64 (ts.length : Int), .int .i64 M]) w = .ok (.int .i64 N) w := fun ats ty w => by rw [← hN, ← HM.out]; exact run_min ats ty _ _ w
          have hNN : (N != N) = false := by simp
          clear hN
          go_upto_region 26 with fail
          clear hmx hmn hNN zN
          go_wp2_with fail
          rw [rounds_succ]
          go_wp2_with fail
          clear z2 z3 z4 f4 z5 zT
          obtain ⟨gT1, hgT⟩ : ∃ g, W1.heap.size = g := ⟨_, rfl⟩
          obtain ⟨V1, hV⟩ : ∃ V, (W1.alloc (.cells #[.int .i64 1] 3)).alloc (.cells #[.int .i64 0] 3) = V := ⟨_, rfl⟩
          have hb7 : RowKit.Below W1.heap.size W1 V1 := by rw [← hV]; exact ((RowKit.Below.refl _ W1).alloc (Nat.le_refl _) _).alloc (by simp) _
          have hT7 : Blk V1 gT1 3 #[.int .i64 1] := by rw [← hV]; exact (blk_at W1 gT1 hgT 3 _).alloc _
          have hN7 : Blk V1 (gT1 + 1) 3 #[.int .i64 0] := by rw [← hV]; exact blk_at _ (gT1 + 1) (by simp; omega) 3 _
          have hs7 : V1.heap.size = gT1 + 1 + 1 := by rw [← hV]; simp; omega
          have HB1 : Hid (∀ X2, RowKit.Below (gT1 + 1) V1 X2 → TS w g2 g5 (.slice A l.length c) (.slice A5 ts.length c5) l ts many B1 v1 ps1 B2 v2 ps2 X2 ∧ Blk X2 gT1 3 #[.int .i64 1] ∧ RowKit.Below W1.heap.size W1 X2) := Lib.hid (fun X2 hb => ⟨HS1.out.below (hb7.trans (hb.mono (by omega))), hT7.keep (hb.block _ (by omega)), hb7.trans (hb.mono (by omega))⟩)
          have hgl1 : g5 < gT1 := by have := HS1.out.pv.c5.lt; omega
          have HS7 := Lib.hid hs7
          have HG1 := Lib.hid hgT
          have hI0 : RWi (gT1 + 1) V1 many true [] V1 := ⟨RowKit.Below.refl _ _, hN7, fun _ h => absurd rfl h⟩
          rw [hV, hgT]
          clear hT7 hN7 hb7 hV hgT hs7 HS1
          refine wp_range_join 4 2 rfl (enters_of Try.func49 (by kernel_rfl) rfl) (tell2_seqs ps2 B2 v2 hps2) (fun _ => rfl)
            (fun pre W => RWi (gT1 + 1) V1 many true pre W) (fun _ W => RWj (gT1 + 1) V1 (endN true ts.length many) W)
            (fun s X Y row hs hg hr => ⟨ownFrom_below (β := Unit) (by have := HS7.out; omega) (by have := HS7.out; omega) () X Y row hs.bl hg hr, ownFrom_blk (β := Unit) _ _ _ _ () X Y row hs.n hg hr, hs.lim⟩)
            (fun s X Y row hs hg hr => ⟨ownFrom_below (β := Unit) (by have := HS7.out; omega) (by have := HS7.out; omega) () X Y row hs.bl hg hr, ownFrom_blk (β := Unit) _ _ _ _ () X Y row hs.n hg hr⟩)
            (fun pre W' hi => (HB1.out _ hi.bl).1.t2) hI0 (fun _ _ h => h)
            ?round1 (fun W h => h.end_ HP2.out) ?rest1
          case round1 =>
            intro lp pre x rest W1 hsz hx hi
            simp only [encP]
            gi_wp2
            refine ⟨Since.refl _ _, hi, ?_⟩
            rintro X2 ht hi2
            obtain ⟨e1, e2, e3⟩ := HP2.out.at_ hx
            have e4 : pre.length < 1000000 := by have h4 := congrArg List.length hx; simp at h4; omega
            obtain ⟨hS2, hT2, _⟩ := HB1.out _ hi2.bl
            obtain ⟨x2, x3, x4, x5, x6⟩ := hS2.pv.cells
            have hC := refWent_ok x.1 _ l X2 hS2.pv.hl hle
            have e2' : wentTo l x.1 l.length = x.2 := e2.symm
            rw [e2'] at hC
            obtain ⟨ba, oa, rfl, hba, q0⟩ := hS2.pv.ha.at_ e1
            have yT := hT2.cell 0
            have yN := hi2.n.cell 0
            have fN := hi2.n.frozen 0
            simp at yT yN
            have e3I : (pre.length : Int) < (ts.length : Int) := by omega
            have e3N : ¬ (ts.length : Int) ≤ (pre.length : Int) := by omega
            have hp0 : (0 : Int) ≤ (pre.length : Int) := by omega
            have H2 := Lib.hid hi2
            clear e1 e2 e2' hx hi ht hi2 hS2 hT2 hba
            by_cases hmy : many ≤ (pre.length : Int) + 1
            · gi_wp2_with (first | (refine ⟨trivial, (CallsIn.inRound lp (callsIn_wide.2 hC)).mono ?_⟩; rintro e w' ⟨rfl, rfl⟩) | (refine ⟨trivial, ?_⟩))
              have H3 : (((pre ++ [x]).length : Nat) : Int) = (pre.length : Int) + 1 := by simp
              refine ⟨(Since.refl _ _).setCell (by have := HS7.out; show gT1 + 1 < V1.heap.size; omega) _, ?_⟩
              have hlim := H2.out.lim rfl
              have hE : endN true ts.length many = (pre.length : Int) + 1 := by
                unfold endN; simp only [if_true]
                by_cases hp : pre = []
                · subst hp; simp at hmy e3I ⊢; omega
                · have := hlim hp; omega
              exact ⟨rfl, H2.out.bl.trans (below_set (Nat.le_refl _) _), by rw [hE]; exact H2.out.n.set _ _⟩
            · gi_wp2_with (first | (refine ⟨trivial, (CallsIn.inRound lp (callsIn_wide.2 hC)).mono ?_⟩; rintro e w' ⟨rfl, rfl⟩) | (refine ⟨trivial, ?_⟩))
              have H3 : (((pre ++ [x]).length : Nat) : Int) = (pre.length : Int) + 1 := by simp
              exact ⟨(Since.refl _ _).setCell (by have := HS7.out; show gT1 + 1 < V1.heap.size; omega) _, H2.out.bl.trans (below_set (Nat.le_refl _) _), by rw [H3]; exact H2.out.n.set _ _, fun _ _ => by rw [H3]; omega⟩
          case rest1 =>
            rintro D1 pre W2 hD hj hdef
            obtain ⟨hS2, hT2, hbk⟩ := HB1.out _ hj.bl
            obtain ⟨z2, z3, z4, f4, z5⟩ := hS2.pv.cells
            have zT := hT2.cell 0
            have zN := hj.n.cell 0
            simp at zT zN
            have hsz : gT1 + 1 < W2.heap.size := hj.n.lt
            have HS2 := Lib.hid hS2
            have hlt1 : D1 < W2.heap.size := (Array.getElem?_eq_some_iff.1 hdef).1
            have hge1 : W1.heap.size ≤ D1 := by have := HS7.out; have := HG1.out; omega
            have hm0 := (hbk.block D0 HE0.out.2).trans HE0.out.1
            clear HE0
            have HE0 := Lib.hid (And.intro hm0 (Array.getElem?_eq_some_iff.1 hm0).1)
            have HE1 := Lib.hid (And.intro hdef hlt1)
            clear hm0
            have HL1 := Lib.hid (And.intro hge1 hlt1)
            clear hj hS2 hT2 hdef hD HS7 HB1 hI0 hlt1 hge1 hbk HG1
            obtain ⟨N, hN⟩ : ∃ N, endN true ts.length many = N := ⟨_, rfl⟩
            rw [hN] at zN
            have hmx : ∀ ats ty w, Sem.run Try.prog (Builtin.max_ ats ty #[.int .i64 1, .int .i64 many]) w = .ok (.int .i64 M) w := fun ats ty w => by rw [← HM.out]; exact run_max ats ty 1 many w
            have hmn : ∀ ats ty w, Sem.run Try.prog (Builtin.min_ ats ty #[.int .i64 (ts.length : Int), .int .i64 M]) w = .ok (.int .i64 N) w := fun ats ty w => by rw [← hN, ← HM.out]; exact run_min ats ty _ _ w
            have hNN : (N != N) = false := by simp
            clear hN
            go_upto_region 26 with fail
            clear hmx hmn hNN zN
            go_wp2_with fail
            rw [rounds_succ]
            go_wp2_with fail
            clear z2 z3 z4 f4 z5 zT
            obtain ⟨gT2, hgT⟩ : ∃ g, W2.heap.size = g := ⟨_, rfl⟩
            obtain ⟨V2, hV⟩ : ∃ V, (W2.alloc (.cells #[.int .i64 2] 3)).alloc (.cells #[.int .i64 0] 3) = V := ⟨_, rfl⟩
            have hb7 : RowKit.Below W2.heap.size W2 V2 := by rw [← hV]; exact ((RowKit.Below.refl _ W2).alloc (Nat.le_refl _) _).alloc (by simp) _
            have hT7 : Blk V2 gT2 3 #[.int .i64 2] := by rw [← hV]; exact (blk_at W2 gT2 hgT 3 _).alloc _
            have hN7 : Blk V2 (gT2 + 1) 3 #[.int .i64 0] := by rw [← hV]; exact blk_at _ (gT2 + 1) (by simp; omega) 3 _
            have hs7 : V2.heap.size = gT2 + 1 + 1 := by rw [← hV]; simp; omega
            have HB2 : Hid (∀ X2, RowKit.Below (gT2 + 1) V2 X2 → TS w g2 g5 (.slice A l.length c) (.slice A5 ts.length c5) l ts many B1 v1 ps1 B2 v2 ps2 X2 ∧ Blk X2 gT2 3 #[.int .i64 2] ∧ RowKit.Below W2.heap.size W2 X2) := Lib.hid (fun X2 hb => ⟨HS2.out.below (hb7.trans (hb.mono (by omega))), hT7.keep (hb.block _ (by omega)), hb7.trans (hb.mono (by omega))⟩)
            have hgl2 : g5 < gT2 := by have := HS2.out.pv.c5.lt; omega
            have HS7 := Lib.hid hs7
            have HG2 := Lib.hid hgT
            have hI0 : RWi (gT2 + 1) V2 many false [] V2 := ⟨RowKit.Below.refl _ _, hN7, fun _ h => absurd rfl h⟩
            rw [hV, hgT]
            clear hT7 hN7 hb7 hV hgT hs7 HS2
            refine wp_range_join 4 2 rfl (enters_of Try.func49 (by kernel_rfl) rfl) (tell2_seqs ps1 B1 v1 hps1) (fun _ => rfl)
              (fun pre W => RWi (gT2 + 1) V2 many false pre W) (fun _ W => RWj (gT2 + 1) V2 (endN false ts.length many) W)
              (fun s X Y row hs hg hr => ⟨ownFrom_below (β := Unit) (by have := HS7.out; omega) (by have := HS7.out; omega) () X Y row hs.bl hg hr, ownFrom_blk (β := Unit) _ _ _ _ () X Y row hs.n hg hr, hs.lim⟩)
              (fun s X Y row hs hg hr => ⟨ownFrom_below (β := Unit) (by have := HS7.out; omega) (by have := HS7.out; omega) () X Y row hs.bl hg hr, ownFrom_blk (β := Unit) _ _ _ _ () X Y row hs.n hg hr⟩)
              (fun pre W' hi => (HB2.out _ hi.bl).1.t1) hI0 (fun _ _ h => h)
              ?round2 (fun W h => h.end_ HP1.out) ?rest2
            case round2 =>
              intro lp pre x rest W1 hsz hx hi
              simp only [encP]
              gi_wp2
              refine ⟨Since.refl _ _, hi, ?_⟩
              rintro X2 ht hi2
              obtain ⟨e1, e2, e3⟩ := HP1.out.at_ hx
              have e4 : pre.length < 1000000 := by have h4 := congrArg List.length hx; simp at h4; omega
              obtain ⟨hS2, hT2, _⟩ := HB2.out _ hi2.bl
              obtain ⟨x2, x3, x4, x5, x6⟩ := hS2.pv.cells
              have hC := refWait_ok x.1 _ l X2 hS2.pv.hl hle
              have e2' : bestTo l x.1 l.length = x.2 := e2.symm
              rw [e2'] at hC
              obtain ⟨ba, oa, rfl, hba, q0⟩ := hS2.pv.ha.at_ e1
              have yT := hT2.cell 0
              have yN := hi2.n.cell 0
              have fN := hi2.n.frozen 0
              simp at yT yN
              have e3I : (pre.length : Int) < (ts.length : Int) := by omega
              have e3N : ¬ (ts.length : Int) ≤ (pre.length : Int) := by omega
              have hp0 : (0 : Int) ≤ (pre.length : Int) := by omega
              have H2 := Lib.hid hi2
              clear e1 e2 e2' hx hi ht hi2 hS2 hT2 hba
              gi_wp2_with (first | (refine ⟨trivial, (CallsIn.inRound lp (callsIn_wide.2 hC)).mono ?_⟩; rintro e w' ⟨rfl, rfl⟩) | (refine ⟨trivial, ?_⟩))
              have H3 : (((pre ++ [x]).length : Nat) : Int) = (pre.length : Int) + 1 := by simp
              exact ⟨(Since.refl _ _).setCell (by have := HS7.out; show gT2 + 1 < V2.heap.size; omega) _, H2.out.bl.trans (below_set (Nat.le_refl _) _), by rw [H3]; exact H2.out.n.set _ _, fun h => by cases h⟩
            case rest2 =>
              rintro D2 pre W3 hD hj hdef
              obtain ⟨hS2, hT2, hbk⟩ := HB2.out _ hj.bl
              obtain ⟨z2, z3, z4, f4, z5⟩ := hS2.pv.cells
              have zT := hT2.cell 0
              have zN := hj.n.cell 0
              simp at zT zN
              have hsz : gT2 + 1 < W3.heap.size := hj.n.lt
              have HS3 := Lib.hid hS2
              have hlt2 : D2 < W3.heap.size := (Array.getElem?_eq_some_iff.1 hdef).1
              have hge2 : W2.heap.size ≤ D2 := by have := HS7.out; have := HG2.out; omega
              have hm0 := (hbk.block D0 HE0.out.2).trans HE0.out.1
              have hm1 := (hbk.block D1 HE1.out.2).trans HE1.out.1
              clear HE0 HE1
              have HE0 := Lib.hid (And.intro hm0 (Array.getElem?_eq_some_iff.1 hm0).1)
              have HE1 := Lib.hid (And.intro hm1 (Array.getElem?_eq_some_iff.1 hm1).1)
              have HE2 := Lib.hid (And.intro hdef hlt2)
              clear hm0 hm1
              have HL2 := Lib.hid (And.intro hge2 hlt2)
              clear hj hS2 hT2 hdef hD HS7 HB2 hI0 hlt2 hge2 hbk HG2
              rw [show endN false ts.length many = (ts.length : Int) from rfl] at zN
              have hNN : ((ts.length : Int) != (ts.length : Int)) = false := by simp
              go_upto_region 26 with fail
              clear hNN zN
              go_wp2_with fail
              rw [rounds_succ]
              go_wp2_with fail
              clear z2 z3 z4 f4 z5 zT
              obtain ⟨gT3, hgT⟩ : ∃ g, W3.heap.size = g := ⟨_, rfl⟩
              obtain ⟨V3, hV⟩ : ∃ V, (W3.alloc (.cells #[.int .i64 3] 3)).alloc (.cells #[.int .i64 0] 3) = V := ⟨_, rfl⟩
              have hb7 : RowKit.Below W3.heap.size W3 V3 := by rw [← hV]; exact ((RowKit.Below.refl _ W3).alloc (Nat.le_refl _) _).alloc (by simp) _
              have hT7 : Blk V3 gT3 3 #[.int .i64 3] := by rw [← hV]; exact (blk_at W3 gT3 hgT 3 _).alloc _
              have hN7 : Blk V3 (gT3 + 1) 3 #[.int .i64 0] := by rw [← hV]; exact blk_at _ (gT3 + 1) (by simp; omega) 3 _
              have hs7 : V3.heap.size = gT3 + 1 + 1 := by rw [← hV]; simp; omega
              have HB3 : Hid (∀ X2, RowKit.Below (gT3 + 1) V3 X2 → TS w g2 g5 (.slice A l.length c) (.slice A5 ts.length c5) l ts many B1 v1 ps1 B2 v2 ps2 X2 ∧ Blk X2 gT3 3 #[.int .i64 3] ∧ RowKit.Below W3.heap.size W3 X2) := Lib.hid (fun X2 hb => ⟨HS3.out.below (hb7.trans (hb.mono (by omega))), hT7.keep (hb.block _ (by omega)), hb7.trans (hb.mono (by omega))⟩)
              have hgl3 : g5 < gT3 := by have := HS3.out.pv.c5.lt; omega
              have HS7 := Lib.hid hs7
              have HG3 := Lib.hid hgT
              have hI0 : RWi (gT3 + 1) V3 many false [] V3 := ⟨RowKit.Below.refl _ _, hN7, fun _ h => absurd rfl h⟩
              rw [hV, hgT]
              clear hT7 hN7 hb7 hV hgT hs7 HS3
              refine wp_range_join 4 2 rfl (enters_of Try.func49 (by kernel_rfl) rfl) (tell2_seqs ps2 B2 v2 hps2) (fun _ => rfl)
                (fun pre W => RWi (gT3 + 1) V3 many false pre W) (fun _ W => RWj (gT3 + 1) V3 (endN false ts.length many) W)
                (fun s X Y row hs hg hr => ⟨ownFrom_below (β := Unit) (by have := HS7.out; omega) (by have := HS7.out; omega) () X Y row hs.bl hg hr, ownFrom_blk (β := Unit) _ _ _ _ () X Y row hs.n hg hr, hs.lim⟩)
                (fun s X Y row hs hg hr => ⟨ownFrom_below (β := Unit) (by have := HS7.out; omega) (by have := HS7.out; omega) () X Y row hs.bl hg hr, ownFrom_blk (β := Unit) _ _ _ _ () X Y row hs.n hg hr⟩)
                (fun pre W' hi => (HB3.out _ hi.bl).1.t2) hI0 (fun _ _ h => h)
                ?round3 (fun W h => h.end_ HP2.out) ?rest3
              case round3 =>
                intro lp pre x rest W1 hsz hx hi
                simp only [encP]
                gi_wp2
                refine ⟨Since.refl _ _, hi, ?_⟩
                rintro X2 ht hi2
                obtain ⟨e1, e2, e3⟩ := HP2.out.at_ hx
                have e4 : pre.length < 1000000 := by have h4 := congrArg List.length hx; simp at h4; omega
                obtain ⟨hS2, hT2, _⟩ := HB3.out _ hi2.bl
                obtain ⟨x2, x3, x4, x5, x6⟩ := hS2.pv.cells
                have hC := refWent_ok x.1 _ l X2 hS2.pv.hl hle
                have e2' : wentTo l x.1 l.length = x.2 := e2.symm
                rw [e2'] at hC
                obtain ⟨ba, oa, rfl, hba, q0⟩ := hS2.pv.ha.at_ e1
                have yT := hT2.cell 0
                have yN := hi2.n.cell 0
                have fN := hi2.n.frozen 0
                simp at yT yN
                have e3I : (pre.length : Int) < (ts.length : Int) := by omega
                have e3N : ¬ (ts.length : Int) ≤ (pre.length : Int) := by omega
                have hp0 : (0 : Int) ≤ (pre.length : Int) := by omega
                have H2 := Lib.hid hi2
                clear e1 e2 e2' hx hi ht hi2 hS2 hT2 hba
                gi_wp2_with (first | (refine ⟨trivial, (CallsIn.inRound lp (callsIn_wide.2 hC)).mono ?_⟩; rintro e w' ⟨rfl, rfl⟩) | (refine ⟨trivial, ?_⟩))
                have H3 : (((pre ++ [x]).length : Nat) : Int) = (pre.length : Int) + 1 := by simp
                exact ⟨(Since.refl _ _).setCell (by have := HS7.out; show gT3 + 1 < V3.heap.size; omega) _, H2.out.bl.trans (below_set (Nat.le_refl _) _), by rw [H3]; exact H2.out.n.set _ _, fun h => by cases h⟩
              case rest3 =>
                rintro D3 pre W4 hD hj hdef
                obtain ⟨hS2, hT2, hbk⟩ := HB3.out _ hj.bl
                obtain ⟨z2, z3, z4, f4, z5⟩ := hS2.pv.cells
                have zT := hT2.cell 0
                have zN := hj.n.cell 0
                simp at zT zN
                have hsz : gT3 + 1 < W4.heap.size := hj.n.lt
                have HS4 := Lib.hid hS2
                have hlt3 : D3 < W4.heap.size := (Array.getElem?_eq_some_iff.1 hdef).1
                have hge3 : W3.heap.size ≤ D3 := by have := HS7.out; have := HG3.out; omega
                have hm0 := (hbk.block D0 HE0.out.2).trans HE0.out.1
                have hm1 := (hbk.block D1 HE1.out.2).trans HE1.out.1
                have hm2 := (hbk.block D2 HE2.out.2).trans HE2.out.1
                clear HE0 HE1 HE2
                have HE0 := Lib.hid (And.intro hm0 (Array.getElem?_eq_some_iff.1 hm0).1)
                have HE1 := Lib.hid (And.intro hm1 (Array.getElem?_eq_some_iff.1 hm1).1)
                have HE2 := Lib.hid (And.intro hm2 (Array.getElem?_eq_some_iff.1 hm2).1)
                have HE3 := Lib.hid (And.intro hdef hlt3)
                clear hm0 hm1 hm2
                have HL3 := Lib.hid (And.intro hge3 hlt3)
                clear hj hS2 hT2 hdef hD HS7 HB3 hI0 hlt3 hge3 hbk HG3
                rw [show endN false ts.length many = (ts.length : Int) from rfl] at zN
                have hNN : ((ts.length : Int) != (ts.length : Int)) = false := by simp
                go_upto_region 26 with fail
                clear hNN zN
                go_wp2_with fail
                have hE0 := HE0.out.1
                have hE1 := HE1.out.1
                have hE2 := HE2.out.1
                have hE3 := HE3.out.1
                have hnd : [D3, D2, D1, D0].Nodup := by
                  have a0 := HL0.out
                  have a1 := HL1.out
                  have a2 := HL2.out
                  have a3 := HL3.out
                  simp
                  omega
                have hgeD : ∀ D ∈ [D3, D2, D1, D0], w.heap.size ≤ D := by
                  have a0 := HL0.out
                  have a1 := HL1.out
                  have a2 := HL2.out
                  have a3 := HL3.out
                  have a4 := HLW.out
                  intro D hD
                  simp at hD
                  omega
                have HND := Lib.hid hnd
                have HGE := Lib.hid hgeD
                clear hnd hgeD HL0 HL1 HL2 HL3 HE0 HE1 HE2 HE3
                rw [rounds_succ]
                have hE0 := Lib.hid hE0
                have hE1 := Lib.hid hE1
                have hE2 := Lib.hid hE2
                have hE3 := Lib.hid hE3
                go_wp2_with (go_at_call 8; refine (works_at _).mono ?_; rintro e w9 ⟨rfl, hb9⟩; have hb9' := ((RowKit.Below.refl _ W4).alloc (Nat.le_refl _) _).trans (hb9.mono (by simp)); have hS9 := HS4.out.below hb9'; have z4' := hS9.pv.cells.2.2.1; have f4' := hS9.pv.cells.2.2.2.1)
                have hdE : ∀ D ∈ [D3, D2, D1, D0], (w9.setCell ⟨g2 + 1 + 1, 0, none⟩ (.bool true)).heap[D]? = some (Obj.deferred (some [])) := by
                  have key : ∀ (D : Nat), W4.heap[D]? = some (Obj.deferred (some [])) → (w9.setCell ⟨g2 + 1 + 1, 0, none⟩ (.bool true)).heap[D]? = some (Obj.deferred (some [])) := fun D hD => by
                    have h9 := (hb9'.block D (Array.getElem?_eq_some_iff.1 hD).1).trans hD
                    exact (Below.heap_setCell _ _ _ _ (fun e => by have h4 := hS9.pv.c4; unfold Blk at h4; simp only at e; rw [← e, h9] at h4; cases h4)).trans h9
                  intro D hD
                  simp at hD
                  rcases hD with rfl | rfl | rfl | rfl
                  · exact key _ hE3.out
                  · exact key _ hE2.out
                  · exact key _ hE1.out
                  · exact key _ hE0.out
                have hb9E : RowKit.Below w.heap.size w (w9.setCell ⟨g2 + 1 + 1, 0, none⟩ (.bool true)) := hS9.pv.bl.trans (below_set (by have := hS9.pv.lt4; have := hS9.pv.bl.size; omega) _)
                have h4E := hS9.pv.c4.set 0 (.bool true)
                refine leaves_marks [D3, D2, D1, D0] _ HND.out hdE (fun w' hm => ?_)
                have h4' := (hm.blk hdE h4E).cell 0
                simp at h4'
                exact ⟨.bool true, by simp [results, Try.results5, go_sem, h4'], rfl, hm.below hb9E HGE.out⟩
end Go.Proofs.Ytchmoalcjbolbaa
