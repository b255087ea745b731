/- demand, of two values. -/
import Derived.Test.YtmfcecfcfihgaaaWd
namespace Go.Proofs.Ytmfcecfcfihgaaa
open Go.RowKit Go.Shelf
attribute [local go_sem] Oper.semAt_some

/-- What demand keeps from its second value on. -/
structure DJ (w : World) (kb D pb : Nat) (cs : Array Value) (W : World) : Prop where
  k : Blk W kb 196 knownCells
  bx : Blk W pb 36 cs
  bl : Below w.heap.size w W
  d : W.heap[D]? = some (.deferred (some []))
theorem DJ.keepB {w W W' : World} {kb D pb : Nat} {cs : Array Value} {B : Nat} (h : DJ w kb D pb cs W) (hk : Keep (fun k => B ≤ k) W W') (hB : w.heap.size ≤ B) (h1 : kb < B) (h2 : pb < B) (h3 : D < B) : DJ w kb D pb cs W' :=
  ⟨h.k.keepB hk h1, h.bx.keepB hk h2, Below.keepB h.bl hk hB (Nat.le_refl _), (hk.block D (Array.getElem?_eq_some_iff.1 h.d).1 (by omega)).trans h.d⟩
theorem DJ.alloc {w W : World} {kb D pb : Nat} {cs : Array Value} (h : DJ w kb D pb cs W) (o : Obj) : DJ w kb D pb cs (W.alloc o) := ⟨h.k.alloc o, h.bx.alloc o, h.bl.alloc h.bl.size o, (Below.heap_alloc _ _ _ (Array.getElem?_eq_some_iff.1 h.d).1).trans h.d⟩
theorem DJ.below {w W W' : World} {kb D pb : Nat} {cs : Array Value} (h : DJ w kb D pb cs W) (hb : Below W.heap.size W W') : DJ w kb D pb cs W' :=
  ⟨h.k.keep (hb.block _ h.k.lt), h.bx.keep (hb.block _ h.bx.lt), h.bl.trans (hb.mono h.bl.size), (hb.block _ (Array.getElem?_eq_some_iff.1 h.d).1).trans h.d⟩
theorem demand_end2 {w W : World} {ok : Bool} {e : Ending} {D D' : Nat} (h : (ok = true ∧ e = .returned (.tuple #[])) ∨ (ok = false ∧ e = .panicked badVal)) (hB : Below w.heap.size w W) (hD : w.heap.size ≤ D) (hD' : D < D') (hd : W.heap[D]? = some (.deferred (some []))) (hdef : W.heap[D']? = some (.deferred (some []))) :
    DPost w ok e ((W.putObj D' (.deferred none)).putObj D (.deferred none)) :=
  ⟨h, (hB.trans (belowK_b (w := w) (Nat.le_refl _) _ _ _ _ (by omega) hdef rfl rfl)).trans (belowK_b (w := w) (Nat.le_refl _) _ _ _ _ hD ((World.putObj_heap_other (by omega)).trans hd) rfl rfl)⟩

set_option maxRecDepth 100000 in
set_option maxHeartbeats 3200000 in
theorem demand2_ok {hi : Nat} {s : Value} {T U : V} (w : World) (h : Ls w 0 hi s [T, U]) (hh : hi ≤ w.heap.size) :
    Calls Try.prog 122 #[s] w (DPost w (rightB T && rightB U)) := by
  obtain ⟨A, c, rfl, hc1, hc2⟩ := h.form
  obtain ⟨b, o, s, rfl, hb, hbh, _, q0, q1, q2, hin⟩ := h.at_ (i := 0) (x := T) rfl
  obtain ⟨X, cx, rfl, hx1, hx2, _⟩ := hin.slice
  obtain ⟨b', o', sy, e, _, _, _, r0, r1, r2, hinU⟩ := h.at_ (i := 1) (x := U) rfl
  obtain ⟨rfl, rfl⟩ : b = b' ∧ o = o' := by
    simp only [Option.some.injEq, Addr.mk.injEq, and_true] at e
    exact e
  obtain ⟨Z, cz, rfl, hz1, hz2, _⟩ := hinU.slice
  simp only [List.length_cons, List.length_nil, Nat.zero_add, Nat.reduceAdd] at hc1 ⊢
  have hcI : (2 : Int) ≤ (c : Int) := by omega
  simp at q0 q1 q2 r0 r1 r2
  have hwkU := walk_any U.k U.n (.slice Z U.l.length cz)
  have hwk := walk_any T.k T.n (.slice X T.l.length cx)
  have key := fun w => run_storeCells_new (P := Try.prog) w 196 #[.nilFunc, .nilFunc, .nilFunc, .nilFunc, .nilFunc, .nilFunc, .nilFunc, .nilFunc, .nilFunc, .nilFunc, .nilFunc, .nilFunc, .nilFunc, .nilFunc, .nilFunc, .nilFunc, .nilFunc, .nilFunc, .nilFunc, .nilFunc, .nilFunc, .nilFunc, .nilFunc, .nilFunc, .nilFunc, .nilFunc, .nilFunc, .nilFunc] knownCells (by kernel_rfl) rfl (by simp [knownCells, Value.oneCell'])
  have hks : knownCells.size = 28 := rfl
  refine calls_of_wp_marks 5 Try.func122 rfl ?_
  simp only [Try.ntmps122, List.size_toArray, List.length_cons, List.length_nil, Nat.reduceAdd, Nat.reduceSub, Array.replicate_succ, Array.replicate_zero, List.push_toArray, List.append_toArray, List.nil_append, List.cons_append]
  go_wp2_with (go_at_call 160; refine (shapes_ok _).mono ?_; rintro e w1 ⟨rfl, hb1⟩; unfold knownShapes)
  clear key
  refine wp_loop_rounds 3 ?_
  rw [rounds_succ]
  have p0 := (cell_same (p := ⟨b, o, none⟩) (hb1.block b hb)).trans q0
  have p1 := (cell_same (p := ⟨b, o + 1, none⟩) (hb1.block b hb)).trans q1
  have p2 := (cell_same (p := ⟨b, o + 2, none⟩) (hb1.block b hb)).trans q2
  have hblt : b < w1.heap.size := Nat.lt_of_lt_of_le hb hb1.size
  go_wp2_with (go_at_call 84; refine (hwk _).mono ?_; rintro e w' ⟨rfl, rfl⟩)
  obtain ⟨cs, hcs⟩ : ∃ cs : Array Value, #[.int .i64 T.k, .int .i64 T.n, .slice X T.l.length cx] = cs := ⟨_, rfl⟩
  obtain ⟨W0, hW0⟩ : ∃ W0, ((w1.alloc (.cells knownCells 196)).alloc (.cells #[.int .i64 T.k, .int .i64 T.n, .slice X T.l.length cx] 36)).alloc (.cells #[.int .i64 T.k, .int .i64 T.n, .slice X T.l.length cx] 36) = W0 := ⟨_, rfl⟩
  obtain ⟨kb, hkb⟩ : ∃ kb, w1.heap.size = kb := ⟨_, rfl⟩
  have hsz : W0.heap.size = kb + 3 := by rw [← hW0, ← hkb]; simp
  have hws := hb1.size
  rw [hkb] at hws
  have hdi : DI w kb (kb + 1 + 1) cs W0 := by
    rw [← hW0, hcs, ← hkb]
    refine ⟨((Blk.new w1 _ _).alloc _).alloc _, ?_, hb1.trans ((below3 w1 _ _ _).mono hb1.size)⟩
    have := Blk.new ((w1.alloc (.cells knownCells 196)).alloc (.cells cs 36)) 36 cs
    rwa [World.size_alloc, World.size_alloc] at this
  rw [hW0, hkb]
  refine wp_rangeP 4 rfl (enters_of Try.func141 (by kernel_rfl) rfl) (walk1_seqs T w hi (kb + 1 + 1) _ hin) (fun W i x xa hx => by obtain ⟨s, rfl, _⟩ := hx; rfl)
    (fun pre W => DI w kb (kb + 1 + 1) cs W ∧ Fine pre)
    (fun cd pre W => False)
    (fun ch W => Below w.heap.size w W ∧ ch = badVal ∧ rightB T = false)
    (fun s X Y hs hk => ⟨hs.1.keepB hk (by omega) (by omega) (by omega), hs.2⟩)
    (fun cd s X Y hs hk => hs.elim)
    (fun pre W' hi' => ⟨hi'.1.bl.mono hh, by rw [hcs]; exact hi'.1.bx, by have := hi'.2.1; omega⟩)
    ⟨hdi, fine_nil⟩ ?round ?done ?panic ?stop
  case round =>
    intro l' pre x rest W1 xa hsz1 hx hi' hxa
    obtain ⟨sx, rfl, hinx⟩ := hxa
    have hlen := hi'.2.1
    have hlenI : (pre.length : Int) ≤ 256 := by omega
    have hbox : Blk (W1.alloc (.cells #[.int .i64 x.2.k, .int .i64 x.2.n, sx, .int .i64 (x.1 : Int)] 118)) W1.heap.size 118 #[.int .i64 x.2.k, .int .i64 x.2.n, sx, .int .i64 (x.1 : Int)] := Blk.new _ _ _
    obtain ⟨Y, cy, rfl, _⟩ := hinx.slice
    clear hdi hW0 hcs hwk h q0 q1 q2 p0 p1 p2 hb1 hblt hin hinU r0 r1 r2 hwkU
    by_cases hgood : pre.length < 256 ∧ shapeB x.2 = true
    · refine .inl ?_
      have Hn := Lib.hid (fine_next hi'.2 hgood.1 hgood.2)
      have hlI : ¬ (256 : Int) ≤ (pre.length : Int) := by omega
      gi_wp2
      refine ⟨(Since.refl _ _).alloc _, ⟨hi'.1.alloc _, hi'.2⟩, ?_⟩
      rintro W2 ht ⟨i, _⟩
      have hbox2 := ht.blk hbox
      have hb2 := i.bl
      have y0 := hbox2.cell 0
      have y1 := hbox2.cell 1
      have y2 := hbox2.cell 2
      have y3 := hbox2.cell 3
      simp at y0 y1 y2 y3
      have hload := blk_loadCells (P := Try.prog) i.k hks
      simp [go_sem] at hload
      have hfit := fits_ok (x.1 : Int) W2 (hinx.after (hb2.mono hh)) (Nat.le_trans hh hb2.size)
      rw [hgood.2] at hfit
      unfold knownShapes at hfit
      have Hi := Lib.hid i
      clear ht hx i hi' hinx hbox hbox2 hgood
      have hf90 : Fence.wide.fn 161 := trivial
      have hfit := callsIn_wide (n := 4 - 1) |>.2 hfit
      gi_wp2_with (gi_at_call 161; refine (CallsIn.inRound l' hfit).mono ?_; rintro e w' ⟨rfl, hB⟩)
      exact ⟨since_below hB, Hi.out.below hB, Hn.out⟩
    · refine .inr ?_
      have hR : rightB T = false := not_fine hx (by
        by_cases hl : pre.length < 256
        · exact .inr (by
            cases hs : shapeB x.2
            · rfl
            · exact absurd ⟨hl, hs⟩ hgood)
        · exact .inl (by omega))
      have HR := Lib.hid hR
      by_cases hl : pre.length < 256
      · have hs : shapeB x.2 = false := by
          cases hs : shapeB x.2
          · rfl
          · exact absurd ⟨hl, hs⟩ hgood
        have hlI : ¬ (256 : Int) ≤ (pre.length : Int) := by omega
        clear hgood hR
        gi_wp2
        refine ⟨(Since.refl _ _).alloc _, ⟨hi'.1.alloc _, hi'.2⟩, ?_⟩
        rintro W2 ht ⟨i, _⟩
        have hbox2 := ht.blk hbox
        have hb2 := i.bl
        have y0 := hbox2.cell 0
        have y1 := hbox2.cell 1
        have y2 := hbox2.cell 2
        have y3 := hbox2.cell 3
        simp at y0 y1 y2 y3
        have hload := blk_loadCells (P := Try.prog) i.k hks
        simp [go_sem] at hload
        have hfit := fits_ok (x.1 : Int) W2 (hinx.after (hb2.mono hh)) (Nat.le_trans hh hb2.size)
        rw [hs] at hfit
        unfold knownShapes at hfit
        have Hi := Lib.hid i
        clear ht hx i hi' hinx hbox hbox2
        have hf90 : Fence.wide.fn 161 := trivial
        have hfit := callsIn_wide (n := 4 - 1) |>.2 hfit
        refine falls_block (falls_seq ?_)
        gi_wp2_with (gi_at_call 161; refine (CallsIn.inRound l' hfit).mono ?_; rintro e w' ⟨rfl, hB⟩)
        exact falls_cond (t := true) rfl (falls_region rfl (.iface 190 (.int .i64 40)) (.iface 190 (.int .i64 40))
          (fun ro => by rw [Oper.semAt_eq _ _ _ (fun c h => by cases h)]; simp [execOp, go_sem]) rfl rfl (fun _ _ _ => trivial) (fun _ _ _ => trivial)
          (fun ro => by rw [Oper.semAt_eq _ _ _ (fun c h => by cases h)]; simp [execOp, go_sem]) ⟨since_below hB, (Hi.out.below hB).bl, rfl, HR.out⟩)
      · have hlI : (256 : Int) ≤ (pre.length : Int) := by omega
        clear hgood hR
        gi_wp2
        refine ⟨(Since.refl _ _).alloc _, ⟨hi'.1.alloc _, hi'.2⟩, ?_⟩
        rintro W2 ht ⟨i, _⟩
        have Hi := Lib.hid i
        clear ht hx i hi' hinx hbox
        have hf90 : Fence.wide.fn 161 := trivial
        refine falls_block (falls_seq ?_)
        gi_wp2
        exact falls_cond (t := true) rfl (falls_region rfl (.iface 190 (.int .i64 40)) (.iface 190 (.int .i64 40))
          (fun ro => by rw [Oper.semAt_eq _ _ _ (fun c h => by cases h)]; simp [execOp, go_sem]) rfl rfl (fun _ _ _ => trivial) (fun _ _ _ => trivial)
          (fun ro => by rw [Oper.semAt_eq _ _ _ (fun c h => by cases h)]; simp [execOp, go_sem]) ⟨Since.refl _ _, Hi.out.bl, rfl, HR.out⟩)
  case done =>
    rintro D W1 hD ⟨i, hf⟩ hdef
    have hR := fine_all hf
    have HR := Lib.hid hR
    have hbw := i.bl
    have s0 := (cell_same (p := ⟨b, o + 3, none⟩) (hbw.block b hb)).trans r0
    have s1 := (cell_same (p := ⟨b, o + 4, none⟩) (hbw.block b hb)).trans r1
    have s2 := (cell_same (p := ⟨b, o + 5, none⟩) (hbw.block b hb)).trans r2
    have hblt1 : b < W1.heap.size := Nat.lt_of_lt_of_le hb hbw.size
    have hDlt := (Array.getElem?_eq_some_iff.1 hdef).1
    have Hi := Lib.hid i
    clear hR hdi hW0 hcs hwk h q0 q1 q2 p0 p1 p2 hb1 hblt i hf r0 r1 r2
    go_wp2
    rw [rounds_succ]
    go_wp2_with (go_at_call 84; refine (hwkU _).mono ?_; rintro e w' ⟨rfl, rfl⟩)
    obtain ⟨ds, hds⟩ : ∃ ds : Array Value, #[.int .i64 U.k, .int .i64 U.n, .slice Z U.l.length cz] = ds := ⟨_, rfl⟩
    obtain ⟨W4, hW4⟩ : ∃ W4, (W1.alloc (.cells #[.int .i64 U.k, .int .i64 U.n, .slice Z U.l.length cz] 36)).alloc (.cells #[.int .i64 U.k, .int .i64 U.n, .slice Z U.l.length cz] 36) = W4 := ⟨_, rfl⟩
    obtain ⟨gb, hgb⟩ : ∃ gb, W1.heap.size + 1 = gb := ⟨_, rfl⟩
    have hsz4 : W4.heap.size = gb + 1 := by rw [← hW4, ← hgb]; simp
    have hkb1 := Hi.out.k.lt
    have hdi : DJ w kb D gb ds W4 := by
      rw [← hW4, hds, ← hgb]
      refine ⟨(Hi.out.k.alloc _).alloc _, ?_, hbw.trans ((below2 W1 _ _).mono hbw.size), ?_⟩
      · have := Blk.new (W1.alloc (.cells ds 36)) 36 ds
        rwa [World.size_alloc] at this
      · exact (Below.heap_alloc _ _ _ (by simp; omega)).trans ((Below.heap_alloc _ _ _ hDlt).trans hdef)
    rw [hW4, hgb]
    refine wp_rangeP 4 rfl (enters_of Try.func141 (by kernel_rfl) rfl) (walk1_seqs U w hi gb _ hinU) (fun W i x xa hx => by obtain ⟨s, rfl, _⟩ := hx; rfl)
      (fun pre W => DJ w kb D gb ds W ∧ Fine pre)
      (fun cd pre W => False)
      (fun ch W => Below w.heap.size w W ∧ ch = badVal ∧ rightB U = false ∧ W.heap[D]? = some (.deferred (some [])))
      (fun s X Y hs hk => ⟨hs.1.keepB hk (by omega) (by omega) (by omega) (by omega), hs.2⟩)
      (fun cd s X Y hs hk => hs.elim)
      (fun pre W' hi' => ⟨hi'.1.bl.mono hh, by rw [hds]; exact hi'.1.bx, by have := hi'.2.1; omega⟩)
      ⟨hdi, fine_nil⟩ ?round2 ?done2 ?panic2 ?stop2
    case round2 =>
      intro l' pre x rest W1 xa hsz1 hx hi' hxa
      obtain ⟨sx, rfl, hinx⟩ := hxa
      have hlen := hi'.2.1
      have hlenI : (pre.length : Int) ≤ 256 := by omega
      have hbox : Blk (W1.alloc (.cells #[.int .i64 x.2.k, .int .i64 x.2.n, sx, .int .i64 (x.1 : Int)] 118)) W1.heap.size 118 #[.int .i64 x.2.k, .int .i64 x.2.n, sx, .int .i64 (x.1 : Int)] := Blk.new _ _ _
      obtain ⟨Y, cy, rfl, _⟩ := hinx.slice
      clear hdi hW4 hds hwkU hin hinU
      by_cases hgood : pre.length < 256 ∧ shapeB x.2 = true
      · refine .inl ?_
        have Hn := Lib.hid (fine_next hi'.2 hgood.1 hgood.2)
        have hlI : ¬ (256 : Int) ≤ (pre.length : Int) := by omega
        gi_wp2
        refine ⟨(Since.refl _ _).alloc _, ⟨hi'.1.alloc _, hi'.2⟩, ?_⟩
        rintro W2 ht ⟨i, _⟩
        have hbox2 := ht.blk hbox
        have hb2 := i.bl
        have y0 := hbox2.cell 0
        have y1 := hbox2.cell 1
        have y2 := hbox2.cell 2
        have y3 := hbox2.cell 3
        simp at y0 y1 y2 y3
        have hload := blk_loadCells (P := Try.prog) i.k hks
        simp [go_sem] at hload
        have hfit := fits_ok (x.1 : Int) W2 (hinx.after (hb2.mono hh)) (Nat.le_trans hh hb2.size)
        rw [hgood.2] at hfit
        unfold knownShapes at hfit
        have Hi := Lib.hid i
        clear ht hx i hi' hinx hbox hbox2 hgood
        have hf90 : Fence.wide.fn 161 := trivial
        have hfit := callsIn_wide (n := 4 - 1) |>.2 hfit
        gi_wp2_with (gi_at_call 161; refine (CallsIn.inRound l' hfit).mono ?_; rintro e w' ⟨rfl, hB⟩)
        exact ⟨since_below hB, Hi.out.below hB, Hn.out⟩
      · refine .inr ?_
        have hR : rightB U = false := not_fine hx (by
          by_cases hl : pre.length < 256
          · exact .inr (by
              cases hs : shapeB x.2
              · rfl
              · exact absurd ⟨hl, hs⟩ hgood)
          · exact .inl (by omega))
        have HR := Lib.hid hR
        by_cases hl : pre.length < 256
        · have hs : shapeB x.2 = false := by
            cases hs : shapeB x.2
            · rfl
            · exact absurd ⟨hl, hs⟩ hgood
          have hlI : ¬ (256 : Int) ≤ (pre.length : Int) := by omega
          clear hgood hR
          gi_wp2
          refine ⟨(Since.refl _ _).alloc _, ⟨hi'.1.alloc _, hi'.2⟩, ?_⟩
          rintro W2 ht ⟨i, _⟩
          have hbox2 := ht.blk hbox
          have hb2 := i.bl
          have y0 := hbox2.cell 0
          have y1 := hbox2.cell 1
          have y2 := hbox2.cell 2
          have y3 := hbox2.cell 3
          simp at y0 y1 y2 y3
          have hload := blk_loadCells (P := Try.prog) i.k hks
          simp [go_sem] at hload
          have hfit := fits_ok (x.1 : Int) W2 (hinx.after (hb2.mono hh)) (Nat.le_trans hh hb2.size)
          rw [hs] at hfit
          unfold knownShapes at hfit
          have Hi := Lib.hid i
          clear ht hx i hi' hinx hbox hbox2
          have hf90 : Fence.wide.fn 161 := trivial
          have hfit := callsIn_wide (n := 4 - 1) |>.2 hfit
          refine falls_block (falls_seq ?_)
          gi_wp2_with (gi_at_call 161; refine (CallsIn.inRound l' hfit).mono ?_; rintro e w' ⟨rfl, hB⟩)
          exact falls_cond (t := true) rfl (falls_region rfl (.iface 190 (.int .i64 40)) (.iface 190 (.int .i64 40))
            (fun ro => by rw [Oper.semAt_eq _ _ _ (fun c h => by cases h)]; simp [execOp, go_sem]) rfl rfl (fun _ _ _ => trivial) (fun _ _ _ => trivial)
            (fun ro => by rw [Oper.semAt_eq _ _ _ (fun c h => by cases h)]; simp [execOp, go_sem]) ⟨since_below hB, (Hi.out.below hB).bl, rfl, HR.out, (Hi.out.below hB).d⟩)
        · have hlI : (256 : Int) ≤ (pre.length : Int) := by omega
          clear hgood hR
          gi_wp2
          refine ⟨(Since.refl _ _).alloc _, ⟨hi'.1.alloc _, hi'.2⟩, ?_⟩
          rintro W2 ht ⟨i, _⟩
          have Hi := Lib.hid i
          clear ht hx i hi' hinx hbox
          have hf90 : Fence.wide.fn 161 := trivial
          refine falls_block (falls_seq ?_)
          gi_wp2
          exact falls_cond (t := true) rfl (falls_region rfl (.iface 190 (.int .i64 40)) (.iface 190 (.int .i64 40))
            (fun ro => by rw [Oper.semAt_eq _ _ _ (fun c h => by cases h)]; simp [execOp, go_sem]) rfl rfl (fun _ _ _ => trivial) (fun _ _ _ => trivial)
            (fun ro => by rw [Oper.semAt_eq _ _ _ (fun c h => by cases h)]; simp [execOp, go_sem]) ⟨Since.refl _ _, Hi.out.bl, rfl, HR.out, Hi.out.d⟩)
    case done2 =>
      rintro D' W2 hD' ⟨i, hf⟩ hdef'
      have hS := fine_all hf
      have HS := Lib.hid hS
      have Hi := Lib.hid i
      clear hS hdi hW4 hds hwkU hin hinU i hf
      go_wp2
      rw [rounds_succ]
      go_wp2
      refine ⟨by simp, .inl ⟨_, _, rfl, run_takeDeferred hdef', ?_⟩⟩
      refine ⟨by simp, .inl ⟨_, _, rfl, run_takeDeferred ((World.putObj_heap_other (by omega)).trans Hi.out.d), ?_⟩⟩
      refine ⟨_, results_none rfl _ _ _, ?_⟩
      exact demand_end2 (.inl ⟨by rw [HR.out, HS.out]; rfl, rfl⟩) Hi.out.bl (by omega) (by omega) Hi.out.d hdef'
    case panic2 =>
      rintro D' ch W2 hD' ⟨hbl, rfl, hr, hd2⟩ hdef'
      clear hdi hW4 hds hwkU hin hinU
      go_wp2
      refine ⟨by simp, .inl ⟨_, _, rfl, run_takeDeferred hdef', ?_⟩⟩
      refine ⟨by simp, .inl ⟨_, _, rfl, run_takeDeferred ((World.putObj_heap_other (by omega)).trans hd2), ?_⟩⟩
      exact demand_end2 (.inr ⟨by rw [hr]; simp, rfl⟩) hbl (by omega) (by omega) hd2 hdef'
    case stop2 =>
      rintro D' cd pre W2 hD' hpre hf hdef'
      exact hf.elim
  case panic =>
    rintro D ch W1 hD ⟨hbl, rfl, hr⟩ hdef
    clear hdi hW0 hcs hwk h q0 q1 q2 p0 p1 p2 hb1 hblt hin
    go_wp2
    refine ⟨by simp, .inl ⟨_, _, rfl, run_takeDeferred hdef, ?_⟩⟩
    exact demand_end (.inr ⟨by rw [hr]; rfl, rfl⟩) hbl (by omega) hdef
  case stop =>
    rintro D cd pre W1 hD hpre hf hdef
    exact hf.elim
end Go.Proofs.Ytmfcecfcfihgaaa
