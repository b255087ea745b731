/- demand, of one value. -/
import Derived.Test.YtmfcecfcfihgaaaWs
import Derived.Test.YtmfcecfcfihgaaaVg
namespace Go.Proofs.Ytmfcecfcfihgaaa
open Go.RowKit Go.Shelf
attribute [local go_sem] Oper.semAt_some

/-- May a value be? -/
def rightB (T : V) : Bool := decide (T.size ≤ 256) && (V.pre 0 T).all fun p => shapeB p.2
def Fine (pre : List (Nat × V)) : Prop := pre.length ≤ 256 ∧ ∀ p ∈ pre, shapeB p.2 = true
theorem fine_nil : Fine [] := ⟨by simp, by simp⟩
theorem fine_next {pre : List (Nat × V)} {x : Nat × V} (h : Fine pre) (hl : pre.length < 256) (hs : shapeB x.2 = true) : Fine (pre ++ [x]) :=
  ⟨by simp; omega, fun p hp => by
    rcases List.mem_append.1 hp with hp | hp
    · exact h.2 p hp
    · simp at hp; subst hp; exact hs⟩
theorem fine_all {T : V} (h : Fine (V.pre 0 T)) : rightB T = true := by
  unfold rightB
  have h1 : T.size ≤ 256 := h.1
  simp only [h1, decide_true, Bool.true_and, List.all_eq_true]
  exact h.2
theorem not_fine {T : V} {pre rest : List (Nat × V)} {x : Nat × V} (hx : V.pre 0 T = pre ++ x :: rest) (h : 256 ≤ pre.length ∨ shapeB x.2 = false) : rightB T = false := by
  unfold rightB
  rcases h with h | h
  · have : ¬ T.size ≤ 256 := by
      have e : T.size = (V.pre 0 T).length := rfl
      rw [e, hx]; simp; omega
    simp [this]
  · have : ((V.pre 0 T).all fun p => shapeB p.2) = false := by
      rw [List.all_eq_false]
      exact ⟨x, by rw [hx]; simp, by simp [h]⟩
    simp [this]

def badVal : List PanicEntry := [{ v := .iface 190 (.int .i64 40), recovered := false }]

/-- What demand keeps. -/
structure DI (w : World) (kb pb : Nat) (cs : Array Value) (W : World) : Prop where
  k : Blk W kb 196 knownCells
  bx : Blk W pb 36 cs
  bl : Below w.heap.size w W
theorem DI.keepB {w W W' : World} {kb pb : Nat} {cs : Array Value} {B : Nat} (h : DI w kb pb cs W) (hk : Keep (fun k => B ≤ k) W W') (hB : w.heap.size ≤ B) (h1 : kb < B) (h2 : pb < B) : DI w kb pb cs W' :=
  ⟨h.k.keepB hk h1, h.bx.keepB hk h2, Below.keepB h.bl hk hB (Nat.le_refl _)⟩
theorem DI.alloc {w W : World} {kb pb : Nat} {cs : Array Value} (h : DI w kb pb cs W) (o : Obj) : DI w kb pb cs (W.alloc o) := ⟨h.k.alloc o, h.bx.alloc o, h.bl.alloc h.bl.size o⟩
theorem DI.below {w W W' : World} {kb pb : Nat} {cs : Array Value} (h : DI w kb pb cs W) (hb : Below W.heap.size W W') : DI w kb pb cs W' :=
  ⟨h.k.keep (hb.block _ h.k.lt), h.bx.keep (hb.block _ h.bx.lt), h.bl.trans (hb.mono h.bl.size)⟩

/-- How demand ends. -/
def DPost (w : World) (ok : Bool) (e : Ending) (w' : World) : Prop := ((ok = true ∧ e = .returned (.tuple #[])) ∨ (ok = false ∧ e = .panicked badVal)) ∧ Below w.heap.size w w'

theorem blk_loadCells {P : Program} {w : World} {g n : Nat} {t : TypeId} {cs : Array Value} (h : Blk w g t cs) (hn : cs.size = n) : (loadCellsFrom ⟨g, 0, none⟩ 0 n #[]).run P w = .ok cs w := by
  subst hn
  have := run_loadCells_list (P := P) w ⟨g, 0, none⟩ cs.toList (fun j v hv => by
    have hadd : (⟨g, 0, none⟩ : Addr).add j = ⟨g, j, none⟩ := by unfold Addr.add; split <;> simp_all
    rw [hadd, h.cell j]
    simpa using hv)
  simpa [loadCells] using this
theorem Turned.blk {W W' : World} (h : Turned W W') {g : Nat} {t : TypeId} {cs : Array Value} (hb : Blk W g t cs) : Blk W' g t cs := hb.keep (h.at_ hb rfl)

theorem demand_end {w W : World} {ok : Bool} {e : Ending} {D : Nat} (h : (ok = true ∧ e = .returned (.tuple #[])) ∨ (ok = false ∧ e = .panicked badVal)) (hB : Below w.heap.size w W) (hD : w.heap.size ≤ D) (hdef : W.heap[D]? = some (.deferred (some []))) :
    DPost w ok e (W.putObj D (.deferred none)) := ⟨h, hB.trans (belowK_b (w := w) (Nat.le_refl _) _ _ _ _ hD hdef rfl rfl)⟩
theorem since_below {B : Nat} {W W' : World} (h : Below W.heap.size W W') : Since B W W' := ⟨h.size, fun k _ hk => h.block k hk⟩

set_option maxRecDepth 100000 in
set_option maxHeartbeats 3200000 in
theorem demand1_ok {hi : Nat} {s : Value} {T : V} (w : World) (h : Ls w 0 hi s [T]) (hh : hi ≤ w.heap.size) :
    Calls Try.prog 122 #[s] w (DPost w (rightB T)) := by
  obtain ⟨A, c, rfl, hc1, hc2⟩ := h.form
  obtain ⟨b, o, s, rfl, hb, hbh, _, q0, q1, q2, hin⟩ := h.at_ (i := 0) (x := T) rfl
  obtain ⟨X, cx, rfl, hx1, hx2, _⟩ := hin.slice
  simp only [List.length_cons, List.length_nil, Nat.zero_add] at hc1 ⊢
  simp at q0 q1 q2
  have hwk := walk_any T.k T.n (.slice X T.l.length cx)
  have key := fun w => run_storeCells_new (P := Try.prog) w 196 #[.nilFunc, .nilFunc, .nilFunc, .nilFunc, .nilFunc, .nilFunc, .nilFunc, .nilFunc, .nilFunc, .nilFunc, .nilFunc, .nilFunc, .nilFunc, .nilFunc, .nilFunc, .nilFunc, .nilFunc, .nilFunc, .nilFunc, .nilFunc, .nilFunc, .nilFunc, .nilFunc, .nilFunc, .nilFunc, .nilFunc, .nilFunc, .nilFunc] knownCells (by kernel_rfl) rfl (by simp [knownCells, Value.oneCell'])
  have hks : knownCells.size = 28 := rfl
  refine calls_of_wp_marks 5 Try.func122 rfl ?_
  simp only [Try.ntmps122, List.size_toArray, List.length_cons, List.length_nil, Nat.reduceAdd, Nat.reduceSub, Array.replicate_succ, Array.replicate_zero, List.push_toArray, List.append_toArray, List.nil_append, List.cons_append]
  go_wp2_with (go_at_call 160; refine (shapes_ok _).mono ?_; rintro e w1 ⟨rfl, hb1⟩; unfold knownShapes)
  clear key
  refine wp_loop_rounds 2 ?_
  rw [rounds_succ]
  have p0 := (cell_same (p := ⟨b, o, none⟩) (hb1.block b hb)).trans q0
  have p1 := (cell_same (p := ⟨b, o + 1, none⟩) (hb1.block b hb)).trans q1
  have p2 := (cell_same (p := ⟨b, o + 2, none⟩) (hb1.block b hb)).trans q2
  have hblt : b < w1.heap.size := Nat.lt_of_lt_of_le hb hb1.size
  go_wp2_with (go_at_call 84; refine (hwk _).mono ?_; rintro e w' ⟨rfl, rfl⟩)
  obtain ⟨cs, hcs⟩ : ∃ cs : Array Value, #[.int .i64 T.k, .int .i64 T.n, .slice X T.l.length cx] = cs := ⟨_, rfl⟩
  obtain ⟨W0, hW0⟩ : ∃ W0, ((w1.alloc (.cells knownCells 196)).alloc (.cells #[.int .i64 T.k, .int .i64 T.n, .slice X T.l.length cx] 36)).alloc (.cells #[.int .i64 T.k, .int .i64 T.n, .slice X T.l.length cx] 36) = W0 := ⟨_, rfl⟩
  obtain ⟨kb, hkb⟩ : ∃ kb, w1.heap.size = kb := ⟨_, rfl⟩
  have hsz : W0.heap.size = kb + 3 := by rw [← hW0, ← hkb]; simp
  have hws := hb1.size
  rw [hkb] at hws
  have hdi : DI w kb (kb + 1 + 1) cs W0 := by
    rw [← hW0, hcs, ← hkb]
    refine ⟨((Blk.new w1 _ _).alloc _).alloc _, ?_, hb1.trans ((below3 w1 _ _ _).mono hb1.size)⟩
    have := Blk.new ((w1.alloc (.cells knownCells 196)).alloc (.cells cs 36)) 36 cs
    rwa [World.size_alloc, World.size_alloc] at this
  rw [hW0, hkb]
  refine wp_rangeP 4 rfl (enters_of Try.func141 (by kernel_rfl) rfl) (walk1_seqs T w hi (kb + 1 + 1) _ hin) (fun W i x xa hx => by obtain ⟨s, rfl, _⟩ := hx; rfl)
    (fun pre W => DI w kb (kb + 1 + 1) cs W ∧ Fine pre)
    (fun cd pre W => False)
    (fun ch W => Below w.heap.size w W ∧ ch = badVal ∧ rightB T = false)
    (fun s X Y hs hk => ⟨hs.1.keepB hk (by omega) (by omega) (by omega), hs.2⟩)
    (fun cd s X Y hs hk => hs.elim)
    (fun pre W' hi' => ⟨hi'.1.bl.mono hh, by rw [hcs]; exact hi'.1.bx, by have := hi'.2.1; omega⟩)
    ⟨hdi, fine_nil⟩ ?round ?done ?panic ?stop
  case round =>
    intro l' pre x rest W1 xa hsz1 hx hi' hxa
    obtain ⟨sx, rfl, hinx⟩ := hxa
    have hlen := hi'.2.1
    have hlenI : (pre.length : Int) ≤ 256 := by omega
    have hbox : Blk (W1.alloc (.cells #[.int .i64 x.2.k, .int .i64 x.2.n, sx, .int .i64 (x.1 : Int)] 118)) W1.heap.size 118 #[.int .i64 x.2.k, .int .i64 x.2.n, sx, .int .i64 (x.1 : Int)] := Blk.new _ _ _
    obtain ⟨Y, cy, rfl, _⟩ := hinx.slice
    clear hdi hW0 hcs hwk h q0 q1 q2 p0 p1 p2 hb1 hblt hin
    by_cases hgood : pre.length < 256 ∧ shapeB x.2 = true
    · refine .inl ?_
      have Hn := Lib.hid (fine_next hi'.2 hgood.1 hgood.2)
      have hlI : ¬ (256 : Int) ≤ (pre.length : Int) := by omega
      gi_wp2
      refine ⟨(Since.refl _ _).alloc _, ⟨hi'.1.alloc _, hi'.2⟩, ?_⟩
      rintro W2 ht ⟨i, _⟩
      have hbox2 := ht.blk hbox
      have hb2 := i.bl
      have y0 := hbox2.cell 0
      have y1 := hbox2.cell 1
      have y2 := hbox2.cell 2
      have y3 := hbox2.cell 3
      simp at y0 y1 y2 y3
      have hload := blk_loadCells (P := Try.prog) i.k hks
      simp [go_sem] at hload
      have hfit := fits_ok (x.1 : Int) W2 (hinx.after (hb2.mono hh)) (Nat.le_trans hh hb2.size)
      rw [hgood.2] at hfit
      unfold knownShapes at hfit
      have Hi := Lib.hid i
      clear ht hx i hi' hinx hbox hbox2 hgood
      have hf90 : Fence.wide.fn 161 := trivial
      have hfit := callsIn_wide (n := 4 - 1) |>.2 hfit
      gi_wp2_with (gi_at_call 161; refine (CallsIn.inRound l' hfit).mono ?_; rintro e w' ⟨rfl, hB⟩)
      exact ⟨since_below hB, Hi.out.below hB, Hn.out⟩
    · refine .inr ?_
      have hR : rightB T = false := not_fine hx (by
        by_cases hl : pre.length < 256
        · exact .inr (by
            cases hs : shapeB x.2
            · rfl
            · exact absurd ⟨hl, hs⟩ hgood)
        · exact .inl (by omega))
      have HR := Lib.hid hR
      by_cases hl : pre.length < 256
      · have hs : shapeB x.2 = false := by
          cases hs : shapeB x.2
          · rfl
          · exact absurd ⟨hl, hs⟩ hgood
        have hlI : ¬ (256 : Int) ≤ (pre.length : Int) := by omega
        clear hgood hR
        gi_wp2
        refine ⟨(Since.refl _ _).alloc _, ⟨hi'.1.alloc _, hi'.2⟩, ?_⟩
        rintro W2 ht ⟨i, _⟩
        have hbox2 := ht.blk hbox
        have hb2 := i.bl
        have y0 := hbox2.cell 0
        have y1 := hbox2.cell 1
        have y2 := hbox2.cell 2
        have y3 := hbox2.cell 3
        simp at y0 y1 y2 y3
        have hload := blk_loadCells (P := Try.prog) i.k hks
        simp [go_sem] at hload
        have hfit := fits_ok (x.1 : Int) W2 (hinx.after (hb2.mono hh)) (Nat.le_trans hh hb2.size)
        rw [hs] at hfit
        unfold knownShapes at hfit
        have Hi := Lib.hid i
        clear ht hx i hi' hinx hbox hbox2
        have hf90 : Fence.wide.fn 161 := trivial
        have hfit := callsIn_wide (n := 4 - 1) |>.2 hfit
        refine falls_block (falls_seq ?_)
        gi_wp2_with (gi_at_call 161; refine (CallsIn.inRound l' hfit).mono ?_; rintro e w' ⟨rfl, hB⟩)
        exact falls_cond (t := true) rfl (falls_region rfl (.iface 190 (.int .i64 40)) (.iface 190 (.int .i64 40))
          (fun ro => by rw [Oper.semAt_eq _ _ _ (fun c h => by cases h)]; simp [execOp, go_sem]) rfl rfl (fun _ _ _ => trivial) (fun _ _ _ => trivial)
          (fun ro => by rw [Oper.semAt_eq _ _ _ (fun c h => by cases h)]; simp [execOp, go_sem]) ⟨since_below hB, (Hi.out.below hB).bl, rfl, HR.out⟩)
      · have hlI : (256 : Int) ≤ (pre.length : Int) := by omega
        clear hgood hR
        gi_wp2
        refine ⟨(Since.refl _ _).alloc _, ⟨hi'.1.alloc _, hi'.2⟩, ?_⟩
        rintro W2 ht ⟨i, _⟩
        have Hi := Lib.hid i
        clear ht hx i hi' hinx hbox
        have hf90 : Fence.wide.fn 161 := trivial
        refine falls_block (falls_seq ?_)
        gi_wp2
        exact falls_cond (t := true) rfl (falls_region rfl (.iface 190 (.int .i64 40)) (.iface 190 (.int .i64 40))
          (fun ro => by rw [Oper.semAt_eq _ _ _ (fun c h => by cases h)]; simp [execOp, go_sem]) rfl rfl (fun _ _ _ => trivial) (fun _ _ _ => trivial)
          (fun ro => by rw [Oper.semAt_eq _ _ _ (fun c h => by cases h)]; simp [execOp, go_sem]) ⟨Since.refl _ _, Hi.out.bl, rfl, HR.out⟩)
  case done =>
    rintro D W1 hD ⟨i, hf⟩ hdef
    have hR := fine_all hf
    have HR := Lib.hid hR
    have Hi := Lib.hid i
    clear hR hdi hW0 hcs hwk h q0 q1 q2 p0 p1 p2 hb1 hblt hin i hf
    go_wp2
    rw [rounds_succ]
    go_wp2
    refine ⟨by simp, .inl ⟨_, _, rfl, run_takeDeferred hdef, ?_⟩⟩
    refine ⟨_, results_none rfl _ _ _, ?_⟩
    exact demand_end (.inl ⟨HR.out, rfl⟩) Hi.out.bl (by omega) hdef
  case panic =>
    rintro D ch W1 hD ⟨hbl, rfl, hr⟩ hdef
    clear hdi hW0 hcs hwk h q0 q1 q2 p0 p1 p2 hb1 hblt hin
    go_wp2
    refine ⟨by simp, .inl ⟨_, _, rfl, run_takeDeferred hdef, ?_⟩⟩
    exact demand_end (.inr ⟨hr, rfl⟩) hbl (by omega) hdef
  case stop =>
    rintro D cd pre W1 hD hpre hf hdef
    exact hf.elim
end Go.Proofs.Ytmfcecfcfihgaaa
