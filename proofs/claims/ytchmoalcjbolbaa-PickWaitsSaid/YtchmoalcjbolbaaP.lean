/- Waits and Went. -/
import Derived.Test.YtchmoalcjbolbaaO
import Derived.Laws.EntriesVeiled
namespace Go.Proofs.Ytchmoalcjbolbaa
open Go.RowKit Go.Shelf Go.Sort
attribute [local go_sem] Oper.semAt_some

set_option maxRecDepth 100000 in
set_option maxHeartbeats 1600000 in
theorem collect_nil (bx : Nat) (w : World) : Calls Try.prog 47 #[.map none, .func (.func 48) #[] #[.pointer (some ⟨bx, 0, none⟩)]] w fun e w' => e = .returned (.slice none 0 0) ∧ RowKit.Below w.heap.size w w' := by
  refine (callsIn_wide (n := 6)).1 ?_
  have hseq : SeqGives Fence.wide 2 Try.prog 56 #[.pointer (some ⟨w.heap.size, 0, none⟩)] encZ (fun ss : List Int => ss = []) 0 (w.alloc (.cells #[.map none] 66)) :=
    AnyZI.keys_gives_nil (ρ := Try.keysA_ren) { Try.keysA with } Fence.wide _ trivial rfl w.heap.size _ (by simp) (by simp)
  have hsorts : ∀ m, AnyZI.SortsIn Try.prog Try.sortedA_ren Fence.wide m := fun m =>
    ⟨fun blk off cap ss W hH hblk hsz => callsIn_wide.2 (AnyM.slices_Sort_int Try.sortA blk off cap ss W hH hblk hsz),
     fun p cap W => callsIn_wide.2 (AnyM.slices_Sort_int_none Try.sortA p cap W)⟩
  have cK : ∀ mb W, CallsIn Fence.wide 5 Try.prog 52 #[.map mb] W fun e w' => e = .returned (.func (.func 56) #[] #[.pointer (some ⟨W.heap.size, 0, none⟩)]) ∧ w' = W.alloc (.cells #[.map mb] 66) := fun mb W => AnyZI.keys_in Try.keysA Fence.wide 5 trivial rfl mb W
  have cS := AnyZI.sorted_in Try.sortedA Fence.wide 5 trivial trivial trivial trivial rfl (by omega) (hsorts _) (enters_of Try.func55 (by kernel_rfl) rfl) 56 #[.pointer (some ⟨w.heap.size, 0, none⟩)] trivial (enters_of Try.func56 (by kernel_rfl) rfl) _ 0 (Nat.zero_le _) (by omega) _ hseq
  change CallsIn _ _ Try.prog 51 _ _ _ at cS
  have hfK : Fence.wide.fn 52 := trivial
  have hfS : Fence.wide.fn 51 := trivial
  refine callsIn_of_wp Try.func47 rfl trivial ?_ rfl
  simp only [Try.ntmps47, List.size_toArray, List.length_cons, List.length_nil, Nat.reduceAdd, Nat.reduceSub, Array.replicate_succ, Array.replicate_zero, List.push_toArray, List.append_toArray, List.nil_append, List.cons_append]
  gi_wp2_with (first
    | (gi_at_call 52; refine (cK _ _).mono ?_; rintro e w' ⟨rfl, rfl⟩)
    | (gi_at_call 51; refine cS.mono ?_; rintro e w1 ⟨u, ss, rfl, rfl, hrow, hnil, hb1⟩; obtain rfl : u = .slice none 0 0 := hnil.2 rfl))
  refine wpIn_wide.2 ?_
  refine wp_loop_rounds 1 ?_
  rw [rounds_succ]
  go_wp2_with fail
  gi_wp2
  go_ret
  exact ⟨rfl, ((RowKit.Below.refl _ w).alloc (Nat.le_refl _) _).trans (hb1.mono (by simp))⟩

/-- What is told. -/
def encP (x : Int × Nat) : Array Value := #[.int .i64 x.1, .int .i64 (x.2 : Int)]
def cellsP (ps : List (Int × Nat)) : List Value := ps.flatMap fun x => [.int .i64 x.1, .int .i64 (x.2 : Int)]
structure Told (B : Nat) (v : Value) (ps : List (Int × Nat)) (W : World) : Prop where
  box : Blk W B 81 #[v]
  row : Row W 83 2 v ps.length (cellsP ps)
theorem Told.below {B : Nat} {v : Value} {ps : List (Int × Nat)} {W W' : World} (h : Told B v ps W) (hb : RowKit.Below W.heap.size W W') : Told B v ps W' :=
  ⟨h.box.keep (hb.block _ h.box.lt), h.row.keep fun k hk => hb.block _ (h.row.lt k hk)⟩
theorem pairs_cells (p : Nat) (evs : List Ev) (ts : List Int) : pairsOf p evs ts = cellsP (ts.map fun t => (t, cntAt p (cntOf evs t))) := by
  unfold pairsOf cellsP
  rw [List.flatMap_map]
theorem cellsP_get : ∀ (ps : List (Int × Nat)) (i : Nat) (x : Int × Nat), ps[i]? = some x → (cellsP ps)[i * 2]? = some (.int .i64 x.1) ∧ (cellsP ps)[i * 2 + 1]? = some (.int .i64 (x.2 : Int))
  | [], i, x, h => by simp at h
  | y :: r, 0, x, h => by simp at h; subst h; simp [cellsP]
  | y :: r, i + 1, x, h => by
    have ih := cellsP_get r i x (by simpa using h)
    have e : (i + 1) * 2 = i * 2 + 2 := by omega
    unfold cellsP at ih ⊢
    rw [List.flatMap_cons, e]
    exact ⟨by simpa using ih.1, by simpa using ih.2⟩

set_option maxRecDepth 100000 in
set_option maxHeartbeats 1600000 in
theorem tell2_seqs (ps : List (Int × Nat)) (B : Nat) (v : Value) (hle : ps.length ≤ 1000000) : Seqs Try.prog 49 #[.pointer (some ⟨B, 0, none⟩)] encP ps none (Told B v ps) := by
  intro n l J Jx W hJ hJx hS hY h0
  refine callsIn_wide.2 ?_
  have hs := hS _ _ h0
  obtain ⟨A, c, rfl, hc1, hc2⟩ := hs.row.form
  have hleI : (ps.length : Int) ≤ 1000000 := by omega
  have c0 := hs.box.cell 0
  simp at c0
  show Calls Try.prog 49 #[.func (.yield l) #[] #[], .pointer (some ⟨B, 0, none⟩)] W _
  go_enter Try.func49, Try.ntmps49
  go_wp2_with fail
  refine (wpIn_wide (n := 5)).1 ?_
  gi_loopw [7] (fun p wr => ∃ i : Nat, i ≤ ps.length ∧ p = .int .i64 (i : Int) ∧ J (ps.take i) wr) (fun p _ => ps.length - (intOf p).toNat)
  case atStart => exact ⟨0, Nat.zero_le _, rfl, by simpa using h0⟩
  case round =>
    obtain ⟨i, hi, rfl, hJs⟩ := hrel
    have hs := hS _ _ hJs
    have hi0 : (0 : Int) ≤ (i : Int) := by omega
    by_cases hlt : i < ps.length
    · obtain ⟨x, hx⟩ : ∃ x, ps[i]? = some x := ⟨_, List.getElem?_eq_getElem hlt⟩
      obtain ⟨g, cap, cur, hv, hg, _⟩ := hs.row.addr (by omega)
      simp only [Value.slice.injEq, true_and] at hv
      obtain ⟨rfl, rfl⟩ := hv
      obtain ⟨p0, p1⟩ := cellsP_get ps i x hx
      have q0 := (hs.row.cells rfl (i * 2) (by omega)).1.trans p0
      have q1 := (hs.row.cells rfl (i * 2 + 1) (by omega)).1.trans p1
      have hp := parts_at hx
      have hJa := hJ.alloc (.cells #[.int .i64 x.1, .int .i64 (x.2 : Int)] 83) hJs
      obtain ⟨fn, tmps, assign, body, hy, hR⟩ := yield_depth 4 (hY _ x _ _ hp.1 hJa)
      have hlt' : (i : Int) < (ps.length : Int) := by omega
      have Hp := Lib.hid hp
      clear hp hx p0 p1 hg
      simp only [encP] at hy
      gi_wp2
      refine hR.mono ?_
      rintro e W3 (⟨rfl, hJ3, _⟩ | ⟨rfl, hJx3, _⟩)
      · gi_wp2
        go_roundw
        case rel => exact ⟨i + 1, by omega, by go_num, by rw [Hp.out.2]; exact hJ3⟩
        case measure => simp [intOf]; omega
      · gi_wp2
        refine bodyPost_ret (results_none rfl _ _ _) rfl ?_
        first | exact .inl ⟨⟨_, rfl⟩, .inr ⟨_, ⟨_, by rw [List.append_assoc]; exact Hp.out.1.symm⟩, hJx3⟩⟩ | exact ⟨⟨_, rfl⟩, .inr ⟨_, ⟨_, by rw [List.append_assoc]; exact Hp.out.1.symm⟩, hJx3⟩⟩
    · have hltI : ¬ (i : Int) < (ps.length : Int) := by omega
      gi_wp2
      go_end0
      have hie : i = ps.length := by omega
      subst hie
      rw [List.take_of_length_le (by omega)] at hJs
      first | exact .inl ⟨⟨_, rfl⟩, .inl ⟨rfl, hJs⟩⟩ | exact ⟨⟨_, rfl⟩, .inl hJs⟩

def TellPost (w : World) (ps : List (Int × Nat)) (e : Ending) (w' : World) : Prop :=
  ∃ B v, e = .returned (.func (.func 49) #[] #[.pointer (some ⟨B, 0, none⟩)]) ∧ w.heap.size ≤ B ∧ Told B v ps w' ∧ RowKit.Below w.heap.size w w'

set_option maxRecDepth 100000 in
set_option maxHeartbeats 1600000 in
theorem tell_nil (p : Nat) (w : World) : Calls Try.prog 40 #[.map none, .int .i64 (p : Int)] w (TellPost w []) := by
  have hmf : ∀ (fn : Fn) (first cap : Array Value) (w : World), (Instr.makeFunc fn first cap).run Try.prog w = .ok (.func fn first cap) w := fun _ _ _ _ => rfl
  go_enter Try.func40, Try.ntmps40
  go_wp2_with (go_at_call 47; refine (collect_nil _ _).mono ?_; rintro e w1 ⟨rfl, hb1⟩)
  go_ret
  have hB : RowKit.Below w.heap.size w w1 := ((RowKit.Below.refl _ w).alloc (Nat.le_refl _) _).trans (hb1.mono (by simp))
  exact ⟨w1.heap.size, _, rfl, hB.size, ⟨Blk.new w1 81 _, (Row.nil w1 83 2).alloc _⟩, hB.alloc hB.size _⟩

set_option maxRecDepth 100000 in
set_option maxHeartbeats 1600000 in
theorem tell_ok (b p : Nat) (evs : List Ev) (hp : p = 1 ∨ p = 2) (w : World) (hcm : CM w b evs) (hw : ∀ e ∈ evs, W64 e.t) (hn : evs.length ≤ 1000000) :
    Calls Try.prog 40 #[.map (some b), .int .i64 (p : Int)] w fun e w' => ∃ ts, ThreadsOf evs ts ∧ TellPost w (ts.map fun t => (t, cntAt p (cntOf evs t))) e w' := by
  have hmf : ∀ (fn : Fn) (first cap : Array Value) (w : World), (Instr.makeFunc fn first cap).run Try.prog w = .ok (.func fn first cap) w := fun _ _ _ _ => rfl
  have hc := collect_ok b w.heap.size p evs hp (w.alloc (.cells #[.int .i64 (p : Int)] 3)) (hcm.keep (Below.heap_alloc _ _ _ hcm.lt)) (Blk.new w 3 _) hw hn
  go_enter Try.func40, Try.ntmps40
  go_wp2_with (go_at_call 47; refine hc.mono ?_; rintro e w1 ⟨v, ts, rfl, hts, hrow, hb1⟩; obtain ⟨A, c, rfl, hc1, hc2⟩ := hrow.form)
  go_ret
  have hB : RowKit.Below w.heap.size w w1 := ((RowKit.Below.refl _ w).alloc (Nat.le_refl _) _).trans (hb1.mono (by simp))
  rw [pairs_cells] at hrow
  refine ⟨ts, hts, w1.heap.size, _, rfl, hB.size, ⟨Blk.new w1 81 _, ?_⟩, hB.alloc hB.size _⟩
  rw [List.length_map]
  exact hrow.alloc _

/-- What is told of turns. -/
def toldOf (p : Nat) (l : List Tn) (ps : List (Int × Nat)) : Prop :=
  ((badAt l).isSome = true ∧ ps = []) ∨ (badAt l = none ∧ ∃ ts, ThreadsOf (evK l l.length) ts ∧ ps = ts.map fun t => (t, cntAt p (cntOf (evK l l.length) t)))
def WaitsPost (p : Nat) (w : World) (l : List Tn) (e : Ending) (w' : World) : Prop := ∃ ps, toldOf p l ps ∧ TellPost w ps e w'

set_option maxRecDepth 100000 in
set_option maxHeartbeats 1600000 in
theorem catch39_panicking (r : Nat) (x : Value) (k : Int) (older : List PanicEntry) (w : World) (hb : Blk w r 45 #[x]) :
    CallsD Try.prog 39 #[.pointer (some ⟨r, 0, none⟩)] (.panicking ({ v := .iface 77 (.int .i64 k), recovered := false } :: older)) w fun e u' w' =>
      e = .returned (.tuple #[]) ∧ u' = .panicking ({ v := .iface 77 (.int .i64 k), recovered := true } :: older) ∧ ∃ B v w1, w.heap.size ≤ B ∧ Told B v [] w1 ∧ RowKit.Below w.heap.size w w1 ∧ w' = w1.setCell ⟨r, 0, none⟩ (.func (.func 49) #[] #[.pointer (some ⟨B, 0, none⟩)]) := by
  refine callsD_of_wpS Try.func39 rfl fun c₀ cs hu => ?_
  apply wpS_seq
  apply wpS_region
  simp [wpOpsS, go_sem, recoverD, hu, Try.ntmps39, Exit.thenS]
  refine (raisedAt_at k w).mono ?_
  rintro e w' ⟨rfl, rfl⟩
  simp [go_sem]
  apply wpS_seq
  apply wpS_region
  simp [wpOpsS, go_sem, Exit.thenS]
  refine wpS_cond (t := true) (by simp [Act.eval, Array.replicate]) ?_
  simp only [if_true]
  apply wpS_region
  simp [wpOpsS, go_sem]
  refine (tell_nil 1 w).mono ?_
  rintro e w1 ⟨B, v, rfl, hB, hT, hb1⟩
  have hk := hb.keep (hb1.block _ hb.lt)
  have hp1 := hk.cell 0
  have fp1 := hk.frozen 0
  simp at hp1
  simp [go_sem, hp1, fp1, bodyPostS, results, Try.results39]
  exact ⟨B, hB, v, w1, hT, hb1, rfl⟩

set_option maxRecDepth 100000 in
set_option maxHeartbeats 1600000 in
theorem catch39_idle (r : Nat) (w : World) :
    CallsD Try.prog 39 #[.pointer (some ⟨r, 0, none⟩)] .returning w fun e u' w' => e = .returned (.tuple #[]) ∧ u' = .returning ∧ w' = w := by
  refine callsD_of_wpS Try.func39 rfl fun c₀ cs hu => ?_
  apply wpS_seq
  apply wpS_region
  simp [wpOpsS, go_sem, recoverD, hu, Try.ntmps39, Exit.thenS]
  refine (raisedAt_nil w).mono ?_
  rintro e w' ⟨rfl, rfl⟩
  simp [go_sem]
  apply wpS_seq
  apply wpS_region
  simp [wpOpsS, go_sem, Exit.thenS]
  refine wpS_cond (t := false) (by simp [Act.eval, Array.replicate]) ?_
  simp only [Bool.false_eq_true, if_false]
  refine wpS_of_wp (wp_skip ?_)
  cases c₀
  simp_all [bodyPostS, results, Try.results39]

theorem waits_good {w w1 w2 : World} {l : List Tn} {p : Nat} {ts : List Int} {B : Nat} {v : Value} (hE : badOf l = none) (hts : ThreadsOf (evK l l.length) ts) (hb1 : RowKit.Below (w.alloc (.cells #[.nilFunc] 45)).heap.size (w.alloc (.cells #[.nilFunc] 45)) w1)
    (hB : w1.heap.size ≤ B) (hT : Told B v (ts.map fun t => (t, cntAt p (cntOf (evK l l.length) t))) w2) (hb2 : RowKit.Below w1.heap.size w1 w2) (u : Value) : WaitsPost p w l (.returned (.func (.func 49) #[] #[.pointer (some ⟨B, 0, none⟩)])) (w2.setCell ⟨w.heap.size, 0, none⟩ u) := by
  have hB1 : RowKit.Below w.heap.size w w1 := ((RowKit.Below.refl _ w).alloc (Nat.le_refl _) _).trans (hb1.mono (by simp))
  have hB2 : RowKit.Below w.heap.size w w2 := hB1.trans (hb2.mono hB1.size)
  have hbx : Blk w2 w.heap.size 45 #[.nilFunc] := ((Blk.new w 45 _).keep (hb1.block _ (by simp))).keep (hb2.block _ (by have := hb1.size; simp at this; omega))
  refine ⟨_, .inr ⟨?_, ts, hts, rfl⟩, B, v, rfl, Nat.le_trans hB1.size hB, ⟨hT.box.far (by have := hb1.size; simp at this; simp; omega) _, hT.row.far (hT.row.ne_blk hbx (by decide)) _⟩, hB2.setCell (Nat.le_refl _) _⟩
  unfold badOf at hE
  cases hb : badAt l with
  | none => rfl
  | some k => rw [hb] at hE; simp at hE
theorem waits_bad {w w1 w2 : World} {l : List Tn} {p k : Nat} {B : Nat} {v : Value} (hE : badAt l = some k) (hb1 : RowKit.Below (w.alloc (.cells #[.nilFunc] 45)).heap.size (w.alloc (.cells #[.nilFunc] 45)) w1)
    (hB : w1.heap.size ≤ B) (hT : Told B v [] w2) (hb2 : RowKit.Below w1.heap.size w1 w2) (u : Value) : WaitsPost p w l (.returned (.func (.func 49) #[] #[.pointer (some ⟨B, 0, none⟩)])) (w2.setCell ⟨w.heap.size, 0, none⟩ u) := by
  have hB1 : RowKit.Below w.heap.size w w1 := ((RowKit.Below.refl _ w).alloc (Nat.le_refl _) _).trans (hb1.mono (by simp))
  have hB2 : RowKit.Below w.heap.size w w2 := hB1.trans (hb2.mono hB1.size)
  have hbx : Blk w2 w.heap.size 45 #[.nilFunc] := ((Blk.new w 45 _).keep (hb1.block _ (by simp))).keep (hb2.block _ (by have := hb1.size; simp at this; omega))
  exact ⟨[], .inl ⟨by rw [hE]; rfl, rfl⟩, B, v, rfl, Nat.le_trans hB1.size hB, ⟨hT.box.far (by have := hb1.size; simp at this; simp; omega) _, hT.row.far (hT.row.ne_blk hbx (by decide)) _⟩, hB2.setCell (Nat.le_refl _) _⟩

theorem waits_tell {w w1 : World} {l : List Tn} {p : Nat} (hp : p = 1 ∨ p = 2) (hb1 : RowKit.Below (w.alloc (.cells #[.nilFunc] 45)).heap.size (w.alloc (.cells #[.nilFunc] 45)) w1)
    (hcm : CM w1 (w.alloc (.cells #[.nilFunc] 45)).heap.size (evK l l.length)) (hwf : ∀ e ∈ evK l l.length, W64 e.t) (hln : (evK l l.length).length ≤ 1000000) :
    Calls Try.prog 40 #[.map (some (w.heap.size + 1)), .int .i64 (p : Int)] w1 fun e w2 => ∃ (_ts : List Int) (B : Nat) (_v : Value), e = .returned (.func (.func 49) #[] #[.pointer (some ⟨B, 0, none⟩)]) ∧
      Hid (badOf l = none → ∀ u, WaitsPost p w l (.returned (.func (.func 49) #[] #[.pointer (some ⟨B, 0, none⟩)])) (w2.setCell ⟨w.heap.size, 0, none⟩ u)) ∧ w2.cell? ⟨w.heap.size, 0, none⟩ = some .nilFunc ∧ w2.frozen? ⟨w.heap.size, 0, none⟩ = false := by
  rw [World.size_alloc] at hcm
  refine (tell_ok (w.heap.size + 1) p _ hp w1 hcm hwf hln).mono ?_
  rintro e w2 ⟨ts, hts, B, v, rfl, hB, hT, hb2⟩
  have hk := ((Blk.new w 45 #[.nilFunc]).keep (hb1.block _ (by simp))).keep (hb2.block _ (by have := hb1.size; simp at this; omega))
  exact ⟨ts, B, v, rfl, Lib.hid (fun hE u => waits_good hE hts hb1 hB hT hb2 u), by simpa using hk.cell 0, hk.frozen 0⟩

set_option maxRecDepth 100000 in
set_option maxHeartbeats 3200000 in
theorem Waits_ok (v : Value) (l : List Tn) (w : World) (hl : Turns w v l) (hsm : Small l) : Calls Try.prog 21 #[v] w (WaitsPost 1 w l) := by
  obtain ⟨A, c, rfl, hc1, hc2⟩ := hl.form
  have hmf : ∀ (fn : Fn) (first cap : Array Value) (w : World), (Instr.makeFunc fn first cap).run Try.prog w = .ok (.func fn first cap) w := fun _ _ _ _ => rfl
  have hca := countAll_ok _ l (w.alloc (.cells #[.nilFunc] 45)) (hl.alloc _) hsm
  have hwf : ∀ e ∈ evK l l.length, W64 e.t := fun e he => by
    obtain ⟨_, h1, h2⟩ := evK_mem he
    exact hl.wf h1 e.t h2
  have hln : (evK l l.length).length ≤ 1000000 := by
    have := evK_length hsm l.length (Nat.le_refl _)
    have := hsm.1
    omega
  have Hl := Lib.hid hl
  clear hl
  go_enter_defers Try.func21, Try.ntmps21
  go_wp2_with (first
    | (go_at_call 41; refine hca.mono ?_; rintro e w1 ⟨hb1, (⟨hE, rfl, hcm⟩ | ⟨k, hE, rfl⟩)⟩)
    | (go_at_call 40; have h40 := waits_tell (p := 1) (.inl rfl) hb1 hcm hwf hln; refine h40.mono ?_; rintro e w2 ⟨ts, B, v2, rfl, hfin, y0, f0⟩))
  · refine leaves_cons (f := 39) (args := #[.pointer (some ⟨w.heap.size, 0, none⟩)]) (by simp) (by simp [go_sem]) ?_
    refine (catch39_idle _ _).mono ?_
    rintro e u' w'' ⟨rfl, rfl, rfl⟩
    simp [Leaves, settle, results, Try.results21, go_sem, y0]
    exact hfin.out hE _
  · have hk := (Blk.new w 45 #[.nilFunc]).keep (hb1.block _ (by simp))
    refine leaves_cons (f := 39) (args := #[.pointer (some ⟨w.heap.size, 0, none⟩)]) (by simp) (by simp [go_sem]) ?_
    refine (catch39_panicking _ _ (k : Int) [] _ hk).mono ?_
    rintro e u' w'' ⟨rfl, rfl, B, v2, w2, hB, hT, hb2, rfl⟩
    have hk2 := hk.keep (hb2.block _ hk.lt)
    have y0 := hk2.cell 0
    simp at y0
    simp [Leaves, settle, results, Try.results21, go_sem, y0]
    exact waits_bad hE hb1 hB hT hb2 _
end Go.Proofs.Ytchmoalcjbolbaa
