/- What Waits and Went collect. -/
import Derived.Test.YtchmoalcjbolbaaN
namespace Go.Proofs.Ytchmoalcjbolbaa
open Go.RowKit Go.Shelf Go.Sort
attribute [local go_sem] Oper.semAt_some

/-- The counter that is told. -/
def cntAt (p : Nat) (c : Cnt) : Nat := if p = 1 then c.lg else c.wn

set_option maxRecDepth 100000 in
set_option maxHeartbeats 1600000 in
theorem tell1_ok (t : Int) (c : Cnt) (bx p : Nat) (hp : p = 1 ∨ p = 2) (w : World) (hb : w.cell? ⟨bx, 0, none⟩ = some (.int .i64 (p : Int))) :
    Calls Try.prog 48 #[.int .i64 t, encC c, .pointer (some ⟨bx, 0, none⟩)] w fun e w' => e = .returned (.agg #[.int .i64 t, .int .i64 (cntAt p c : Int)]) ∧ RowKit.Below w.heap.size w w' := by
  have hlt := lt_of_cell hb
  simp only at hlt
  obtain ⟨a, b, c, d⟩ := c
  unfold encC
  rcases hp with rfl | rfl
  · go_enter Try.func48, Try.ntmps48
    go_wp2_with fail
    exact bodyPost_ret (v := .agg #[.int .i64 t, .int .i64 (b : Int)]) (by simp [results, Try.results48, go_sem]) rfl ⟨rfl, ((RowKit.Below.refl _ w).alloc (Nat.le_refl _) _).alloc (by simp) _⟩
  · go_enter Try.func48, Try.ntmps48
    go_wp2_with fail
    exact bodyPost_ret (v := .agg #[.int .i64 t, .int .i64 (c : Int)]) (by simp [results, Try.results48, go_sem]) rfl ⟨rfl, ((RowKit.Below.refl _ w).alloc (Nat.le_refl _) _).alloc (by simp) _⟩

def pairsOf (p : Nat) (evs : List Ev) (ts : List Int) : List Value := ts.flatMap fun t => [.int .i64 t, .int .i64 (cntAt p (cntOf evs t) : Int)]
theorem pairsOf_length (p : Nat) (evs : List Ev) (ts : List Int) : (pairsOf p evs ts).length = ts.length * 2 := by
  unfold pairsOf
  induction ts with
  | nil => rfl
  | cons t r ih => rw [List.flatMap_cons, List.length_append, ih]; simp; omega
theorem pairsOf_snoc (p : Nat) (evs : List Ev) (ts : List Int) (t : Int) : pairsOf p evs (ts ++ [t]) = pairsOf p evs ts ++ [.int .i64 t, .int .i64 (cntAt p (cntOf evs t) : Int)] := by simp [pairsOf]
theorem pairsOf_one (p : Nat) (evs : List Ev) (ts : List Int) : ∀ x ∈ pairsOf p evs ts, x.oneCell' = true := by
  intro x hx
  obtain ⟨t, _, ht⟩ := List.mem_flatMap.1 hx
  simp at ht
  rcases ht with rfl | rfl <;> rfl

theorem row_of_owns {W : World} {base e n : Nat} {v : Value} {xs : List Value} (h : W.ownsRow base e 1 v n xs) : Row W e 1 v n xs ∧ ∀ k, v.ownBlock = some k → base ≤ k := by
  obtain ⟨h1, h2⟩ := h
  rcases h2 with ⟨rfl, h0⟩ | ⟨g, cap, cur, rfl, hb, hg, q1, q2, q3, q4⟩
  · exact ⟨⟨h1, .inl ⟨rfl, h0⟩⟩, by intro k hk; simp [Value.ownBlock] at hk⟩
  · exact ⟨⟨h1, .inr ⟨g, cap, cur, rfl, hg, q1, q2, by omega, q4⟩⟩, by intro k hk; simp [Value.ownBlock] at hk; omega⟩

theorem Try.info83 : (Try.prog.info? 83).map (fun i => (i.zero, i.size, i.bytes)) = some (some (.agg #[.int .i64 0, .int .i64 0]), 2, 16) := by kernel_rfl

/-- What is collected so far. -/
structure ColI (w0 : World) (b bx p : Nat) (evs : List Ev) (u : Value) (ts : List Int) (k : Nat) (v : Value) (W : World) : Prop where
  cm : CM W b evs
  box : Blk W bx 3 #[.int .i64 (p : Int)]
  src : Row W 3 1 u ts.length (ts.map (Value.int .i64))
  dst : Row W 83 2 v k (pairsOf p evs (ts.take k))
  own : ∀ j, v.ownBlock = some j → w0.heap.size ≤ j
  bl : RowKit.Below w0.heap.size w0 W

theorem ColI.below {w0 W W' : World} {b bx p : Nat} {evs : List Ev} {u : Value} {ts : List Int} {k : Nat} {v : Value} (h : ColI w0 b bx p evs u ts k v W) (hb : RowKit.Below W.heap.size W W') : ColI w0 b bx p evs u ts k v W' :=
  ⟨h.cm.keep (hb.block _ h.cm.lt), h.box.keep (hb.block _ h.box.lt), h.src.keep (fun k hk => hb.block _ (h.src.lt k hk)), h.dst.keep (fun k hk => hb.block _ (h.dst.lt k hk)), h.own, h.bl.trans (hb.mono h.bl.size)⟩
theorem ColI.next {w0 w2 w3 : World} {b bx p : Nat} {evs : List Ev} {u : Value} {ts : List Int} {k : Nat} {v v3 : Value} {t : Int} {o : Obj} (h : ColI w0 b bx p evs u ts k v w2) (ht : ts.take (k + 1) = ts.take k ++ [t])
    (hr : Row w3 83 2 v3 (k + 1) (pairsOf p evs (ts.take k) ++ [.int .i64 t, .int .i64 (cntAt p (cntOf evs t) : Int)])) (hg : (w2.alloc o).grownBy w3 v.ownBlock) (ho : v3.ownBlock = v.ownBlock ∨ v3.ownBlock = some (w2.alloc o).heap.size) : ColI w0 b bx p evs u ts (k + 1) v3 w3 := by
  have hsz : w2.heap.size ≤ (w2.alloc o).heap.size := by simp
  have keep : ∀ j, j < w2.heap.size → v.ownBlock ≠ some j → w3.heap[j]? = w2.heap[j]? := fun j hj hne =>
    (hg.block j (by simp; omega) (fun e => hne e.symm)).trans (Below.heap_alloc _ _ _ hj)
  have hb : v.ownBlock ≠ some b := by
    intro e
    obtain ⟨D, ⟨es, clock, hm, _⟩, _⟩ := h.cm.own
    rcases h.dst.2 with ⟨rfl, _⟩ | ⟨g, cap, cur, rfl, hh, _⟩
    · simp [Value.ownBlock] at e
    · simp [Value.ownBlock] at e
      subst e
      unfold Blk at hh
      rw [hm] at hh
      cases hh
  have hx : v.ownBlock ≠ some bx := h.dst.ne_blk h.box (by decide)
  refine ⟨h.cm.keep (keep _ h.cm.lt hb), h.box.keep (keep _ h.box.lt hx), h.src.keep (fun j hj => keep j (h.src.lt j hj) (h.src.ne_row h.dst (by decide) j hj)), by rw [ht, pairsOf_snoc]; exact hr, ?_, ?_⟩
  · intro j hj
    rcases ho with ho | ho
    · rw [ho] at hj; exact h.own j hj
    · rw [ho] at hj; injection hj with hj; have := h.bl.size; simp at hj; omega
  · refine ⟨hg.os.trans h.bl.os, hg.tape.trans h.bl.tape, hg.output.trans h.bl.output, Nat.le_trans h.bl.size (Nat.le_trans hsz hg.size), fun j hj => ?_⟩
    exact (keep j (by have := h.bl.size; omega) (fun e => by have := h.own j e; omega)).trans (h.bl.block j hj)
theorem col_start {w w1 : World} {b bx p : Nat} {evs : List Ev} {u : Value} {ss : List Int} {D0 : DataW Unit} (hcm : CM w b evs) (hb : Blk w bx 3 #[.int .i64 (p : Int)]) (hown : w.ownsMap Try.prog 3 Rc b evs.length D0)
    (hhas : ∀ t, W64 t → Maps.has D0 (.int .i64 t) = metB evs t) (hw : ∀ e ∈ evs, W64 e.t) (hn : evs.length ≤ 1000000) (hS : ss.Perm (intKeys D0))
    (hrow : w1.ownsRow (w.alloc (.cells #[.map (some b)] 66)).heap.size 3 1 u ss.length ((ss.mergeSort fun x y => decide (x ≤ y)).map encZ))
    (hb1 : RowKit.Below (w.alloc (.cells #[.map (some b)] 66)).heap.size (w.alloc (.cells #[.map (some b)] 66)) w1) :
    ∃ ts A c, u = .slice A ts.length c ∧ ts.length ≤ c ∧ c ≤ maxLen ∧ ThreadsOf evs ts ∧ ts.length ≤ 1000000 ∧ ColI w b bx p evs u ts 0 (.slice none 0 0) w1 := by
  obtain ⟨hr, ho⟩ := row_of_owns hrow
  have hl : (ss.mergeSort fun x y => decide (x ≤ y)).length = ss.length := List.length_mergeSort _
  obtain ⟨A, c, rfl, h1, h2⟩ := hr.form
  have hB : RowKit.Below w.heap.size w w1 := ((RowKit.Below.refl _ w).alloc (Nat.le_refl _) _).trans (hb1.mono (by simp))
  have hsl : ss.length ≤ evs.length := by
    have h3 : (intKeys D0).length = Maps.size D0 := by
      obtain ⟨es, hes, _⟩ := hown.tidy keyed3
      subst hes
      simp [intKeys, Maps.size]
    rw [hS.length_eq, h3]
    exact hown.size_le
  rw [← hl] at hr h1 ⊢
  refine ⟨_, A, c, rfl, h1, h2, keys_of hown hhas hw hS, by omega, ⟨hcm.keep (hB.block _ hcm.lt), hb.keep (hB.block _ hb.lt), hr, by simpa [pairsOf] using Row.nil w1 83 2, by intro j hj; simp [Value.ownBlock] at hj, hB⟩⟩

def ColPost (w : World) (p : Nat) (evs : List Ev) (e : Ending) (w' : World) : Prop :=
  ∃ v ts, e = .returned v ∧ ThreadsOf evs ts ∧ Row w' 83 2 v ts.length (pairsOf p evs ts) ∧ RowKit.Below w.heap.size w w'

set_option maxRecDepth 100000 in
set_option maxHeartbeats 3200000 in
theorem collect_ok (b bx p : Nat) (evs : List Ev) (hp : p = 1 ∨ p = 2) (w : World) (hcm : CM w b evs) (hb : Blk w bx 3 #[.int .i64 (p : Int)]) (hw : ∀ e ∈ evs, W64 e.t) (hn : evs.length ≤ 1000000) :
    Calls Try.prog 47 #[.map (some b), .func (.func 48) #[] #[.pointer (some ⟨bx, 0, none⟩)]] w (ColPost w p evs) := by
  obtain ⟨i0, hi0, hz0, hz1, hz2⟩ := info_parts Try.info83
  obtain ⟨D0, hown, _, hhas⟩ := hcm.own
  have hsz := hown.size_le
  refine (callsIn_wide (n := 6)).1 ?_
  have hseq : SeqGives Fence.wide 2 Try.prog 56 #[.pointer (some ⟨w.heap.size, 0, none⟩)] encZ (fun ss => ss.Perm (intKeys D0)) (Maps.size D0) (w.alloc (.cells #[.map (some b)] 66)) :=
    AnyZI.keys_gives (ρ := Try.keysA_ren) { Try.keysA with } Fence.wide _ trivial rfl (by omega) w.heap.size b evs.length D0 _ (by simp) (by simp) (by
      have := hown.alloc (.cells #[.map (some b)] 66)
      exact this)
  have hsorts : ∀ m, AnyZI.SortsIn Try.prog Try.sortedA_ren Fence.wide m := fun m =>
    ⟨fun blk off cap ss W hH hblk hsz => callsIn_wide.2 (AnyM.slices_Sort_int Try.sortA blk off cap ss W hH hblk hsz),
     fun p cap W => callsIn_wide.2 (AnyM.slices_Sort_int_none Try.sortA p cap W)⟩
  have cK : ∀ mb W, CallsIn Fence.wide 5 Try.prog 52 #[.map mb] W fun e w' => e = .returned (.func (.func 56) #[] #[.pointer (some ⟨W.heap.size, 0, none⟩)]) ∧ w' = W.alloc (.cells #[.map mb] 66) := fun mb W => AnyZI.keys_in Try.keysA Fence.wide 5 trivial rfl mb W
  have cS := AnyZI.sorted_in Try.sortedA Fence.wide 5 trivial trivial trivial trivial rfl (by omega) (hsorts _) (enters_of Try.func55 (by kernel_rfl) rfl) 56 #[.pointer (some ⟨w.heap.size, 0, none⟩)] trivial (enters_of Try.func56 (by kernel_rfl) rfl) _ _ (by unfold maxLen; omega) (by omega) _ hseq
  change CallsIn _ _ Try.prog 51 _ _ _ at cS
  have hfK : Fence.wide.fn 52 := trivial
  have hfS : Fence.wide.fn 51 := trivial
  have hf48 : Fence.wide.fn 48 := trivial
  refine callsIn_of_wp Try.func47 rfl trivial ?_ rfl
  simp only [Try.ntmps47, List.size_toArray, List.length_cons, List.length_nil, Nat.reduceAdd, Nat.reduceSub, Array.replicate_succ, Array.replicate_zero, List.push_toArray, List.append_toArray, List.nil_append, List.cons_append]
  gi_wp2_with (first
    | (gi_at_call 52; refine (cK _ _).mono ?_; rintro e w' ⟨rfl, rfl⟩)
    | (gi_at_call 51; refine cS.mono ?_; rintro e w1 ⟨u, ss, rfl, hS, hrow, hnil, hb1⟩; obtain ⟨ts, A, c, rfl, hc1, hc2, hts, htl, hI0⟩ := col_start hcm hb hown hhas hw hn hS hrow hb1))
  have hm : ts.length ≤ maxLen := Nat.le_trans hc1 hc2
  unfold maxLen at hm
  have Hcs := Lib.hid (And.intro hrow hb1)
  clear hrow hb1 cS cK hseq hS hnil
  refine wpIn_wide.2 ?_
  go_loopw [5, 12] (fun v q wr => ∃ k : Nat, k ≤ ts.length ∧ q = .int .i64 (k : Int) ∧ ColI w b bx p evs (.slice A ts.length c) ts k v wr) (fun _ q _ => ts.length - (intOf q).toNat)
  case atStart => exact ⟨0, Nat.zero_le _, rfl, hI0⟩
  case round =>
    obtain ⟨k, hk, rfl, hI⟩ := hrel
    have hk0 : (0 : Int) ≤ (k : Int) := by omega
    by_cases hlt : k < ts.length
    · have hltI : (k : Int) < (ts.length : Int) := by omega
      obtain ⟨t, ht⟩ : ∃ t, ts[k]? = some t := ⟨_, List.getElem?_eq_getElem hlt⟩
      have hwt : W64 t := by
        have := (hts.mem t).1 (List.mem_of_getElem? ht)
        unfold metB at this
        obtain ⟨e, he, het⟩ := List.any_eq_true.1 this
        rw [beq_iff_eq] at het
        exact het ▸ hw e he
      obtain ⟨g, cap, cur, hv, hg, _⟩ := hI.src.addr (by omega)
      simp only [Value.slice.injEq, true_and] at hv
      obtain ⟨rfl, rfl⟩ := hv
      have q0 := (hI.src.cells rfl k (by omega)).1
      rw [List.getElem?_map, ht] at q0
      simp only [Option.map_some] at q0
      have hlook := hI.cm.look hwt
      have H1 := tell1_ok t (cntOf evs t) bx p hp wr (by simpa using hI.box.cell 0)
      obtain ⟨A5, c5, rfl, hc3, hc4⟩ := hI.dst.form
      have HI := Lib.hid hI
      have HP := Lib.hid (parts_at ht).2
      clear ht hI hg
      go_wp2_with (first
        | (go_at_call 48; refine H1.mono ?_; rintro e w2 ⟨rfl, hb2⟩; have hI2 := HI.out.below hb2)
        | (at_builtin; refine wpList_append_row _ rfl (.tmp 16) (.tmp 23) 81 rfl 83 83 i0 (.agg #[.int .i64 0, .int .i64 0]) 2 16 Try.underlying81 hi0 hz0 hz1 hz2 rfl _ k _ rfl (hI2.dst.alloc _) (.slice (some ⟨w2.heap.size, 0, none⟩) 1 1) 1 [.int .i64 t, .int .i64 (cntAt p (cntOf evs t) : Int)] rfl (Row.made_at w2 _ rfl 83 2 1 _ _ rfl (by unfold maxLen; omega) rfl) (by intro x hx; simp at hx; rcases hx with rfl | rfl <;> rfl) (by unfold maxLen; omega) (by omega) ?_; intro v3 w3 hr3 hg3 ho3; obtain ⟨A6, c6, rfl, _, _⟩ := hr3.form))
      exact ⟨⟨k + 1, by omega, by simp, hI2.next HP.out hr3 hg3 ho3⟩, by simp [intOf]; omega⟩
    · have hltI : ¬ (k : Int) < (ts.length : Int) := by omega
      obtain rfl : k = ts.length := by omega
      obtain ⟨A5, c5, rfl, hc3, hc4⟩ := hI.dst.form
      have HI := Lib.hid hI
      clear hI
      go_wp2_with fail
      gi_wp2
      go_ret
      exact ⟨_, ts, rfl, hts, by have := HI.out.dst; rwa [List.take_length] at this, HI.out.bl⟩
end Go.Proofs.Ytchmoalcjbolbaa
