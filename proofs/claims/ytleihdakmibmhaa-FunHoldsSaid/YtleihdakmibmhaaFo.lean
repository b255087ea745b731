/- Order. -/
import Derived.Test.YtleihdakmibmhaaFn
namespace Go.Proofs.Ytleihdakmibmhaa
open Go.RowKit Go.Shelf
attribute [local go_sem] Oper.semAt_some store_nilFunc6 store_func6

theorem since_below6 {B : Nat} {X Y : World} (h : Below X.heap.size X Y) : Since B X Y := ⟨h.size, fun k _ hk => h.block k hk⟩
theorem Since.blk6 {B : Nat} {X Y : World} (h : Since B X Y) {g : Nat} {t : TypeId} {cs : Array Value} (hb : Blk X g t cs) (hg : B ≤ g) : Blk Y g t cs := hb.keep (h.same g hg hb.lt)
theorem Turned.blk6 {W W' : World} (h : Turned W W') {g : Nat} {t : TypeId} {cs : Array Value} (hb : Blk W g t cs) : Blk W' g t cs := hb.keep (h.at_ hb rfl)
/-- What Order yields: a number, and the node's Op. -/
def encO (F : Fd) (_ : World) (_ : Nat) (i : Nat) (xa : Array Value) : Prop := ∃ x, F.ns[i]? = some x ∧ xa = #[.int .i64 (i : Int), .int .i64 x.op]

set_option maxRecDepth 100000 in
set_option maxHeartbeats 3200000 in
theorem order2_seqs {F : Fd} (hT : TreeF F) (w0 : World) (lo hi kb : Nat) (s : Value) (hF : FunI w0 lo hi (.agg #[.int .i64 F.p, s]) F) :
    SeqsN Try.prog 38 #[.pointer (some ⟨kb, 0, none⟩)] (encO F) (doneF F F.ns.length 0) (fun _ => SnapR w0 lo hi kb #[.int .i64 F.p, s]) := by
  intro n l J Jx Jp W hJp hJ hJx hS hY h0
  refine callsIn_wide.2 ?_
  have hs := hS _ _ h0
  have c0 := hs.box.cell 0
  have c1 := hs.box.cell 1
  have clt := hs.box.lt
  simp at c0 c1
  obtain ⟨A, c, hE⟩ := hF.form
  simp only [Value.agg.injEq, Array.mk.injEq, List.cons.injEq, and_true, true_and] at hE
  subst hE
  have hwk := rising_ok F.p (.slice A F.ns.length c) ⟨_, _, _, rfl⟩
  show Calls Try.prog 38 #[.func (.yield l) #[] #[], .pointer (some ⟨kb, 0, none⟩)] W _
  refine calls_of_wp_marks 5 Try.func38 rfl ?_
  simp only [Try.ntmps38, List.size_toArray, List.length_cons, List.length_nil, Nat.reduceAdd, Nat.reduceSub, Array.replicate_succ, Array.replicate_zero, List.push_toArray, List.append_toArray, List.nil_append, List.cons_append]
  go_wp2_with fail
  go_step3
  go_wp2_with fail
  go_step3
  go_wp2_with (go_at_call 39; refine (hwk _).mono ?_; rintro e w' ⟨rfl, rfl⟩)
  obtain ⟨cs, hcs⟩ : ∃ cs : Array Value, #[.int .i64 F.p, .slice A F.ns.length c] = cs := ⟨_, rfl⟩
  obtain ⟨W0, hW0⟩ : ∃ W0, (W.alloc (.cells #[.func (.yield l) #[] #[]] 69)).alloc (.cells #[.int .i64 F.p, .slice A F.ns.length c] 24) = W0 := ⟨_, rfl⟩
  have hsz : W0.heap.size = W.heap.size + 2 := by rw [← hW0]; simp
  have hy0 : Blk W0 W.heap.size 69 #[.func (.yield l) #[] #[]] := by rw [← hW0]; exact (Blk.new W _ _).alloc _
  have hb0 : Blk W0 (W.heap.size + 1) 24 cs := by rw [← hW0, hcs]; exact blkN (by simp) _ _
  have hJ0 : J [] W0 := by rw [← hW0]; exact hJ _ _ _ h0 (((Keep.refl _ W).alloc _).alloc _)
  rw [hW0]
  refine wp_rangeN 4 rfl (enters_of Try.func58 (by kernel_rfl) rfl) (rising1_seqs hT w0 lo hi (W.heap.size + 1) _ hF) (fun W i x xa hx => by obtain ⟨_, _, _, _, rfl⟩ := hx; rfl)
    (fun pre W' => (J pre W' ∧ Blk W' W.heap.size 69 #[.func (.yield l) #[] #[]]) ∧ Blk W' (W.heap.size + 1) 24 cs)
    (fun cd pre W' => cd = .exit 0 ∧ Jx pre W')
    (fun _ _ => False) (fun _ _ h => h)
    (fun s X Y hs hk => ⟨⟨hJ s X Y hs.1.1 (hk.mono (fun k hk' => by omega)), hs.1.2.keepB hk (by omega)⟩, hs.2.keepB hk (by omega)⟩)
    (fun cd s X Y hs hk => ⟨hs.1, hJx s X Y hs.2 (hk.mono (fun k hk' => by omega))⟩)
    (fun pre W' hi' => ⟨(hS _ _ hi'.1.1).kept, by rw [hcs]; exact hi'.2⟩)
    ⟨⟨hJ0, hy0⟩, hb0⟩ ?round ?done ?panic ?stop
  case round =>
    intro l' pre i rest W1 xa hsz1 hx hi' hxa
    obtain ⟨x, S, cS, hxi, rfl⟩ := hxa
    have hbox : Blk (W1.alloc (.cells #[.int .i64 x.op, .int .i64 x.n, .slice S x.l.length cS] 47)) W1.heap.size 47 #[.int .i64 x.op, .int .i64 x.n, .slice S x.l.length cS] := Blk.new _ _ _
    refine .inl ?_
    gi_wp2
    refine ⟨(Since.refl _ _).alloc _, ⟨⟨hJ _ _ _ hi'.1.1 ((Keep.refl _ W1).alloc _), hi'.1.2.alloc _⟩, hi'.2.alloc _⟩, ?_⟩
    rintro W2 ht ⟨⟨hj, hy1⟩, hb1⟩
    have hbox2 := ht.blk6 hbox
    have y0 := hy1.cell 0
    have x0 := hbox2.cell 0
    have ly := hy1.lt
    have lx := hbox2.lt
    simp at y0 x0
    obtain ⟨fn, tmps, assign, body, hy, hR⟩ := yield_depth 3 (hY pre i rest W2 _ hx hj ⟨x, hxi, rfl⟩)
    have hR' := hR.mono (R' := fun e W' => ∃ b, e = .returned (.bool b) ∧ Hid ((b = true ∧ ((J (pre ++ [i]) W' ∧ Blk W' W.heap.size 69 #[.func (.yield l) #[] #[]]) ∧ Blk W' (W.heap.size + 1) 24 cs) ∨ b = false ∧ Jx (pre ++ [i]) W') ∧ Since W0.heap.size W2 W')) (fun e W' q => by
      rcases q with ⟨rfl, hJ3, hs3⟩ | ⟨rfl, hJx3, hs3⟩ | ⟨ch, rfl, hp⟩
      · exact ⟨true, rfl, Lib.hid ⟨.inl ⟨rfl, ⟨hJ3, hs3.blk6 hy1 (Nat.le_refl _)⟩, hs3.blk6 hb1 (by omega)⟩, hs3.mono (by omega)⟩⟩
      · exact ⟨false, rfl, Lib.hid ⟨.inr ⟨rfl, hJx3⟩, hs3.mono (by omega)⟩⟩
      · exact (hJp _ _ hp).elim)
    have HR := Lib.hid hR'
    have HSZ := Lib.hid hsz
    clear hs hS hY h0 c0 c1 clt hwk hJ0 hb0 hy0 hT hsz hR hR' ht hi' hbox hbox2 hj hy1 hb1 hx
    gi_wp2
    refine HR.out.mono ?_
    rintro e W3 ⟨b, rfl, hB⟩
    cases b
    · gi_wp2
      rcases hB.out with ⟨(⟨hf, _⟩ | ⟨_, hx3⟩), hs3⟩
      · cases hf
      · exact ⟨hs3, rfl, hx3⟩
    · gi_wp2
      rcases hB.out with ⟨(⟨_, hg⟩ | ⟨hf, _⟩), hs3⟩
      · exact ⟨hs3, hg⟩
      · cases hf
  case done =>
    rintro D W1 hD ⟨⟨hj, _⟩, _⟩ hdef
    go_wp2
    rw [Exit.noGoto_normal]
    refine ⟨by simp, .inl ⟨_, _, rfl, run_takeDeferred hdef, ?_⟩⟩
    exact ⟨_, results_none rfl _ _ _, .inl ⟨⟨_, rfl⟩, .inl (hJ.from.putObj _ hj (by omega) hdef rfl)⟩⟩
  case panic =>
    intro D ch W1 _ hf
    exact hf.elim
  case stop =>
    rintro D cd pre W1 hD hpre ⟨rfl, hjx⟩ hdef
    go_wp2
    rw [Exit.noGoto_normal]
    refine ⟨by simp, .inl ⟨_, _, rfl, run_takeDeferred hdef, ?_⟩⟩
    exact ⟨_, results_none rfl _ _ _, .inl ⟨⟨_, rfl⟩, .inr ⟨pre, hpre, hJx.from.putObj _ hjx (by omega) hdef rfl⟩⟩⟩

set_option maxRecDepth 100000 in
theorem order1_seqs {α : Type} (encs : World → Nat → α → Array Value → Prop) (Snap : List α → World → Prop) : SeqsN Try.prog 37 #[] encs [] Snap := by
  intro n l J Jx Jp W _ _ _ _ _ h0
  refine callsIn_wide.2 ?_
  show Calls Try.prog 37 #[.func (.yield l) #[] #[]] W _
  go_enter Try.func37, Try.ntmps37
  go_wp2_with fail
  go_end0
  exact .inl ⟨⟨_, rfl⟩, .inl h0⟩
set_option maxRecDepth 100000 in
theorem calls1_seqs {α : Type} (encs : World → Nat → α → Array Value → Prop) (Snap : List α → World → Prop) : SeqsN Try.prog 40 #[] encs [] Snap := by
  intro n l J Jx Jp W _ _ _ _ _ h0
  refine callsIn_wide.2 ?_
  show Calls Try.prog 40 #[.func (.yield l) #[] #[]] W _
  go_enter Try.func40, Try.ntmps40
  go_wp2_with fail
  go_end0
  exact .inl ⟨⟨_, rfl⟩, .inl h0⟩

/-! ### A function that may be is a tree -/
theorem runF_all {F : Fd} : ∀ {m : Nat} {st : ST}, runF F m = .ok st → ∀ (k : Nat) (x : Nd), k < m → F.ns[k]? = some x → ∃ s1 s2, runF F k = .ok s1 ∧ runF F (k + 1) = .ok s2 ∧ stepN F.ns.length k x s1 = some s2
  | 0, _, _, k, _, hk, _ => by omega
  | m + 1, st, h, k, x, hk, hx => by
    cases hq : runF F m with
    | bad j => simp only [runF, hq] at h; cases h
    | ok s0 =>
      by_cases hkm : k < m
      · exact runF_all hq k x hkm hx
      · obtain rfl : k = m := by omega
        have h' := runF_succ hq hx
        cases hs : stepN F.ns.length k x s0 with
        | none => rw [hs] at h'; rw [h'] at h; cases h
        | some s2 => rw [hs] at h'; exact ⟨s0, s2, hq, h', hs⟩
theorem stepN_some {n i : Nat} {x : Nd} {s1 s2 : ST} (h : stepN n i x s1 = some s2) : fitsB i x s1 = true ∧ adoptL i x.op n 0 x.l s1 = some s2 := by
  unfold stepN at h
  split at h
  · rename_i hf; exact ⟨hf, h⟩
  · cases h
theorem adoptL_kids {i : Nat} {op : Int} {n : Nat} : ∀ {k : Nat} {l : List Int} {s1 s2 : ST}, adoptL i op n k l s1 = some s2 → ∀ c ∈ l, (i : Int) < c ∧ c < (n : Int)
  | _, [], _, _, _, c, hc => by simp at hc
  | k, d :: r, s1, s2, h, c, hc => by
    rw [adoptL] at h
    split at h
    · cases h
    · rename_i hn
      rcases List.mem_cons.1 hc with rfl | hc
      · omega
      · exact adoptL_kids h c hc
theorem lenOK_16 {op : Int} {m : Nat} (h : lenOK op m = true) : m ≤ 16 := by
  unfold lenOK at h
  repeat' split at h
  all_goals first | (simp at h; omega) | (simp at h; simp [h]) | (simp at h)
theorem places_ok {F : Fd} {st : ST} (h : placesF F = .ok st) : boundsB F = true ∧ runF F F.ns.length = .ok st := by
  unfold placesF at h
  split at h
  · rename_i hb; exact ⟨hb, h⟩
  · cases h
theorem tree_of {F : Fd} {st : ST} (h : placesF F = .ok st) : TreeF F := by
  obtain ⟨hb, hr⟩ := places_ok h
  unfold boundsB at hb
  simp at hb
  refine ⟨by omega, by omega, fun i x hx => ?_⟩
  obtain ⟨s1, s2, _, _, hs⟩ := runF_all hr i x (List.getElem?_eq_some_iff.1 hx).1 hx
  obtain ⟨h1, h2⟩ := stepN_some hs
  refine ⟨?_, adoptL_kids h2⟩
  unfold fitsB at h1
  simp only [Bool.and_eq_true] at h1
  exact lenOK_16 h1.1.2
theorem TreeF.fewF {F : Fd} (h : TreeF F) : FewF F := ⟨Nat.le_trans h.few (by omega), fun x hx => by
  obtain ⟨i, hi, rfl⟩ := List.mem_iff_getElem.1 hx
  exact Nat.le_trans (h.kids i _ (List.getElem?_eq_getElem hi)).1 (by omega)⟩

/-- What Order and Calls hand back of a function that may be: the iterator, and the box with the copy that it goes over. -/
def IterP (fn : Nat) (w : World) (F : Fd) (e : Ending) (w' : World) : Prop :=
  ∃ kb s hi, e = .returned (.func (.func fn) #[] #[.pointer (some ⟨kb, 0, none⟩)]) ∧ Blk w' kb 24 #[.int .i64 F.p, s] ∧ FunI w' w.heap.size hi (.agg #[.int .i64 F.p, s]) F ∧ hi ≤ kb ∧ w.heap.size ≤ kb ∧ Below w.heap.size w w'

section
variable {F : Fd} {v : Value}
theorem check_at {w : World} (h : FunI w 0 w.heap.size v F) {A : Option Addr} {c : Nat} (_hv : v = .agg #[.int .i64 F.p, .slice A F.ns.length c]) (e0 : Int) (he : (whereF F).2 = e0) :
    Calls Try.prog 14 #[v] (w.alloc (.cells #[.int .i64 F.p, .slice A F.ns.length c] 24)) fun e w' => e = .returned (.int .i64 e0) ∧ w'.cell? ⟨w.heap.size, 0, none⟩ = some (.int .i64 F.p) ∧ w'.cell? ⟨w.heap.size, 1, none⟩ = some (.slice A F.ns.length c) ∧ w.heap.size < w'.heap.size ∧ Hid (Below w.heap.size w w') := by
  have hb : Below w.heap.size w (w.alloc (.cells #[.int .i64 F.p, .slice A F.ns.length c] 24)) := (Below.refl _ w).alloc (Nat.le_refl _) _
  have hbx : Blk (w.alloc (.cells #[.int .i64 F.p, .slice A F.ns.length c] 24)) w.heap.size 24 #[.int .i64 F.p, .slice A F.ns.length c] := Blk.new _ _ _
  subst he
  refine (Check_ok6 _ ((h.below hb (Nat.le_refl _)).mono (Nat.le_refl _) hb.size)).mono fun e w' q => ?_
  have hk := hbx.keep (q.2.block _ hbx.lt)
  exact ⟨q.1, by simpa using hk.cell 0, by simpa using hk.cell 1, hk.lt, Lib.hid (hb.trans (q.2.mono hb.size))⟩
theorem copy_at {w w1 : World} (h : FunI w 0 w.heap.size v F) (hb : Below w.heap.size w w1) (hF : FewF F) : Calls Try.prog 19 #[v] w1 fun e w' => ∃ S c', e = .returned (.agg #[.int .i64 F.p, .slice S F.ns.length c']) ∧
    Hid (FunI w' w.heap.size w'.heap.size (.agg #[.int .i64 F.p, .slice S F.ns.length c']) F ∧ Below w.heap.size w w') := by
  refine (Copy_ok6 w1 (h.below hb (Nat.le_refl _)) hb.size hF).mono fun e w' q => ?_
  obtain ⟨v', rfl, hc⟩ := q
  have hf := hc.funI (h.below hb (Nat.le_refl _))
  obtain ⟨S, c', rfl⟩ := hf.form
  exact ⟨S, c', rfl, Lib.hid ⟨hf.mono hb.size (Nat.le_refl _), hb.trans (hc.bl.mono hb.size)⟩⟩
theorem iter_end {w w2 : World} {S : Option Addr} {c' : Nat} {fn : Nat} (h : Hid (FunI w2 w.heap.size w2.heap.size (.agg #[.int .i64 F.p, .slice S F.ns.length c']) F ∧ Below w.heap.size w w2)) :
    IterP fn w F (.returned (.func (.func fn) #[] #[.pointer (some ⟨w2.heap.size, 0, none⟩)])) (w2.alloc (.cells #[.int .i64 F.p, .slice S F.ns.length c'] 24)) := by
  obtain ⟨h1, h2⟩ := h.out
  have hb : Below w2.heap.size w2 (w2.alloc (.cells #[.int .i64 F.p, .slice S F.ns.length c'] 24)) := (Below.refl _ w2).alloc (Nat.le_refl _) _
  exact ⟨_, _, w2.heap.size, rfl, Blk.new _ _ _, h1.below hb (Nat.le_refl _), Nat.le_refl _, h2.size, h2.trans (hb.mono h2.size)⟩

set_option maxRecDepth 100000 in
set_option maxHeartbeats 3200000 in
theorem Order_ok (w : World) (h : FunI w 0 w.heap.size v F) {st : ST} (hp : placesF F = .ok st) : Calls Try.prog 20 #[v] w (IterP 38 w F) := by
  obtain ⟨A, c, rfl⟩ := h.form
  have hmf : ∀ (fn : Fn) (first cap : Array Value) (w : World), (Instr.makeFunc fn first cap).run Try.prog w = .ok (.func fn first cap) w := fun _ _ _ _ => rfl
  have hck := check_at h rfl 0 (by unfold whereF; rw [hp])
  have hcp := fun w1 (h1 : Hid (Below w.heap.size w w1)) => copy_at h h1.out (tree_of hp).fewF
  have HCK := Lib.hid hck
  have HCP := Lib.hid hcp
  clear h hck hcp hp
  go_enter Try.func20, Try.ntmps20
  go_wp2_with (first | (go_at_call 14; (with_reducible refine HCK.out.mono ?_); rintro e w1 ⟨rfl, c0, c1, lt, hB⟩) | (go_at_call 19; (with_reducible refine (HCP.out _ hB).mono ?_); rintro e w2 ⟨S, c', rfl, hQ⟩))
  go_ret
  exact iter_end hQ
set_option maxRecDepth 100000 in
set_option maxHeartbeats 3200000 in
theorem Calls_ok (w : World) (h : FunI w 0 w.heap.size v F) {st : ST} (hp : placesF F = .ok st) : Calls Try.prog 21 #[v] w (IterP 41 w F) := by
  obtain ⟨A, c, rfl⟩ := h.form
  have hmf : ∀ (fn : Fn) (first cap : Array Value) (w : World), (Instr.makeFunc fn first cap).run Try.prog w = .ok (.func fn first cap) w := fun _ _ _ _ => rfl
  have hck := check_at h rfl 0 (by unfold whereF; rw [hp])
  have hcp := fun w1 (h1 : Hid (Below w.heap.size w w1)) => copy_at h h1.out (tree_of hp).fewF
  have HCK := Lib.hid hck
  have HCP := Lib.hid hcp
  clear h hck hcp hp
  go_enter Try.func21, Try.ntmps21
  go_wp2_with (first | (go_at_call 14; (with_reducible refine HCK.out.mono ?_); rintro e w1 ⟨rfl, c0, c1, lt, hB⟩) | (go_at_call 19; (with_reducible refine (HCP.out _ hB).mono ?_); rintro e w2 ⟨S, c', rfl, hQ⟩))
  go_ret
  exact iter_end hQ
set_option maxRecDepth 100000 in
set_option maxHeartbeats 3200000 in
theorem Order_bad (w : World) (h : FunI w 0 w.heap.size v F) {k : Nat} (hp : placesF F = .bad k) : Calls Try.prog 20 #[v] w fun e w' => e = .returned (.func (.func 37) #[] #[]) ∧ Below w.heap.size w w' := by
  obtain ⟨A, c, rfl⟩ := h.form
  have hck := check_at h rfl 60 (by unfold whereF; rw [hp])
  have HCK := Lib.hid hck
  clear h hck hp
  go_enter Try.func20, Try.ntmps20
  go_wp2_with (go_at_call 14; (with_reducible refine HCK.out.mono ?_); rintro e w1 ⟨rfl, c0, c1, lt, hB⟩)
  go_ret
  exact ⟨rfl, hB.out⟩
set_option maxRecDepth 100000 in
set_option maxHeartbeats 3200000 in
theorem Calls_bad (w : World) (h : FunI w 0 w.heap.size v F) {k : Nat} (hp : placesF F = .bad k) : Calls Try.prog 21 #[v] w fun e w' => e = .returned (.func (.func 40) #[] #[]) ∧ Below w.heap.size w w' := by
  obtain ⟨A, c, rfl⟩ := h.form
  have hck := check_at h rfl 60 (by unfold whereF; rw [hp])
  have HCK := Lib.hid hck
  clear h hck hp
  go_enter Try.func21, Try.ntmps21
  go_wp2_with (go_at_call 14; (with_reducible refine HCK.out.mono ?_); rintro e w1 ⟨rfl, c0, c1, lt, hB⟩)
  go_ret
  exact ⟨rfl, hB.out⟩
end
end Go.Proofs.Ytleihdakmibmhaa
