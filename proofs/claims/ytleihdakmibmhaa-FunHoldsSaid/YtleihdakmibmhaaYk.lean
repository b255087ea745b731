/- FunHolds, walked. -/
import Derived.Test.YtleihdakmibmhaaYj
import Derived.Test.YtleihdakmibmhaaYa
import Derived.BigFrameIn
import Derived.Deep.RegionHeld3
import Derived.BigQuiet
import Derived.Deep.QuietTactic
namespace Go.Proofs.Ytleihdakmibmhaa
open Go.RowKit Go.Shelf
attribute [local go_sem] Oper.semAt_some store_nilFunc6 store_func6

theorem FunI.nodes {W : World} {lo hi : Nat} {p : Int} {s : Value} {F : Fd} (h : FunI W lo hi (.agg #[.int .i64 p, s]) F) : NodesI W lo hi s F.ns := by
  obtain ⟨s', e, _, hn⟩ := h
  simp only [Value.agg.injEq, Array.mk.injEq, List.cons.injEq, and_true] at e
  obtain ⟨_, rfl⟩ := e
  exact hn
/-- What the range of FunHolds keeps. -/
structure HK (w W3 : World) (bs : List (Nat × TypeId × Array Value)) (fs : List (Nat × Value × Fd)) (lo hi nb wi n : Nat) (pre : List Nat) (W : World) : Prop where
  kb : KB w bs fs W
  kept : Kept lo hi W3 W
  wh : Blk W wi 3 (intsOf (whenL n pre))
  n : Blk W nb 3 #[.int .i64 (pre.length : Int)]
section
variable {w W3 W W' : World} {bs : List (Nat × TypeId × Array Value)} {fs : List (Nat × Value × Fd)} {lo hi nb wi n : Nat} {pre : List Nat}
theorem HK.keepB (h : HK w W3 bs fs lo hi nb wi n pre W) {B : Nat} (hk : Keep (fun k => B ≤ k) W W') (hw : w.heap.size ≤ B) (hb : ∀ x ∈ bs, x.1 < B) (hf : ∀ x ∈ fs, x.1 ≤ B) (hh : hi ≤ B) (hn : nb < B) (hi' : wi < B) (hs : hi ≤ W.heap.size) : HK w W3 bs fs lo hi nb wi n pre W' :=
  ⟨h.kb.keepB hk hw hb hf, h.kept.trans fun k _ h2 => hk.block k (by omega) (by omega), h.wh.keepB hk hi', h.n.keepB hk hn⟩
theorem HK.next (h : HK w W3 bs fs lo hi nb wi n pre W) {i : Nat} (hi' : i ∉ pre) (hne : wi ≠ nb) (hn : ∀ x ∈ bs, x.1 ≠ nb ∧ x.1 ≠ wi) (hf : ∀ x ∈ fs, x.1 ≤ nb ∧ x.1 ≤ wi) (hh : hi ≤ nb ∧ hi ≤ wi) (hw : w.heap.size ≤ nb ∧ w.heap.size ≤ wi) :
    HK w W3 bs fs lo hi nb wi n (pre ++ [i]) ((W.setCell ⟨nb, 0, none⟩ (.int .i64 ((pre.length : Int) + 1))).setCell ⟨wi, i, none⟩ (.int .i64 ((pre.length : Int) + 1))) := by
  refine ⟨(h.kb.set (fun x hx => (hn x hx).1) (fun x hx => (hf x hx).1) hw.1 _).set (fun x hx => (hn x hx).2) (fun x hx => (hf x hx).2) hw.2 _,
    (h.kept.trans fun k _ h2 => Below.heap_setCell _ _ _ _ (by show k ≠ nb; omega)).trans fun k _ h2 => Below.heap_setCell _ _ _ _ (by show k ≠ wi; omega), ?_, ?_⟩
  · rw [← whenL_new hi', ← intsOf_set]
    exact (h.wh.far hne _).set _ _
  · have h1 := (h.n.set 0 (.int .i64 ((pre.length : Int) + 1))).far (p := ⟨wi, i, none⟩) (fun e => hne e.symm) (.int .i64 ((pre.length : Int) + 1))
    simpa using h1
end

set_option maxRecDepth 100000 in
set_option maxHeartbeats 6400000 in
theorem funHolds_walk (F : Fd) (v : Value) (w : World) (h : FunI w 0 w.heap.size v F) : Calls Try.prog 8 #[v] w fun e w' => e = .returned (.bool true) ∧ Below w.heap.size w w' := by
  obtain ⟨A, c, rfl⟩ := h.form
  have hK0 := (KB.law w h).pushB 4 #[.bool false]
  rw [World.size_alloc] at hK0
  obtain ⟨bs, hbs⟩ : ∃ l : List (Nat × TypeId × Array Value), [(w.heap.size + 1, 4, #[Value.bool false]), (w.heap.size, 24, #[.int .i64 F.p, .slice A F.ns.length c])] = l := ⟨_, rfl⟩
  obtain ⟨fs, hfs⟩ : ∃ l : List (Nat × Value × Fd), [(w.heap.size, Value.agg #[.int .i64 F.p, .slice A F.ns.length c], F)] = l := ⟨_, rfl⟩
  have mA : (w.heap.size, 24, #[Value.int .i64 F.p, .slice A F.ns.length c]) ∈ bs := by rw [← hbs]; simp
  have m0 : (w.heap.size + 1, 4, #[Value.bool false]) ∈ bs := by rw [← hbs]; simp
  have MF : (w.heap.size, Value.agg #[.int .i64 F.p, .slice A F.ns.length c], F) ∈ fs := by rw [← hfs]; simp
  have MX : ∀ x ∈ fs, x.1 ≤ w.heap.size := by rw [← hfs]; simp
  rw [hbs, hfs] at hK0
  have hK := Lib.hid hK0
  obtain ⟨a0, a1, la⟩ := KB.box2 hK mA
  obtain ⟨z0, fz, lz⟩ := KB.box1 hK m0
  have HF := Lib.hid (fun W (hk : Hid (KB w bs fs W)) => hk.out.call (few_ok W (hk.out.funI MF) (Nat.le_refl _)))
  have HF0 := Lib.hid h.nodes
  have HX := Lib.hid (fun W (hk : Hid (KB w bs fs W)) => hk.out.call (works_ok6 W))
  have HN := Lib.hid (fun n W => num_ok6 n W)
  have HMX := Lib.hid MX
  clear hbs hfs hK0 h MX
  cases hf : fewB F
  · rw [hf] at HF
    clear hf
    refine calls_of_wp_marks 5 Try.func8 rfl ?_
    simp only [Try.ntmps8, List.size_toArray, List.length_cons, List.length_nil, Nat.reduceAdd, Nat.reduceSub, Array.replicate_succ, Array.replicate_zero, List.push_toArray, List.append_toArray, List.nil_append, List.cons_append]
    go_wp2_with (first | (go_at_call 9; (with_reducible refine (HF.out _ hK).mono ?_); rintro e w1 ⟨rfl, hK⟩; obtain ⟨a0, a1, la⟩ := KB.box2 hK mA; obtain ⟨z0, fz, lz⟩ := KB.box1 hK m0) | (go_at_call 10; (with_reducible refine (HX.out _ hK).mono ?_); rintro e w1 ⟨rfl, hK⟩; obtain ⟨a0, a1, la⟩ := KB.box2 hK mA; obtain ⟨z0, fz, lz⟩ := KB.box1 hK m0))
    have ob := hK.out.own _ _ _ m0
    have h4E := ob.2.set 0 (.bool true)
    have hdE : ∀ E ∈ ([] : List Nat), (w1.setCell ⟨w.heap.size + 1, 0, none⟩ (.bool true)).heap[E]? = some (.deferred (some [])) := by simp
    refine leaves_marks [] _ (by simp) hdE (fun w' hm => ?_)
    have h4' := (hm.blk hdE h4E).cell 0
    simp at h4'
    exact ⟨.bool true, by simp [results, Try.results8, go_sem, h4'], rfl, hm.below (hK.out.bl.setCell ob.1 _) (by simp)⟩
  have hfew := (few_iff.1 hf).1
  rw [hf] at HF
  clear hf
  cases hp : placesF F with
  | bad k =>
    have HP := Lib.hid hp
    have HO := Lib.hid (fun W (hk : Hid (KB w bs fs W)) => hk.out.call (Order_bad W (hk.out.funI MF) HP.out))
    have hqO := eqlO
    clear hp
    refine calls_of_wp_marks 5 Try.func8 rfl ?_
    simp only [Try.ntmps8, List.size_toArray, List.length_cons, List.length_nil, Nat.reduceAdd, Nat.reduceSub, Array.replicate_succ, Array.replicate_zero, List.push_toArray, List.append_toArray, List.nil_append, List.cons_append]
    go_upto_region 6 with (first | (go_at_call 9; (with_reducible refine (HF.out _ hK).mono ?_); rintro e w1 ⟨rfl, hK⟩; obtain ⟨a0, a1, la⟩ := KB.box2 hK mA; obtain ⟨z0, fz, lz⟩ := KB.box1 hK m0) | (go_at_call 20; (with_reducible refine (HO.out _ hK).mono ?_); rintro e w2 ⟨rfl, hK⟩; obtain ⟨a0, a1, la⟩ := KB.box2 hK mA; obtain ⟨z0, fz, lz⟩ := KB.box1 hK m0))
    clear hqO
    have hlts := hK.out.lts
    have hwl := hK.out.bl.size
    obtain ⟨i0, hi0', hz0, hz1, hz2⟩ := info_parts6 intInfo
    have hmk : (Instr.makeSlice 45 (.int .i64 (F.ns.length : Int)) (.int .i64 (F.ns.length : Int))).run Try.prog w2 = .ok (.slice (some ⟨w2.heap.size, 0, none⟩) F.ns.length F.ns.length) (w2.alloc (.cells (fillC F.ns.length 0 0) 3)) := by
      have hr := run_make (P := Try.prog) w2 45 3 i0 _ Try.underlying45 hi0' hz0 .i64 .i64 F.ns.length F.ns.length (by omega) (Int.le_refl _) (by rw [hz2]; omega) (by omega)
      rw [fillC_zero]
      simpa [hz1, Value.cells] using hr
    have HK2 := hK
    have HLT := Lib.hid (And.intro hlts hwl)
    clear hi0' hz0 hz1 hz2 i0 hlts hwl HF HO hK
    go_upto_region 8 with fail
    clear hmk
    obtain ⟨hlts, hwl⟩ := HLT.out
    obtain ⟨W3, hW3⟩ : ∃ X, ((w2.alloc (.cells (fillC F.ns.length 0 0) 3)).alloc (.cells #[.slice (some ⟨w2.heap.size, 0, none⟩) F.ns.length F.ns.length] 45)).alloc (.cells #[.int .i64 0] 3) = X := ⟨_, rfl⟩
    have k3 : KB w bs fs W3 := by
      rw [← hW3]
      exact ((HK2.out.alloc (.cells (fillC F.ns.length 0 0) 3)).alloc (.cells #[.slice (some ⟨w2.heap.size, 0, none⟩) F.ns.length F.ns.length] 45)).alloc (.cells #[.int .i64 0] 3)
    have n3 : Blk W3 (w2.heap.size + 1 + 1) 3 #[.int .i64 (([] : List Nat).length : Int)] := by rw [← hW3]; exact blkN (by simp) _ _
    have i3 : Blk W3 w2.heap.size 3 (intsOf (whenL F.ns.length [])) := by
      rw [← hW3, whenL_nil]
      have := ((Blk.new w2 3 (fillC F.ns.length 0 0)).alloc (.cells #[.slice (some ⟨w2.heap.size, 0, none⟩) F.ns.length F.ns.length] 45)).alloc (.cells #[.int .i64 0] 3)
      simpa [fillC] using this
    have hs3 : W3.heap.size = w2.heap.size + 1 + 1 + 1 := by rw [← hW3]; simp
    rw [hW3]
    obtain ⟨nb, hnb⟩ : ∃ g, w2.heap.size + 1 + 1 = g := ⟨_, rfl⟩
    obtain ⟨wb, hwb⟩ : ∃ g, w2.heap.size + 1 = g := ⟨_, rfl⟩
    obtain ⟨wi, hwi⟩ : ∃ g, w2.heap.size = g := ⟨_, rfl⟩
    rw [hnb] at n3
    rw [hwi] at hlts hs3 hwl i3
    rw [hnb, hwb, hwi]
    have HORD := Lib.hid (show wi < nb ∧ nb < W3.heap.size ∧ w.heap.size ≤ wi from ⟨by omega, by omega, hwl⟩)
    have HB := Lib.hid (show (∀ x ∈ bs, x.1 < wi) ∧ (∀ x ∈ fs, x.1 ≤ wi) from hlts)
    have r0 : HK w W3 bs fs 0 0 nb wi F.ns.length [] W3 := ⟨k3, fun _ _ _ => rfl, i3, n3⟩
    clear hW3 hnb hwb hwi hs3 hwl hlts HK2 HLT
    go_wp2_with fail
    refine wp_rangeN 4 rfl (enters_of Try.func37 (by kernel_rfl) rfl) (order1_seqs (encO F) (fun _ _ => True)) (fun W i x xa hx => by obtain ⟨_, _, rfl⟩ := hx; rfl) (HK w W3 bs fs 0 0 nb wi F.ns.length) (fun _ _ _ => False) (fun _ _ => False) (fun _ _ h => h)
      (fun s X Y hs hk => hs.keepB hk (by have := HORD.out; omega) (fun x hx => by have := HB.out.1 x hx; have := HORD.out; omega) (fun x hx => by have := HB.out.2 x hx; have := HORD.out; omega) (by omega) (by have := HORD.out; omega) (by have := HORD.out; omega) (by omega))
      (fun cd s X Y hs hk => hs)
      (fun pre W' hi' => trivial) r0 ?round ?done ?panic ?stop
    case panic => intro D ch W1 _ hf; exact hf.elim
    case stop => intro D cd pre W1 _ _ hf; exact hf.elim
    case round =>
      intro l' pre i rest W xa hsz hx hr hxa
      simp at hx
    case done =>
      intro D W hD hr hdef
      have k4 : KM w ((nb, 3, #[.int .i64 0]) :: bs) fs [D] W := ⟨hr.kb.addB (by simpa using hr.n) (by have := HORD.out; omega), fun E hE => by
        rw [List.mem_singleton] at hE
        subst hE
        exact ⟨by have := k3.bl.size; omega, hdef⟩⟩
      obtain ⟨bs3, hbs3⟩ : ∃ l : List (Nat × TypeId × Array Value), (nb, 3, #[Value.int .i64 0]) :: bs = l := ⟨_, rfl⟩
      rw [hbs3] at k4
      have mn3 : (nb, 3, #[Value.int .i64 0]) ∈ bs3 := by rw [← hbs3]; simp
      have mA3 : (w.heap.size, 24, #[Value.int .i64 F.p, .slice A F.ns.length c]) ∈ bs3 := by rw [← hbs3]; simp [mA]
      have m03 : (w.heap.size + 1, 4, #[Value.bool false]) ∈ bs3 := by rw [← hbs3]; simp [m0]
      have HC := Lib.hid (fun W (hk : Hid (KM w bs3 fs [D] W)) => hk.out.call (Q := fun e => e = .returned (.int .i64 60)) (by have h := Check_ok6 W (hk.out.kb.funI MF); unfold whereF at h; rw [HP.out] at h; exact h))
      have HXM := Lib.hid (fun W (hk : Hid (KM w bs3 fs [D] W)) => hk.out.call (works_ok6 W))
      have hK := Lib.hid k4
      clear r0 k3 n3 i3 hr hdef k4 hbs3 HX a0 a1 la z0 fz lz
      obtain ⟨a0, a1, la⟩ := KM.box2 hK mA3
      obtain ⟨n0, fn, ln⟩ := KM.box1 hK mn3
      obtain ⟨z0, fz, lz⟩ := KM.box1 hK m03
      go_wp2_with (first | (go_at_call 14; (with_reducible refine (HC.out _ hK).mono ?_); rintro e w1 ⟨rfl, hK⟩; obtain ⟨a0, a1, la⟩ := KM.box2 hK mA3; obtain ⟨n0, fn, ln⟩ := KM.box1 hK mn3; obtain ⟨z0, fz, lz⟩ := KM.box1 hK m03) | (go_at_call 13; (with_reducible refine (HN.out _ _).mono ?_); rintro e w3 ⟨rfl, rfl⟩) | (go_at_call 10; (with_reducible refine (HXM.out _ hK).mono ?_); rintro e w1 ⟨rfl, hK⟩; obtain ⟨a0, a1, la⟩ := KM.box2 hK mA3; obtain ⟨n0, fn, ln⟩ := KM.box1 hK mn3; obtain ⟨z0, fz, lz⟩ := KM.box1 hK m03))
      have ob := hK.out.kb.own _ _ _ m03
      have h4E := ob.2.set 0 (.bool true)
      have hmE : MK w.heap.size [D] (w1.setCell ⟨w.heap.size + 1, 0, none⟩ (.bool true)) := hK.out.ms.set ob.2 _
      have hdE : ∀ E ∈ [D], (w1.setCell ⟨w.heap.size + 1, 0, none⟩ (.bool true)).heap[E]? = some (.deferred (some [])) := fun E hE => (hmE E hE).2
      refine leaves_marks [D] _ (by simp) hdE (fun w' hm => ?_)
      have h4' := (hm.blk hdE h4E).cell 0
      simp at h4'
      exact ⟨.bool true, by simp [results, Try.results8, go_sem, h4'], rfl, hm.below (hK.out.kb.bl.setCell ob.1 _) (fun E hE => (hmE E hE).1)⟩
  | ok st =>
    have HP := Lib.hid hp
    have HO := Lib.hid (fun W (hk : Hid (KB w bs fs W)) => hk.out.iter (Order_ok W (hk.out.funI MF) HP.out))
    have hqO := eqlO
    clear hp
    refine calls_of_wp_marks 5 Try.func8 rfl ?_
    simp only [Try.ntmps8, List.size_toArray, List.length_cons, List.length_nil, Nat.reduceAdd, Nat.reduceSub, Array.replicate_succ, Array.replicate_zero, List.push_toArray, List.append_toArray, List.nil_append, List.cons_append]
    go_upto_region 6 with (first | (go_at_call 9; (with_reducible refine (HF.out _ hK).mono ?_); rintro e w1 ⟨rfl, hK⟩; obtain ⟨a0, a1, la⟩ := KB.box2 hK mA; obtain ⟨z0, fz, lz⟩ := KB.box1 hK m0) | (go_at_call 20; (with_reducible refine (HO.out _ hK).mono ?_); rintro e w2 ⟨kb, hi, Ak, ck, rfl, hQ⟩))
    clear hqO
    obtain ⟨hhk, hKO⟩ := hQ.out
    have hwl := hKO.bl.size
    have hlts := hKO.lts
    obtain ⟨a0, a1, la⟩ := KB.box2 (Lib.hid hKO) (List.mem_cons_of_mem _ mA)
    obtain ⟨i0, hi0', hz0, hz1, hz2⟩ := info_parts6 intInfo
    have hmk : (Instr.makeSlice 45 (.int .i64 (F.ns.length : Int)) (.int .i64 (F.ns.length : Int))).run Try.prog w2 = .ok (.slice (some ⟨w2.heap.size, 0, none⟩) F.ns.length F.ns.length) (w2.alloc (.cells (fillC F.ns.length 0 0) 3)) := by
      have hr := run_make (P := Try.prog) w2 45 3 i0 _ Try.underlying45 hi0' hz0 .i64 .i64 F.ns.length F.ns.length (by omega) (Int.le_refl _) (by rw [hz2]; omega) (by omega)
      rw [fillC_zero]
      simpa [hz1, Value.cells] using hr
    have HKO := Lib.hid hKO
    have HLT := Lib.hid (And.intro hlts (And.intro hwl hhk))
    clear hi0' hz0 hz1 hz2 i0 hKO hlts hwl hhk hQ HF HO hK
    go_upto_region 8 with fail
    clear hmk
    obtain ⟨hlts, hwl, hhk⟩ := HLT.out
    obtain ⟨W3, hW3⟩ : ∃ X, ((w2.alloc (.cells (fillC F.ns.length 0 0) 3)).alloc (.cells #[.slice (some ⟨w2.heap.size, 0, none⟩) F.ns.length F.ns.length] 45)).alloc (.cells #[.int .i64 0] 3) = X := ⟨_, rfl⟩
    have k3 : KB w ((w2.heap.size + 1, 45, #[.slice (some ⟨w2.heap.size, 0, none⟩) F.ns.length F.ns.length]) :: (kb, 24, #[.int .i64 F.p, .slice Ak F.ns.length ck]) :: bs) ((hi, .agg #[.int .i64 F.p, .slice Ak F.ns.length ck], F) :: fs) W3 := by
      rw [← hW3]
      have h := ((HKO.out.alloc (.cells (fillC F.ns.length 0 0) 3)).pushB 45 #[.slice (some ⟨w2.heap.size, 0, none⟩) F.ns.length F.ns.length]).alloc (.cells #[.int .i64 0] 3)
      simp only [World.size_alloc] at h
      exact h
    have n3 : Blk W3 (w2.heap.size + 1 + 1) 3 #[.int .i64 (([] : List Nat).length : Int)] := by rw [← hW3]; exact blkN (by simp) _ _
    have i3 : Blk W3 w2.heap.size 3 (intsOf (whenL F.ns.length [])) := by
      rw [← hW3, whenL_nil]
      have := ((Blk.new w2 3 (fillC F.ns.length 0 0)).alloc (.cells #[.slice (some ⟨w2.heap.size, 0, none⟩) F.ns.length F.ns.length] 45)).alloc (.cells #[.int .i64 0] 3)
      simpa [fillC] using this
    have hs3 : W3.heap.size = w2.heap.size + 1 + 1 + 1 := by rw [← hW3]; simp
    rw [hW3]
    obtain ⟨nb, hnb⟩ : ∃ g, w2.heap.size + 1 + 1 = g := ⟨_, rfl⟩
    obtain ⟨wb, hwb⟩ : ∃ g, w2.heap.size + 1 = g := ⟨_, rfl⟩
    obtain ⟨wi, hwi⟩ : ∃ g, w2.heap.size = g := ⟨_, rfl⟩
    rw [hnb] at n3
    rw [hwb, hwi] at k3
    rw [hwi] at hlts hs3 hwl i3
    rw [hnb, hwb, hwi]
    have hord : wi < wb ∧ wb < nb ∧ nb < W3.heap.size ∧ hi ≤ wi ∧ w.heap.size ≤ wi := ⟨by omega, by omega, by omega, hlts.2 (hi, .agg #[.int .i64 F.p, .slice Ak F.ns.length ck], F) (by simp), hwl⟩
    have HORD := Lib.hid hord
    have bnd : (∀ x ∈ (wb, 45, #[Value.slice (some ⟨wi, 0, none⟩) F.ns.length F.ns.length]) :: (kb, 24, #[.int .i64 F.p, .slice Ak F.ns.length ck]) :: bs, x.1 ≠ nb ∧ x.1 ≠ wi ∧ x.1 < W3.heap.size) ∧ (∀ x ∈ (hi, Value.agg #[.int .i64 F.p, .slice Ak F.ns.length ck], F) :: fs, x.1 ≤ wi) := by
      refine ⟨fun x hx => ?_, fun x hx => hlts.2 x hx⟩
      rcases List.mem_cons.1 hx with rfl | hx
      · exact ⟨by show wb ≠ nb; omega, by show wb ≠ wi; omega, by show wb < _; omega⟩
      · have := hlts.1 x hx; omega
    clear hW3 hnb hwb hwi hs3 hwl hord hlts HKO HLT
    obtain ⟨bs2, hbs2⟩ : ∃ l : List (Nat × TypeId × Array Value), (wb, 45, #[Value.slice (some ⟨wi, 0, none⟩) F.ns.length F.ns.length]) :: (kb, 24, #[.int .i64 F.p, .slice Ak F.ns.length ck]) :: bs = l := ⟨_, rfl⟩
    obtain ⟨fs2, hfs2⟩ : ∃ l : List (Nat × Value × Fd), (hi, Value.agg #[.int .i64 F.p, .slice Ak F.ns.length ck], F) :: fs = l := ⟨_, rfl⟩
    rw [hbs2, hfs2] at k3 bnd
    have mw : (wb, 45, #[Value.slice (some ⟨wi, 0, none⟩) F.ns.length F.ns.length]) ∈ bs2 := by rw [← hbs2]; simp
    have mk : (kb, 24, #[Value.int .i64 F.p, .slice Ak F.ns.length ck]) ∈ bs2 := by rw [← hbs2]; simp
    have mA2 : (w.heap.size, 24, #[Value.int .i64 F.p, .slice A F.ns.length c]) ∈ bs2 := by rw [← hbs2]; simp [mA]
    have m02 : (w.heap.size + 1, 4, #[Value.bool false]) ∈ bs2 := by rw [← hbs2]; simp [m0]
    have mO : (hi, Value.agg #[.int .i64 F.p, .slice Ak F.ns.length ck], F) ∈ fs2 := by rw [← hfs2]; simp
    have MF2 : (w.heap.size, Value.agg #[.int .i64 F.p, .slice A F.ns.length c], F) ∈ fs2 := by rw [← hfs2]; simp [MF]
    have hFI := (k3.fn _ _ _ mO).1
    have hTR := tr_of HP.out
    have hsq := order2_seqs (tree_of HP.out) W3 0 hi kb _ hFI
    have r0 : HK w W3 bs2 fs2 0 hi nb wi F.ns.length [] W3 := ⟨k3, fun _ _ _ => rfl, i3, n3⟩
    have HT := Lib.hid hTR
    have HB := Lib.hid bnd
    clear hbs2 hfs2 hhk
    go_wp2_with fail
    refine wp_rangeN 4 rfl (enters_of Try.func38 (by kernel_rfl) rfl) hsq (fun W i x xa hx => by obtain ⟨_, _, rfl⟩ := hx; rfl) (HK w W3 bs2 fs2 0 hi nb wi F.ns.length) (fun _ _ _ => False) (fun _ _ => False) (fun _ _ h => h)
      (fun s X Y hs hk => hs.keepB hk (by have := HORD.out; omega) (fun x hx => (HB.out.1 x hx).2.2) (fun x hx => by have := HB.out.2 x hx; have := HORD.out; omega) (by have := HORD.out; omega) (by have := HORD.out; omega) (by have := HORD.out; omega) (by have := hs.n.lt; have := HORD.out; omega))
      (fun cd s X Y hs hk => hs)
      (fun pre W' hi' => ⟨hi'.kept, (hi'.kb.own _ _ _ mk).2⟩) r0 ?round ?done ?panic ?stop
    case panic => intro D ch W1 _ hf; exact hf.elim
    case stop => intro D cd pre W1 _ _ hf; exact hf.elim
    case round =>
      intro l' pre i rest W xa hsz hx hr hxa
      obtain ⟨x, hxi, rfl⟩ := hxa
      refine .inl ?_
      gi_wp2
      refine ⟨Since.refl _ _, hr, ?_⟩
      rintro W2 ht hr2
      have hil : i < F.ns.length := (List.getElem?_eq_some_iff.1 hxi).1
      have hnd := done_nodup HT.out
      rw [hx] at hnd
      have hpl : pre.length < 300 := by
        have h1 := done_len HT.out
        rw [hx, List.length_append, List.length_cons] at h1
        omega
      have hni : i ∉ pre := fun hm => by
        rw [List.nodup_append] at hnd
        exact hnd.2.2 i hm i (by simp) rfl
      have hnx := hr2.next hni (by have := HORD.out; omega) (fun y hy => ⟨(HB.out.1 y hy).1, (HB.out.1 y hy).2.1⟩) (fun y hy => by have := HB.out.2 y hy; have := HORD.out; omega) (by have := HORD.out; omega) (by have := HORD.out; omega)
      have hK2 := Lib.hid hr2.kb
      obtain ⟨c0, c1, lt⟩ := KB.box2 hK2 mA2
      obtain ⟨v0, _, lv⟩ := KB.box1 hK2 mw
      have n0 := hr2.n.cell 0
      have fn := hr2.n.frozen 0
      have ln := hr2.n.lt
      have q0 := hr2.wh.cell i
      have fq := hr2.wh.frozen i
      have lq := hr2.wh.lt
      rw [intsOf_get (whenL_get hil)] at q0
      have e0 : whenI pre i = 0 := by unfold whenI; rw [if_neg hni]
      rw [e0] at q0
      simp at n0
      obtain ⟨b, o, s, rfl, _, hbl, d0, d1, d2, hs, _, _⟩ := (hr2.kb.fn _ _ _ MF2).1.nodes.at_ hxi
      have lb := lt_of_cell d0
      have hA : ¬ (i : Int) < 0 := by omega
      have hA2 : (0 : Int) ≤ (i : Int) := by omega
      have hB' : ¬ (F.ns.length : Int) ≤ (i : Int) := by omega
      have hC : (i : Int) < (F.ns.length : Int) := by omega
      have hE : (x.op != x.op) = false := by simp
      have hw : IntKind.i64.wrap ((pre.length : Int) + 1) = (pre.length : Int) + 1 := IntWalk.i64_in _ (by omega)
      have hsn : Since W3.heap.size W2 ((W2.setCell ⟨nb, 0, none⟩ (.int .i64 ((pre.length : Int) + 1))).setCell ⟨wi, i, none⟩ (.int .i64 ((pre.length : Int) + 1))) := ((Since.refl _ _).setCell (by show nb < W3.heap.size; have := HORD.out; omega) _).setCell (by show wi < W3.heap.size; have := HORD.out; omega) _
      have HNX := Lib.hid (And.intro hsn hnx)
      have hnw : nb ≠ wi := by have := HORD.out; omega
      have hwn : wb ≠ nb := by have := HORD.out; omega
      have hin : wi ≠ nb := by have := HORD.out; omega
      have hbn : b < nb := by have := HORD.out; omega
      have hbi : b < wi := by have := HORD.out; omega
      clear hsn hnx hr2 ht hr hsq hFI r0 k3 n3 i3 hnd hpl hni bnd hTR e0 hx hs hbl hxi
      gi_wp2
      exact HNX.out
    case done =>
      intro D W hD hr hdef
      have hle := done_len HT.out
      have hn4 := hr.n
      rw [hle] at hn4
      have k4 : KM w ((nb, 3, #[.int .i64 (F.ns.length : Int)]) :: (wi, 3, intsOf (whenL F.ns.length (doneF F F.ns.length 0))) :: bs2) fs2 [D] W := ⟨(hr.kb.addB hr.wh (by have := HORD.out; omega)).addB hn4 (by have := HORD.out; omega), fun E hE => by
        rw [List.mem_singleton] at hE
        subst hE
        exact ⟨by have := k3.bl.size; omega, hdef⟩⟩
      obtain ⟨L, hL⟩ : ∃ l, whenL F.ns.length (doneF F F.ns.length 0) = l := ⟨_, rfl⟩
      have HL : Hid (∀ j, j < F.ns.length → L[j]? = some ((atF F j : Int) + 1)) := Lib.hid fun j hj => by rw [← hL, whenL_get hj, whenI_done HT.out hj]
      rw [hL] at k4
      obtain ⟨bs3, hbs3⟩ : ∃ l : List (Nat × TypeId × Array Value), (nb, 3, #[Value.int .i64 (F.ns.length : Int)]) :: (wi, 3, intsOf L) :: bs2 = l := ⟨_, rfl⟩
      rw [hbs3] at k4
      have mn3 : (nb, 3, #[Value.int .i64 (F.ns.length : Int)]) ∈ bs3 := by rw [← hbs3]; simp
      have mi3 : (wi, 3, intsOf L) ∈ bs3 := by rw [← hbs3]; simp
      have mw3 : (wb, 45, #[Value.slice (some ⟨wi, 0, none⟩) F.ns.length F.ns.length]) ∈ bs3 := by rw [← hbs3]; simp [mw]
      have mA3 : (w.heap.size, 24, #[Value.int .i64 F.p, .slice A F.ns.length c]) ∈ bs3 := by rw [← hbs3]; simp [mA2]
      have m03 : (w.heap.size + 1, 4, #[Value.bool false]) ∈ bs3 := by rw [← hbs3]; simp [m02]
      have hpl : 0 ≤ F.p ∧ F.p ≤ 9 := by
        have h1 := (places_ok HP.out).1
        unfold boundsB at h1
        simp only [Bool.and_eq_true, decide_eq_true_eq] at h1
        exact h1.1
      have HVA := Lib.hid (fun j hj => va_range HT.out hpl j j (Nat.le_refl _) hj)
      have HC := Lib.hid (fun W (hk : Hid (KM w bs3 fs2 [D] W)) => hk.out.call (Q := fun e => e = .returned (.int .i64 0)) (by have h := Check_ok6 W (hk.out.kb.funI MF2); unfold whereF at h; rw [HP.out] at h; exact h))
      have HDN := Lib.hid (fun (j : Nat) (hj : j < F.ns.length) W (hk : Hid (KM w bs3 fs2 [D] W)) => hk.out.call (Q := fun e => e = .returned (.tuple #[.int .i64 (va st j), .int .i64 0])) (by
        have h := Depth_ok (j : Int) W (hk.out.kb.funI MF2)
        unfold depthF at h
        rw [HP.out] at h
        have hb : hasB (j : Int) F.ns.length = true := decide_eq_true ⟨by omega, by omega⟩
        simp only [hb, if_true, Int.toNat_natCast] at h
        exact h))
      have HPN := Lib.hid (fun (j i : Nat) (hj : j < F.ns.length) (hi : pa st j = (i : Int)) W (hk : Hid (KM w bs3 fs2 [D] W)) => hk.out.call (Q := fun e => e = .returned (.tuple #[.int .i64 (i : Int), .int .i64 0])) (by
        have h := Parent_ok (j : Int) W (hk.out.kb.funI MF2)
        unfold parentF at h
        rw [HP.out] at h
        have hb : hasB (j : Int) F.ns.length = true := decide_eq_true ⟨by omega, by omega⟩
        have hi' : st.1.getD j 0 = (i : Int) := hi
        have hne : ¬ (i : Int) = -1 := by omega
        simp only [hb, if_true, Int.toNat_natCast, hi', if_neg hne] at h
        exact h))
      have HXM := Lib.hid (fun W (hk : Hid (KM w bs3 fs2 [D] W)) => hk.out.call (works_ok6 W))
      have hK := Lib.hid k4
      have HD3 := Lib.hid (show w.heap.size + 1 < D by have := HORD.out; omega)
      clear hsq hFI r0 k3 n3 i3 hr hdef hle hn4 k4 hL hbs3 bnd hTR hpl HX a0 a1 la z0 fz lz
      obtain ⟨a0, a1, la⟩ := KM.box2 hK mA3
      obtain ⟨v0, fv, lv⟩ := KM.box1 hK mw3
      obtain ⟨n0, fn, ln⟩ := KM.box1 hK mn3
      go_wp2_with (first | (go_at_call 14; (with_reducible refine (HC.out _ hK).mono ?_); rintro e w1 ⟨rfl, hK⟩; obtain ⟨a0, a1, la⟩ := KM.box2 hK mA3; obtain ⟨v0, fv, lv⟩ := KM.box1 hK mw3; obtain ⟨n0, fn, ln⟩ := KM.box1 hK mn3) | (go_at_call 13; (with_reducible refine (HN.out _ _).mono ?_); rintro e w3 ⟨rfl, rfl⟩))
      have HK0 := hK
      clear hK a0 a1 la v0 fv lv n0 fn ln
      go_loopw [8] (fun p wr => ∃ i : Nat, i ≤ F.ns.length ∧ p = .int .i64 (i : Int) ∧ Hid (KM w bs3 fs2 [D] wr)) (fun p _ => F.ns.length - (intOf p).toNat)
      case atStart => exact ⟨0, Nat.zero_le _, rfl, HK0⟩
      case round =>
        obtain ⟨i, hi', rfl, hKi⟩ := hrel
        clear HK0
        have hK := hKi
        have hi0 : (0 : Int) ≤ (i : Int) := by omega
        obtain ⟨a0, a1, la⟩ := KM.box2 hK mA3
        obtain ⟨v0, fv, lv⟩ := KM.box1 hK mw3
        obtain ⟨n0, fn, ln⟩ := KM.box1 hK mn3
        by_cases hlt : i < F.ns.length
        · have hltI : (i : Int) < (F.ns.length : Int) := by omega
          have hwi : IntKind.i64.wrap ((i : Int) + 1) = (i : Int) + 1 := IntWalk.i64_in _ (by omega)
          obtain ⟨x, hx⟩ : ∃ x, F.ns[i]? = some x := ⟨_, List.getElem?_eq_getElem hlt⟩
          obtain ⟨b, o, s, rfl, _, hbl, D0, D1, D2, hs, _, _⟩ := HF0.out.at_ hx
          obtain ⟨S, cs, rfl, _, _⟩ := hs.form
          have HD0 := Lib.hid D0
          have HD2 := Lib.hid D2
          have hl16 := (HT.out.tree.kids i x hx).1
          have HXX := Lib.hid (And.intro hx hs)
          have hva := HVA.out i hlt
          obtain ⟨vi, hvi⟩ : ∃ vi, va st i = vi := ⟨_, rfl⟩
          have HDI := Lib.hid (fun W (hk : Hid (KM w bs3 fs2 [D] W)) => HDN.out i hlt W hk)
          rw [hvi] at HDI hva
          have HVI := Lib.hid hvi
          clear D0 D1 D2 hs hx hvi
          have hK := hKi
          have d0 := belC hK.out.kb.bl HD0.out
          have d2 := belC hK.out.kb.bl HD2.out
          have lb := lt_of_cell d0
          obtain ⟨wI, hwI⟩ : ∃ z, (atF F i : Int) + 1 = z := ⟨_, rfl⟩
          have hLi := HL.out i hlt
          rw [hwI] at hLi
          have hIpos : ¬ wI = 0 := by omega
          have HWI0 := Lib.hid (And.intro hLi hwI)
          clear hLi hwI
          go_wp2_with ((go_at_call 15; (with_reducible refine (HDI.out _ hK).mono ?_); rintro e w1 ⟨rfl, hK⟩; obtain ⟨a0, a1, la⟩ := KM.box2 hK mA3; obtain ⟨v0, fv, lv⟩ := KM.box1 hK mw3; obtain ⟨n0, fn, ln⟩ := KM.box1 hK mn3; have d0 := belC hK.out.kb.bl HD0.out; have d2 := belC hK.out.kb.bl HD2.out; have lb := lt_of_cell d0))
          have HK1 := hK
          clear hK a0 a1 la v0 fv lv n0 fn ln d0 d2 lb
          go_loopw [11] (fun q wy => ∃ m : Nat, m ≤ x.l.length ∧ q = .int .i64 (m : Int) ∧ Hid (KM w bs3 fs2 [D] wy)) (fun q _ => x.l.length - (intOf q).toNat)
          case atStart => exact ⟨0, Nat.zero_le _, rfl, HK1⟩
          case round =>
            obtain ⟨m, hm, rfl, hKm⟩ := hrel
            clear HK1
            have hK := hKm
            have hm0 : (0 : Int) ≤ (m : Int) := by omega
            obtain ⟨a0, a1, la⟩ := KM.box2 hK mA3
            obtain ⟨v0, fv, lv⟩ := KM.box1 hK mw3
            obtain ⟨n0, fn, ln⟩ := KM.box1 hK mn3
            have d0 := belC hK.out.kb.bl HD0.out
            have d2 := belC hK.out.kb.bl HD2.out
            have lb := lt_of_cell d0
            by_cases hml : m < x.l.length
            · have hmI : (m : Int) < (x.l.length : Int) := by omega
              have hwm : IntKind.i64.wrap ((m : Int) + 1) = (m : Int) + 1 := IntWalk.i64_in _ (by omega)
              obtain ⟨ch, hch⟩ : ∃ ch, x.l[m]? = some ch := ⟨_, List.getElem?_eq_getElem hml⟩
              have hkk := (HT.out.tree.kids i x HXX.out.1).2 ch (List.mem_of_getElem? hch)
              obtain ⟨cn, rfl⟩ : ∃ cn : Nat, ch = (cn : Int) := ⟨ch.toNat, by omega⟩
              have hcn : cn < F.ns.length := by omega
              obtain ⟨b2, o2, rfl, _, _, G0, _⟩ := HXX.out.2.at_ hch
              have HG0 := Lib.hid G0
              have hkd := HT.out.run.kid i x m (cn : Int) hlt HXX.out.1 hch
              simp only [Int.toNat_natCast] at hkd
              have hak := atF_kid HT.out HXX.out.1 hch
              simp only [Int.toNat_natCast] at hak
              have hLc := HL.out cn hcn
              obtain ⟨wc, hwc⟩ : ∃ z, (atF F cn : Int) + 1 = z := ⟨_, rfl⟩
              rw [hwc] at hLc
              have hlew : ¬ wI ≤ wc := by have := HWI0.out.2; omega
              have HWI : Hid (L[i]? = some wI ∧ L[cn]? = some wc) := Lib.hid ⟨HWI0.out.1, hLc⟩
              have hpc : ¬ (cn : Int) ≤ (i : Int) := by omega
              have hcI : (cn : Int) < (F.ns.length : Int) := by omega
              have hc0 : (0 : Int) ≤ (cn : Int) := by omega
              have hcL : ¬ (F.ns.length : Int) ≤ (cn : Int) := by omega
              have hnei : ((i : Int) != (i : Int)) = false := by simp
              have hPr : Hid (∀ m1 : Nat, m = m1 + 1 → ∃ pn : Nat, ∃ wp : Int, pn < F.ns.length ∧ w.cell? ⟨b2, o2 + m1, none⟩ = some (.int .i64 (pn : Int)) ∧ L[pn]? = some wp ∧ ¬ wc < wp) := Lib.hid fun m1 e => by
                obtain ⟨ph, hph⟩ : ∃ ph, x.l[m1]? = some ph := ⟨_, List.getElem?_eq_getElem (by omega)⟩
                have hk2 := (HT.out.tree.kids i x HXX.out.1).2 ph (List.mem_of_getElem? hph)
                obtain ⟨pn, rfl⟩ : ∃ pn : Nat, ph = (pn : Int) := ⟨ph.toNat, by omega⟩
                obtain ⟨b3, o3, e3, _, _, G3, _⟩ := HXX.out.2.at_ hph
                simp only [Option.some.injEq, Addr.mk.injEq, and_true] at e3
                obtain ⟨rfl, rfl⟩ := e3
                have hx2 := atF_next HT.out HXX.out.1 hph (by rw [← e]; exact hch)
                simp only [Int.toNat_natCast] at hx2
                exact ⟨pn, _, by omega, G3, HL.out pn (by omega), by omega⟩
              have HPC := Lib.hid (fun W (hk : Hid (KM w bs3 fs2 [D] W)) => HPN.out cn i hcn hkd.1 W hk)
              have HDC := Lib.hid (fun W (hk : Hid (KM w bs3 fs2 [D] W)) => HDN.out cn hcn W hk)
              rw [hkd.2, HVI.out] at HDC
              clear G0 hch hkd hak hLc hwc hkk
              have hK := hKm
              have g0 := belC hK.out.kb.bl HG0.out
              have lg := lt_of_cell g0
              have hvw : IntKind.i64.wrap (vi + 1) = vi + 1 := IntWalk.i64_in _ (by omega)
              have hvw0 : IntKind.i64.wrap vi = vi := IntWalk.i64_in _ (by omega)
              have hve : (vi + 1 != vi + 1) = false := by simp
              have hve0 : (vi != vi) = false := by simp
              by_cases h4 : x.op = 4
              · have e4 : (x.op == 4) = true := by rw [h4]; rfl
                by_cases h1 : m = 1
                · have e1 : ((m : Int) == 1) = true := by rw [h1]; rfl
                  have f1 : (0 : Int) < (m : Int) := by omega
                  rw [if_pos ⟨h4, h1⟩] at HDC
                  obtain ⟨m1, hm1⟩ : ∃ m1, m = m1 + 1 := ⟨m - 1, by omega⟩
                  obtain ⟨pn, wp, hpn, hpc', hpL, hpw⟩ := hPr.out m1 hm1
                  have hmw : IntKind.i64.wrap ((m : Int) - 1) = (m1 : Int) := by rw [IntWalk.i64_in _ (by omega)]; omega
                  have hm10 : (0 : Int) ≤ (m1 : Int) := by omega
                  have hm1I : (m1 : Int) < (x.l.length : Int) := by omega
                  have hpn0 : (0 : Int) ≤ (pn : Int) := by omega
                  have hpnI : (pn : Int) < (F.ns.length : Int) := by omega
                  have HPX := Lib.hid (And.intro hpc' hpL)
                  have dm : decide (0 < m) = true := decide_eq_true (by omega)
                  have dp : decide (wc < wp) = false := decide_eq_false hpw
                  clear hm1 hpc' hpL hpn
                  clear h4 h1
                  go_upto_region 30 with (first | (go_at_call 15; (with_reducible refine (HDC.out _ hK).mono ?_); rintro e w1 ⟨rfl, hK⟩; obtain ⟨a0, a1, la⟩ := KM.box2 hK mA3; obtain ⟨v0, fv, lv⟩ := KM.box1 hK mw3; obtain ⟨n0, fn, ln⟩ := KM.box1 hK mn3; have d0 := belC hK.out.kb.bl HD0.out; have d2 := belC hK.out.kb.bl HD2.out; have lb := lt_of_cell d0; have g0 := belC hK.out.kb.bl HG0.out; have lg := lt_of_cell g0) | (go_at_call 17; (with_reducible refine (HPC.out _ hK).mono ?_); rintro e w1 ⟨rfl, hK⟩; obtain ⟨a0, a1, la⟩ := KM.box2 hK mA3; obtain ⟨v0, fv, lv⟩ := KM.box1 hK mw3; obtain ⟨n0, fn, ln⟩ := KM.box1 hK mn3; have d0 := belC hK.out.kb.bl HD0.out; have d2 := belC hK.out.kb.bl HD2.out; have lb := lt_of_cell d0; have g0 := belC hK.out.kb.bl HG0.out; have lg := lt_of_cell g0))
                  have w0 := (hK.out.kb.own _ _ _ mi3).2.cell i
                  have w1' := (hK.out.kb.own _ _ _ mi3).2.cell cn
                  have lw := (hK.out.kb.own _ _ _ mi3).2.lt
                  have g1 := belC hK.out.kb.bl HPX.out.1
                  have w2' := (hK.out.kb.own _ _ _ mi3).2.cell pn
                  rw [intsOf_get HPX.out.2] at w2'
                  rw [intsOf_get HWI.out.1] at w0
                  rw [intsOf_get HWI.out.2] at w1'
                  have dA : decide (cn ≤ i) = false := decide_eq_false (by omega)
                  have dB : decide (F.ns.length ≤ cn) = false := decide_eq_false (by omega)
                  have dC : decide (wI ≤ wc) = false := decide_eq_false (by omega)
                  go_quiet (exact Calls.quiet_of_same ((HN.out _ _).mono fun _ _ q => ⟨q.1, q.2.symm⟩))
                  go_wp2_with fail
                  go_roundw
                  case rel => exact ⟨m + 1, by omega, by go_num, Lib.hid (hK.out.below (Below.drewN' _ _))⟩
                  case measure => simp [intOf]; omega
                · have e1 : ((m : Int) == 1) = false := by rw [beq_eq_false_iff_ne]; omega
                  rw [if_neg (fun h => h1 h.2), Int.add_zero] at HDC
                  by_cases h0 : m = 0
                  · have f0 : ¬ (0 : Int) < (m : Int) := by omega
                    have dm : decide (0 < m) = false := decide_eq_false (by omega)
                    clear h4 h1 h0
                    go_upto_region 30 with (first | (go_at_call 15; (with_reducible refine (HDC.out _ hK).mono ?_); rintro e w1 ⟨rfl, hK⟩; obtain ⟨a0, a1, la⟩ := KM.box2 hK mA3; obtain ⟨v0, fv, lv⟩ := KM.box1 hK mw3; obtain ⟨n0, fn, ln⟩ := KM.box1 hK mn3; have d0 := belC hK.out.kb.bl HD0.out; have d2 := belC hK.out.kb.bl HD2.out; have lb := lt_of_cell d0; have g0 := belC hK.out.kb.bl HG0.out; have lg := lt_of_cell g0) | (go_at_call 17; (with_reducible refine (HPC.out _ hK).mono ?_); rintro e w1 ⟨rfl, hK⟩; obtain ⟨a0, a1, la⟩ := KM.box2 hK mA3; obtain ⟨v0, fv, lv⟩ := KM.box1 hK mw3; obtain ⟨n0, fn, ln⟩ := KM.box1 hK mn3; have d0 := belC hK.out.kb.bl HD0.out; have d2 := belC hK.out.kb.bl HD2.out; have lb := lt_of_cell d0; have g0 := belC hK.out.kb.bl HG0.out; have lg := lt_of_cell g0))
                    have w0 := (hK.out.kb.own _ _ _ mi3).2.cell i
                    have w1' := (hK.out.kb.own _ _ _ mi3).2.cell cn
                    have lw := (hK.out.kb.own _ _ _ mi3).2.lt
                    rw [intsOf_get HWI.out.1] at w0
                    rw [intsOf_get HWI.out.2] at w1'
                    have dA : decide (cn ≤ i) = false := decide_eq_false (by omega)
                    have dB : decide (F.ns.length ≤ cn) = false := decide_eq_false (by omega)
                    have dC : decide (wI ≤ wc) = false := decide_eq_false (by omega)
                    go_quiet (exact Calls.quiet_of_same ((HN.out _ _).mono fun _ _ q => ⟨q.1, q.2.symm⟩))
                    go_wp2_with fail
                    go_roundw
                    case rel => exact ⟨m + 1, by omega, by go_num, Lib.hid (hK.out.below (Below.drewN' _ _))⟩
                    case measure => simp [intOf]; omega
                  · have f0 : (0 : Int) < (m : Int) := by omega
                    obtain ⟨m1, hm1⟩ : ∃ m1, m = m1 + 1 := ⟨m - 1, by omega⟩
                    obtain ⟨pn, wp, hpn, hpc', hpL, hpw⟩ := hPr.out m1 hm1
                    have hmw : IntKind.i64.wrap ((m : Int) - 1) = (m1 : Int) := by rw [IntWalk.i64_in _ (by omega)]; omega
                    have hm10 : (0 : Int) ≤ (m1 : Int) := by omega
                    have hm1I : (m1 : Int) < (x.l.length : Int) := by omega
                    have hpn0 : (0 : Int) ≤ (pn : Int) := by omega
                    have hpnI : (pn : Int) < (F.ns.length : Int) := by omega
                    have HPX := Lib.hid (And.intro hpc' hpL)
                    have dm : decide (0 < m) = true := decide_eq_true (by omega)
                    have dp : decide (wc < wp) = false := decide_eq_false hpw
                    clear hm1 hpc' hpL hpn
                    clear h4 h1 h0
                    go_upto_region 30 with (first | (go_at_call 15; (with_reducible refine (HDC.out _ hK).mono ?_); rintro e w1 ⟨rfl, hK⟩; obtain ⟨a0, a1, la⟩ := KM.box2 hK mA3; obtain ⟨v0, fv, lv⟩ := KM.box1 hK mw3; obtain ⟨n0, fn, ln⟩ := KM.box1 hK mn3; have d0 := belC hK.out.kb.bl HD0.out; have d2 := belC hK.out.kb.bl HD2.out; have lb := lt_of_cell d0; have g0 := belC hK.out.kb.bl HG0.out; have lg := lt_of_cell g0) | (go_at_call 17; (with_reducible refine (HPC.out _ hK).mono ?_); rintro e w1 ⟨rfl, hK⟩; obtain ⟨a0, a1, la⟩ := KM.box2 hK mA3; obtain ⟨v0, fv, lv⟩ := KM.box1 hK mw3; obtain ⟨n0, fn, ln⟩ := KM.box1 hK mn3; have d0 := belC hK.out.kb.bl HD0.out; have d2 := belC hK.out.kb.bl HD2.out; have lb := lt_of_cell d0; have g0 := belC hK.out.kb.bl HG0.out; have lg := lt_of_cell g0))
                    have w0 := (hK.out.kb.own _ _ _ mi3).2.cell i
                    have w1' := (hK.out.kb.own _ _ _ mi3).2.cell cn
                    have lw := (hK.out.kb.own _ _ _ mi3).2.lt
                    have g1 := belC hK.out.kb.bl HPX.out.1
                    have w2' := (hK.out.kb.own _ _ _ mi3).2.cell pn
                    rw [intsOf_get HPX.out.2] at w2'
                    rw [intsOf_get HWI.out.1] at w0
                    rw [intsOf_get HWI.out.2] at w1'
                    have dA : decide (cn ≤ i) = false := decide_eq_false (by omega)
                    have dB : decide (F.ns.length ≤ cn) = false := decide_eq_false (by omega)
                    have dC : decide (wI ≤ wc) = false := decide_eq_false (by omega)
                    go_quiet (exact Calls.quiet_of_same ((HN.out _ _).mono fun _ _ q => ⟨q.1, q.2.symm⟩))
                    go_wp2_with fail
                    go_roundw
                    case rel => exact ⟨m + 1, by omega, by go_num, Lib.hid (hK.out.below (Below.drewN' _ _))⟩
                    case measure => simp [intOf]; omega
              · have e4 : (x.op == 4) = false := by rw [beq_eq_false_iff_ne]; exact h4
                rw [if_neg (fun h => h4 h.1), Int.add_zero] at HDC
                by_cases h0 : m = 0
                · have f0 : ¬ (0 : Int) < (m : Int) := by omega
                  have dm : decide (0 < m) = false := decide_eq_false (by omega)
                  clear h4 h0
                  go_upto_region 30 with (first | (go_at_call 15; (with_reducible refine (HDC.out _ hK).mono ?_); rintro e w1 ⟨rfl, hK⟩; obtain ⟨a0, a1, la⟩ := KM.box2 hK mA3; obtain ⟨v0, fv, lv⟩ := KM.box1 hK mw3; obtain ⟨n0, fn, ln⟩ := KM.box1 hK mn3; have d0 := belC hK.out.kb.bl HD0.out; have d2 := belC hK.out.kb.bl HD2.out; have lb := lt_of_cell d0; have g0 := belC hK.out.kb.bl HG0.out; have lg := lt_of_cell g0) | (go_at_call 17; (with_reducible refine (HPC.out _ hK).mono ?_); rintro e w1 ⟨rfl, hK⟩; obtain ⟨a0, a1, la⟩ := KM.box2 hK mA3; obtain ⟨v0, fv, lv⟩ := KM.box1 hK mw3; obtain ⟨n0, fn, ln⟩ := KM.box1 hK mn3; have d0 := belC hK.out.kb.bl HD0.out; have d2 := belC hK.out.kb.bl HD2.out; have lb := lt_of_cell d0; have g0 := belC hK.out.kb.bl HG0.out; have lg := lt_of_cell g0))
                  have w0 := (hK.out.kb.own _ _ _ mi3).2.cell i
                  have w1' := (hK.out.kb.own _ _ _ mi3).2.cell cn
                  have lw := (hK.out.kb.own _ _ _ mi3).2.lt
                  rw [intsOf_get HWI.out.1] at w0
                  rw [intsOf_get HWI.out.2] at w1'
                  have dA : decide (cn ≤ i) = false := decide_eq_false (by omega)
                  have dB : decide (F.ns.length ≤ cn) = false := decide_eq_false (by omega)
                  have dC : decide (wI ≤ wc) = false := decide_eq_false (by omega)
                  go_quiet (exact Calls.quiet_of_same ((HN.out _ _).mono fun _ _ q => ⟨q.1, q.2.symm⟩))
                  go_wp2_with fail
                  go_roundw
                  case rel => exact ⟨m + 1, by omega, by go_num, Lib.hid (hK.out.below (Below.drewN' _ _))⟩
                  case measure => simp [intOf]; omega
                · have f0 : (0 : Int) < (m : Int) := by omega
                  obtain ⟨m1, hm1⟩ : ∃ m1, m = m1 + 1 := ⟨m - 1, by omega⟩
                  obtain ⟨pn, wp, hpn, hpc', hpL, hpw⟩ := hPr.out m1 hm1
                  have hmw : IntKind.i64.wrap ((m : Int) - 1) = (m1 : Int) := by rw [IntWalk.i64_in _ (by omega)]; omega
                  have hm10 : (0 : Int) ≤ (m1 : Int) := by omega
                  have hm1I : (m1 : Int) < (x.l.length : Int) := by omega
                  have hpn0 : (0 : Int) ≤ (pn : Int) := by omega
                  have hpnI : (pn : Int) < (F.ns.length : Int) := by omega
                  have HPX := Lib.hid (And.intro hpc' hpL)
                  have dm : decide (0 < m) = true := decide_eq_true (by omega)
                  have dp : decide (wc < wp) = false := decide_eq_false hpw
                  clear hm1 hpc' hpL hpn
                  clear h4 h0
                  go_upto_region 30 with (first | (go_at_call 15; (with_reducible refine (HDC.out _ hK).mono ?_); rintro e w1 ⟨rfl, hK⟩; obtain ⟨a0, a1, la⟩ := KM.box2 hK mA3; obtain ⟨v0, fv, lv⟩ := KM.box1 hK mw3; obtain ⟨n0, fn, ln⟩ := KM.box1 hK mn3; have d0 := belC hK.out.kb.bl HD0.out; have d2 := belC hK.out.kb.bl HD2.out; have lb := lt_of_cell d0; have g0 := belC hK.out.kb.bl HG0.out; have lg := lt_of_cell g0) | (go_at_call 17; (with_reducible refine (HPC.out _ hK).mono ?_); rintro e w1 ⟨rfl, hK⟩; obtain ⟨a0, a1, la⟩ := KM.box2 hK mA3; obtain ⟨v0, fv, lv⟩ := KM.box1 hK mw3; obtain ⟨n0, fn, ln⟩ := KM.box1 hK mn3; have d0 := belC hK.out.kb.bl HD0.out; have d2 := belC hK.out.kb.bl HD2.out; have lb := lt_of_cell d0; have g0 := belC hK.out.kb.bl HG0.out; have lg := lt_of_cell g0))
                  have w0 := (hK.out.kb.own _ _ _ mi3).2.cell i
                  have w1' := (hK.out.kb.own _ _ _ mi3).2.cell cn
                  have lw := (hK.out.kb.own _ _ _ mi3).2.lt
                  have g1 := belC hK.out.kb.bl HPX.out.1
                  have w2' := (hK.out.kb.own _ _ _ mi3).2.cell pn
                  rw [intsOf_get HPX.out.2] at w2'
                  rw [intsOf_get HWI.out.1] at w0
                  rw [intsOf_get HWI.out.2] at w1'
                  have dA : decide (cn ≤ i) = false := decide_eq_false (by omega)
                  have dB : decide (F.ns.length ≤ cn) = false := decide_eq_false (by omega)
                  have dC : decide (wI ≤ wc) = false := decide_eq_false (by omega)
                  go_quiet (exact Calls.quiet_of_same ((HN.out _ _).mono fun _ _ q => ⟨q.1, q.2.symm⟩))
                  go_wp2_with fail
                  go_roundw
                  case rel => exact ⟨m + 1, by omega, by go_num, Lib.hid (hK.out.below (Below.drewN' _ _))⟩
                  case measure => simp [intOf]; omega
            · have hmI : ¬ (m : Int) < (x.l.length : Int) := by omega
              have w0 := (hK.out.kb.own _ _ _ mi3).2.cell i
              rw [intsOf_get HWI0.out.1] at w0
              have lw := (hK.out.kb.own _ _ _ mi3).2.lt
              have hz : (wI == 0) = false := by rw [beq_eq_false_iff_ne]; exact hIpos
              go_wp2_with (go_at_call 13; (with_reducible refine (HN.out _ _).mono ?_); rintro e w3 ⟨rfl, rfl⟩)
              go_roundw
              case rel => exact ⟨i + 1, by omega, by go_num, hK⟩
              case measure => simp [intOf]; omega
        · have hltI : ¬ (i : Int) < (F.ns.length : Int) := by omega
          have HLZ := Lib.hid (show L[0]? = some (F.ns.length : Int) by
            have h1 := HL.out 0 (by have := HT.out.tree.one; omega)
            rw [h1]
            have := atF_root HT.out
            congr 1
            omega)
          have hz0 : (0 : Int) < (F.ns.length : Int) := by have := HT.out.tree.one; omega
          have hzN : 0 < F.ns.length := by omega
          have HDZ := Lib.hid (fun W (hk : Hid (KM w bs3 fs2 [D] W)) => HDN.out 0 (by have := HT.out.tree.one; omega) W hk)
          rw [HT.out.run.root.2, show ((0 : Nat) : Int) = 0 from rfl] at HDZ
          go_upto_region 35 with ((go_at_call 15; (with_reducible refine (HDZ.out _ hK).mono ?_); rintro e w1 ⟨rfl, hK⟩; obtain ⟨a0, a1, la⟩ := KM.box2 hK mA3; obtain ⟨v0, fv, lv⟩ := KM.box1 hK mw3; obtain ⟨n0, fn, ln⟩ := KM.box1 hK mn3))
          have hKx := Lib.hid (hK.out.below (Below.refl _ _).drew)
          clear hK a0 a1 la v0 fv lv n0 fn ln hKi
          have hK := hKx
          clear hKx
          obtain ⟨a0, a1, la⟩ := KM.box2 hK mA3
          obtain ⟨v0, fv, lv⟩ := KM.box1 hK mw3
          obtain ⟨n0, fn, ln⟩ := KM.box1 hK mn3
          obtain ⟨z0, fz, lz⟩ := KM.box1 hK m03
          have x0 := (hK.out.kb.own _ _ _ mi3).2.cell 0
          rw [intsOf_get HLZ.out] at x0
          have lx := (hK.out.kb.own _ _ _ mi3).2.lt
          have ne1 : ¬ w.heap.size + 1 = wb := (hK.out.kb.own _ _ _ m03).2.ne (hK.out.kb.own _ _ _ mw3).2 (by decide)
          have ne2 : ¬ w.heap.size + 1 = nb := (hK.out.kb.own _ _ _ m03).2.ne (hK.out.kb.own _ _ _ mn3).2 (by decide)
          have ne3 : ¬ w.heap.size + 1 = wi := (hK.out.kb.own _ _ _ m03).2.ne (hK.out.kb.own _ _ _ mi3).2 (by decide)
          have nf1 : ¬ wb = w.heap.size + 1 := fun e => ne1 e.symm
          have nf2 : ¬ nb = w.heap.size + 1 := fun e => ne2 e.symm
          have nf3 : ¬ wi = w.heap.size + 1 := fun e => ne3 e.symm
          go_region_held3 (fun w' => w'.cell? ⟨w.heap.size, 0, none⟩ = some (.int .i64 F.p) ∧ w'.cell? ⟨w.heap.size, 1, none⟩ = some (.slice A F.ns.length c) ∧ w'.cell? ⟨wb, 0, none⟩ = some (.slice (some ⟨wi, 0, none⟩) F.ns.length F.ns.length) ∧ w'.cell? ⟨nb, 0, none⟩ = some (.int .i64 (F.ns.length : Int)) ∧ w'.cell? ⟨wi, 0, none⟩ = some (.int .i64 (F.ns.length : Int))) (first | with_reducible exact ⟨a0, a1, v0, n0, x0⟩ | go_keep) ((first
            | (go_at_call 13; (with_reducible refine (HN.out _ _).mono ?_); rintro e w3 ⟨rfl, rfl⟩)
            | (go_at_call 10; (with_reducible refine (HXM.out _ hK).mono ?_); rintro e w1 ⟨rfl, hK⟩; obtain ⟨a0, a1, la⟩ := KM.box2 hK mA3; obtain ⟨v0, fv, lv⟩ := KM.box1 hK mw3; obtain ⟨n0, fn, ln⟩ := KM.box1 hK mn3; obtain ⟨z0, fz, lz⟩ := KM.box1 hK m03; have x0 := (hK.out.kb.own _ _ _ mi3).2.cell 0; rw [intsOf_get HLZ.out] at x0; have lx := (hK.out.kb.own _ _ _ mi3).2.lt)))
          go_wp2_with fail
          have ob := hK.out.kb.own _ _ _ m03
          have h4E := ob.2.set 0 (.bool true)
          have hmE : MK w.heap.size [D] (w1.setCell ⟨w.heap.size + 1, 0, none⟩ (.bool true)) := hK.out.ms.set ob.2 _
          have hdE : ∀ E ∈ [D], (w1.setCell ⟨w.heap.size + 1, 0, none⟩ (.bool true)).heap[E]? = some (.deferred (some [])) := fun E hE => (hmE E hE).2
          refine leaves_marks [D] _ (by simp) hdE (fun w' hm => ?_)
          have h4' := (hm.blk hdE h4E).cell 0
          simp at h4'
          exact ⟨.bool true, by simp [results, Try.results8, go_sem, h4'], rfl, hm.below (hK.out.kb.bl.setCell ob.1 _) (fun E hE => (hmE E hE).1)⟩
end Go.Proofs.Ytleihdakmibmhaa
