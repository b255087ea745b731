/- works: the chapter's rows. -/
import Derived.Test.YtleihdakmibmhaaFta
import Derived.BigFrameIn
namespace Go.Proofs.Ytleihdakmibmhaa
open Go.RowKit Go.Shelf
attribute [local go_sem] Oper.semAt_some store_nilFunc6 store_func6

set_option maxRecDepth 100000 in
set_option maxHeartbeats 6400000 in
theorem works_ok6 (w : World) : Calls Try.prog 10 #[] w fun e w' => e = .returned (.bool true) ∧ Below w.heap.size w w' := by
  have hno := fun op n A m c W => node_ok op n (.slice A m c) ⟨_, _, _, rfl⟩ W
  have hof := fun p A m c W => of_ok p (.slice A m c) ⟨_, _, _, rfl⟩ W
  have hnu := fun n W => num_ok6 n W
  have HNO := Lib.hid hno
  have HOF := Lib.hid hof
  have HNU := Lib.hid hnu
  clear hno hof hnu
  refine calls_of_wp_marks 5 Try.func10 rfl ?_
  simp only [Try.ntmps10, List.size_toArray, List.length_nil, Nat.reduceSub, Array.replicate_succ, Array.replicate_zero, List.push_toArray, List.append_toArray, List.nil_append, List.cons_append]
  go_upto_region 1 with fail
  obtain ⟨W0, hW0⟩ : ∃ X, w.alloc (.cells #[.bool false] 4) = X := ⟨_, rfl⟩
  obtain ⟨b0, hb0⟩ : ∃ b, w.heap.size = b := ⟨_, rfl⟩
  have k0 : KB w [(b0, 4, #[.bool false])] [] W0 := by rw [← hW0, ← hb0]; exact (KB.start w).pushB _ _
  have lb0 : b0 < W0.heap.size := by rw [← hW0, ← hb0]; simp
  rw [hW0, hb0]
  have HB0 := Lib.hid hb0
  clear hW0 hb0
  go_upto_region 2 with (first | (go_at_call 26; (with_reducible refine (HNO.out _ _ _ _ _ _).mono ?_); rintro e w' ⟨rfl, rfl⟩) | (go_at_call 27; (with_reducible refine (HOF.out _ _ _ _ _).mono ?_); rintro e w' ⟨rfl, rfl⟩))
  obtain ⟨gi, hgi⟩ : ∃ g, W0.heap.size = g := ⟨_, rfl⟩
  rw [hgi]
  change Code.wp _ _ _ _ ((mk3 W0 gi 1 6 0 1 2 3 0 1 5).alloc (.cells #[.int .i64 1, .slice (some ⟨gi + 1 + 1 + 1 + 1, 0, none⟩) 3 3] 24))
  obtain ⟨hs1, kl1⟩ := k0.lit3 (p := 1) (o0 := 6) (k0 := 0) (a := 1) (b := 2) (o1 := 3) (k1 := 0) (o2 := 1) (k2 := 5) hgi (by simp [W64])
  have kl2 := kl1.pushB 24 #[.int .i64 1, .slice (some ⟨gi + 1 + 1 + 1 + 1, 0, none⟩) 3 3]
  rw [hs1] at kl2
  obtain ⟨W1, hW1⟩ : ∃ X, (mk3 W0 gi 1 6 0 1 2 3 0 1 5).alloc (.cells #[.int .i64 1, .slice (some ⟨gi + 1 + 1 + 1 + 1, 0, none⟩) 3 3] 24) = X := ⟨_, rfl⟩
  rw [hW1] at kl2 ⊢
  clear hW1 kl1 hs1
  obtain ⟨bf, hbf⟩ : ∃ g, gi + 1 + 1 + 1 + 1 + 1 + 1 = g := ⟨_, rfl⟩
  obtain ⟨gN, hgN⟩ : ∃ g, gi + 1 + 1 + 1 + 1 = g := ⟨_, rfl⟩
  rw [hbf, hgN] at kl2
  rw [hbf, hgN]
  have k1 := kl2
  obtain ⟨bs1, hbs1⟩ : ∃ l : List (Nat × TypeId × Array Value), [(bf, 24, #[.int .i64 1, .slice (some ⟨gN, 0, none⟩) 3 3]), (gN, 47, rows3 gi 6 0 3 0 1 5), (b0, 4, #[.bool false])] = l := ⟨_, rfl⟩
  rw [hbs1] at k1
  obtain ⟨fs1, hfs1⟩ : ∃ l : List (Nat × Value × Fd), [(bf, Value.agg #[.int .i64 1, .slice (some ⟨gN, 0, none⟩) 3 3], FA)] = l := ⟨_, rfl⟩
  have hfs1' := hfs1
  unfold FA at hfs1'
  rw [hfs1'] at k1
  clear hfs1'
  have mf : (bf, 24, #[.int .i64 1, .slice (some ⟨gN, 0, none⟩) 3 3]) ∈ bs1 := by rw [← hbs1]; simp
  have mN : (gN, 47, rows3 gi 6 0 3 0 1 5) ∈ bs1 := by rw [← hbs1]; simp
  have m0 : (b0, 4, #[.bool false]) ∈ bs1 := by rw [← hbs1]; simp
  have mA : (bf, Value.agg #[.int .i64 1, .slice (some ⟨gN, 0, none⟩) 3 3], FA) ∈ fs1 := by rw [← hfs1]; simp
  have hW := fun W (hk : Hid (KB w bs1 fs1 W)) => hk.out.call (Q := fun e => e = .returned (.tuple #[.int .i64 0, .int .i64 0])) (by have h := Where_ok W (hk.out.funI mA); rw [FA_where] at h; exact h)
  have hD := fun node W (hk : Hid (KB w bs1 fs1 W)) => hk.out.call (Depth_ok node W (hk.out.funI mA))
  have hP := fun node W (hk : Hid (KB w bs1 fs1 W)) => hk.out.call (Parent_ok node W (hk.out.funI mA))
  have HW := Lib.hid hW
  have HD := Lib.hid hD
  have HP := Lib.hid hP
  have hK := Lib.hid k1
  obtain ⟨c0, c1, lt⟩ := KB.box2 hK mf
  have HX := Lib.hid (And.intro hbs1 (And.intro hfs1 (And.intro hbf (And.intro hgN hgi))))
  clear hW hD hP k1 kl2 hbs1 hfs1 hbf hgN hgi k0 lb0
  go_upto_region 6 with (first | (go_at_call 11; (with_reducible refine (HW.out _ hK).mono ?_); rintro e w1 ⟨rfl, hK⟩; obtain ⟨c0, c1, lt⟩ := KB.box2 hK mf) | (go_at_call 15; (with_reducible refine (HD.out _ _ hK).mono ?_); rintro e w1 ⟨rfl, hK⟩; obtain ⟨c0, c1, lt⟩ := KB.box2 hK mf) | (go_at_call 17; (with_reducible refine (HP.out _ _ hK).mono ?_); rintro e w1 ⟨rfl, hK⟩; obtain ⟨c0, c1, lt⟩ := KB.box2 hK mf))
  rw [FA_depth, FA_parent2, FA_parent0]
  dsimp only
  obtain ⟨stA, hstA⟩ := FA_ok
  have hO := hK.out.iter (Order_ok w1 (hK.out.funI mA) hstA)
  have HO := Lib.hid hO
  have HSA := Lib.hid hstA
  clear hO hstA HW HD HP
  have hqO := eqlO
  clear hK
  go_upto_region 10 with (first | (go_at_call 20; (with_reducible refine HO.out.mono ?_); rintro e w2 ⟨kb, hi, A, cA, rfl, hQ⟩) | (go_at_call 13; (with_reducible refine (HNU.out _ _).mono ?_); rintro e w3 ⟨rfl, rfl⟩))
  clear hqO
  obtain ⟨hhk, hKO⟩ := hQ.out
  have hlts := hKO.lts
  obtain ⟨W3, hW3⟩ : ∃ X, ((w2.alloc (.cells #[.int .i64 1, .int .i64 2, .int .i64 0] 3)).alloc (.cells #[.slice (some ⟨w2.heap.size, 0, none⟩) 3 3] 45)).alloc (.cells #[.int .i64 0] 3) = X := ⟨_, rfl⟩
  have k3 : KB w ((w2.heap.size + 1, 45, #[.slice (some ⟨w2.heap.size, 0, none⟩) 3 3]) :: (w2.heap.size, 3, #[.int .i64 1, .int .i64 2, .int .i64 0]) :: (kb, 24, #[.int .i64 FA.p, .slice A FA.ns.length cA]) :: bs1) ((hi, .agg #[.int .i64 FA.p, .slice A FA.ns.length cA], FA) :: fs1) W3 := by
    rw [← hW3]
    have h := ((hKO.pushB 3 #[.int .i64 1, .int .i64 2, .int .i64 0]).pushB 45 #[.slice (some ⟨w2.heap.size, 0, none⟩) 3 3]).alloc (.cells #[.int .i64 0] 3)
    simp only [World.size_alloc] at h
    exact h
  have n3 : Blk W3 (w2.heap.size + 1 + 1) 3 #[.int .i64 (([] : List Nat).length : Int)] := by rw [← hW3]; exact blkN (by simp) _ _
  have hs3 : W3.heap.size = w2.heap.size + 1 + 1 + 1 := by rw [← hW3]; simp
  have hwl := hKO.bl.size
  rw [hW3]
  obtain ⟨nb, hnb⟩ : ∃ g, w2.heap.size + 1 + 1 = g := ⟨_, rfl⟩
  obtain ⟨wb, hwb⟩ : ∃ g, w2.heap.size + 1 = g := ⟨_, rfl⟩
  obtain ⟨wi, hwi⟩ : ∃ g, w2.heap.size = g := ⟨_, rfl⟩
  rw [hnb] at n3
  rw [hwb, hwi] at k3
  rw [hwi] at hlts hs3 hwl
  rw [hnb, hwb, hwi]
  have hnbw : nb = wi + 1 + 1 := by rw [← hnb, hwi]
  have hwbw : wb = wi + 1 := by rw [← hwb, hwi]
  clear hW3 hnb hwb hwi
  obtain ⟨bs2, hbs2⟩ : ∃ l : List (Nat × TypeId × Array Value), (wb, 45, #[.slice (some ⟨wi, 0, none⟩) 3 3]) :: (wi, 3, #[.int .i64 1, .int .i64 2, .int .i64 0]) :: (kb, 24, #[.int .i64 FA.p, .slice A FA.ns.length cA]) :: bs1 = l := ⟨_, rfl⟩
  obtain ⟨fs2, hfs2⟩ : ∃ l : List (Nat × Value × Fd), (hi, .agg #[.int .i64 FA.p, .slice A FA.ns.length cA], FA) :: fs1 = l := ⟨_, rfl⟩
  have bnd2 : (∀ x ∈ bs2, x.1 < nb) ∧ (∀ x ∈ fs2, x.1 ≤ nb) := by
    rw [← hbs2, ← hfs2]
    refine ⟨fun x hx => ?_, fun x hx => by have := hlts.2 x hx; omega⟩
    rcases List.mem_cons.1 hx with rfl | hx
    · show wb < nb; omega
    · rcases List.mem_cons.1 hx with rfl | hx
      · show wi < nb; omega
      · have := hlts.1 x hx; omega
  have hhi : hi ≤ wi := hlts.2 (hi, .agg #[.int .i64 FA.p, .slice A FA.ns.length cA], FA) (by simp)
  rw [hbs2, hfs2] at k3
  have mw : (wb, 45, #[.slice (some ⟨wi, 0, none⟩) 3 3]) ∈ bs2 := by rw [← hbs2]; simp
  have mi : (wi, 3, #[.int .i64 1, .int .i64 2, .int .i64 0]) ∈ bs2 := by rw [← hbs2]; simp
  have mk : (kb, 24, #[.int .i64 FA.p, .slice A FA.ns.length cA]) ∈ bs2 := by rw [← hbs2]; simp
  have m1 : ∀ x ∈ bs1, x ∈ bs2 := fun x hx => by rw [← hbs2]; simp [hx]
  have mO : (hi, .agg #[.int .i64 FA.p, .slice A FA.ns.length cA], FA) ∈ fs2 := by rw [← hfs2]; simp
  have hFI := (k3.fn _ _ _ mO).1
  have hsq := order2_seqs (tree_of HSA.out) W3 0 hi kb _ hFI
  rw [FA_done] at hsq
  have r0 : RK w W3 bs2 fs2 0 hi nb [] W3 := ⟨k3, fun _ _ _ => rfl, n3⟩
  have H2 := Lib.hid (And.intro hbs2 hfs2)
  have b1 : nb < W3.heap.size := by omega
  have b2 : hi ≤ nb := by omega
  have b3 : w.heap.size ≤ nb := by omega
  clear hnbw hwbw hs3 hwl hhi
  have HQ2 := Lib.hid hQ
  clear hbs2 hfs2 hlts hKO hQ
  go_wp2_with fail
  refine wp_rangeN 4 rfl (enters_of Try.func38 (by kernel_rfl) rfl) hsq (fun W i x xa hx => by obtain ⟨_, _, rfl⟩ := hx; rfl) (RK w W3 bs2 fs2 0 hi nb) (fun _ _ _ => False) (fun _ _ => False) (fun _ _ h => h)
    (fun s X Y hs hk => hs.keepB hk (by omega) (fun x hx => by have := bnd2.1 x hx; omega) (fun x hx => by have := bnd2.2 x hx; omega) (by omega) (by omega) (by have := hs.n.lt; omega))
    (fun cd s X Y hs hk => hs)
    (fun pre W' hi' => ⟨hi'.kept, (hi'.kb.own _ _ _ mk).2⟩) r0 ?round ?done ?panic ?stop
  case panic => intro D ch W1 _ hf; exact hf.elim
  case stop => intro D cd pre W1 _ _ hf; exact hf.elim
  case round =>
    intro l' pre i rest W xa hsz hx hr hxa
    obtain ⟨x, hxi, rfl⟩ := hxa
    refine .inl ?_
    gi_wp2
    refine ⟨Since.refl _ _, hr, ?_⟩
    rintro W2 ht hr2
    have hnx := hr2.next (fun y hy => Nat.ne_of_lt (bnd2.1 y hy)) bnd2.2 (.inl (by omega)) (by omega) i
    have hK2 := Lib.hid hr2.kb
    obtain ⟨c0, c1, lt⟩ := KB.box2 hK2 (m1 _ mf)
    obtain ⟨v0, _, lv⟩ := KB.box1 hK2 mw
    have q0 := (hr2.kb.own _ _ _ mi).2.cell 0
    have q1 := (hr2.kb.own _ _ _ mi).2.cell 1
    have q2 := (hr2.kb.own _ _ _ mi).2.cell 2
    have lq := (hr2.kb.own _ _ _ mi).2.lt
    have p0 := (hr2.kb.own _ _ _ (m1 _ mN)).2.cell 0
    have p1 := (hr2.kb.own _ _ _ (m1 _ mN)).2.cell 3
    have p2 := (hr2.kb.own _ _ _ (m1 _ mN)).2.cell 6
    have lp := (hr2.kb.own _ _ _ (m1 _ mN)).2.lt
    have n0 := hr2.n.cell 0
    have fn := hr2.n.frozen 0
    have ln := hr2.n.lt
    simp [rows3] at q0 q1 q2 p0 p1 p2 n0
    have hsn : Since W3.heap.size W2 (W2.setCell ⟨nb, 0, none⟩ (.int .i64 ((pre.length : Int) + 1))) := (Since.refl _ _).setCell (by show nb < W3.heap.size; omega) _
    have HN := Lib.hid (And.intro hsn hnx)
    obtain ⟨m, hm⟩ : ∃ m : Int, (pre.length : Int) = m := ⟨_, rfl⟩
    rw [hm] at n0 HN
    rcases cases3 hx with ⟨rfl, rfl⟩ | ⟨rfl, rfl⟩ | ⟨rfl, rfl⟩
    · obtain rfl : m = 0 := by rw [← hm]; rfl
      simp [FA] at hxi
      subst hxi
      clear hsn hnx hr2 ht hr hsq hFI r0 k3 n3 hm
      gi_wp2
      exact HN.out
    · obtain rfl : m = 1 := by rw [← hm]; rfl
      simp [FA] at hxi
      subst hxi
      clear hsn hnx hr2 ht hr hsq hFI r0 k3 n3 hm
      gi_wp2
      exact HN.out
    · obtain rfl : m = 2 := by rw [← hm]; rfl
      simp [FA] at hxi
      subst hxi
      clear hsn hnx hr2 ht hr hsq hFI r0 k3 n3 hm
      gi_wp2
      exact HN.out
  case done =>
    intro D W hD hr hdef
    have k4 : KM w ((nb, 3, #[.int .i64 3]) :: bs2) fs2 [D] W := ⟨hr.kb.addB (by simpa using hr.n) b3, fun E hE => by
      rw [List.mem_singleton] at hE
      subst hE
      exact ⟨by have := k3.bl.size; omega, hdef⟩⟩
    obtain ⟨bs3, hbs3⟩ : ∃ l : List (Nat × TypeId × Array Value), (nb, 3, #[.int .i64 3]) :: bs2 = l := ⟨_, rfl⟩
    have mn : (nb, 3, #[.int .i64 3]) ∈ bs3 := by rw [← hbs3]; simp
    have m2 : ∀ x ∈ bs2, x ∈ bs3 := fun x hx => by rw [← hbs3]; simp [hx]
    have m03 : (b0, 4, #[.bool false]) ∈ bs3 := m2 _ (m1 _ m0)
    rw [hbs3] at k4
    obtain ⟨gi2, hgi2⟩ : ∃ g, W.heap.size = g := ⟨_, rfl⟩
    have HDF := Lib.hid hdef
    have H3 := Lib.hid hbs3
    have B3 := Lib.hid (And.intro bnd2 (And.intro b1 (And.intro b2 b3)))
    clear hr hdef hbs3 hsq hFI r0 k3 n3 H2 HQ2 bnd2 b1 b2 b3 c0 c1 lt HO HSA hhk
    go_upto_region 17 with (first | (go_at_call 26; (with_reducible refine (HNO.out _ _ _ _ _ _).mono ?_); rintro e w' ⟨rfl, rfl⟩) | (go_at_call 27; (with_reducible refine (HOF.out _ _ _ _ _).mono ?_); rintro e w' ⟨rfl, rfl⟩))
    try rw [hgi2]
    change Code.wp _ _ _ _ ((mk3 W gi2 0 4 0 1 2 1 5 3 0).alloc (.cells #[.int .i64 0, .slice (some ⟨gi2 + 1 + 1 + 1 + 1, 0, none⟩) 3 3] 24))
    obtain ⟨hs1, kl1⟩ := k4.kb.lit3 (p := 0) (o0 := 4) (k0 := 0) (a := 1) (b := 2) (o1 := 1) (k1 := 5) (o2 := 3) (k2 := 0) hgi2 (by simp [W64])
    have kl2 := kl1.pushB 24 #[.int .i64 0, .slice (some ⟨gi2 + 1 + 1 + 1 + 1, 0, none⟩) 3 3]
    have ml2 := (k4.ms.below (mk3_below W gi2 0 4 0 1 2 1 5 3 0)).below ((Below.refl _ _).alloc (Nat.le_refl _) (.cells #[.int .i64 0, .slice (some ⟨gi2 + 1 + 1 + 1 + 1, 0, none⟩) 3 3] 24))
    rw [hs1] at kl2
    obtain ⟨W5, hW5⟩ : ∃ X, (mk3 W gi2 0 4 0 1 2 1 5 3 0).alloc (.cells #[.int .i64 0, .slice (some ⟨gi2 + 1 + 1 + 1 + 1, 0, none⟩) 3 3] 24) = X := ⟨_, rfl⟩
    rw [hW5] at kl2 ml2 ⊢
    clear hW5 kl1 hs1
    obtain ⟨bf2, hbf2⟩ : ∃ g, gi2 + 1 + 1 + 1 + 1 + 1 + 1 = g := ⟨_, rfl⟩
    obtain ⟨gN2, hgN2⟩ : ∃ g, gi2 + 1 + 1 + 1 + 1 = g := ⟨_, rfl⟩
    rw [hbf2, hgN2] at kl2
    rw [hbf2, hgN2]
    have k5 : KM w _ _ [D] W5 := ⟨kl2, ml2⟩
    clear hgi2 hbf2 hgN2 kl2 ml2
    obtain ⟨bs5, hbs5⟩ : ∃ l : List (Nat × TypeId × Array Value), (bf2, 24, #[.int .i64 0, .slice (some ⟨gN2, 0, none⟩) 3 3]) :: (gN2, 47, rows3 gi2 4 0 1 5 3 0) :: bs3 = l := ⟨_, rfl⟩
    rw [hbs5] at k5
    obtain ⟨fs5, hfs5⟩ : ∃ l : List (Nat × Value × Fd), (bf2, Value.agg #[.int .i64 0, .slice (some ⟨gN2, 0, none⟩) 3 3], FB) :: fs2 = l := ⟨_, rfl⟩
    have hfs5' := hfs5
    unfold FB at hfs5'
    rw [hfs5'] at k5
    have mf5 : (bf2, 24, #[.int .i64 0, .slice (some ⟨gN2, 0, none⟩) 3 3]) ∈ bs5 := by rw [← hbs5]; simp
    have mn5 : (nb, 3, #[.int .i64 3]) ∈ bs5 := by rw [← hbs5]; simp [mn]
    have m05 : (b0, 4, #[.bool false]) ∈ bs5 := by rw [← hbs5]; simp [m03]
    have mB : (bf2, Value.agg #[.int .i64 0, .slice (some ⟨gN2, 0, none⟩) 3 3], FB) ∈ fs5 := by rw [← hfs5]; simp
    clear hfs5 hfs5' hbs5 k4
    have hK := Lib.hid k5
    obtain ⟨c0, c1, lt⟩ := KM.box2 hK mf5
    have HD5 := Lib.hid (fun node W (hk : Hid (KM w bs5 fs5 [D] W)) => hk.out.call (Depth_ok node W (hk.out.kb.funI mB)))
    clear k5
    go_upto_region 19 with (go_at_call 15; (with_reducible refine (HD5.out _ _ hK).mono ?_); rintro e w5 ⟨rfl, hK⟩; obtain ⟨c0, c1, lt⟩ := KM.box2 hK mf5)
    rw [FB_depth1, FB_depth2]
    dsimp only
    obtain ⟨stC, hstC⟩ := FC_ok
    obtain ⟨kC, fC⟩ := hK.out.litC
    have hC := kC.iter (Calls_ok _ fC hstC)
    have hCs : w5.heap.size ≤ (mkC w5 w5.heap.size).heap.size := by unfold mkC; simp; omega
    obtain ⟨loC, hloC⟩ : ∃ g, (mkC w5 w5.heap.size).heap.size = g := ⟨_, rfl⟩
    rw [hloC] at hC hCs
    have hnlo := (hK.out.kb.own _ _ _ mn5).2.lt
    have hC' := hC.mono (R' := fun e w' => ∃ kb hi A c, e = .returned (.func (.func 41) #[] #[.pointer (some ⟨kb, 0, none⟩)]) ∧ w'.cell? ⟨nb, 0, none⟩ = some (.int .i64 3) ∧ w'.frozen? ⟨nb, 0, none⟩ = false ∧ nb < w'.heap.size ∧
        Hid (hi ≤ kb ∧ loC ≤ kb ∧ Blk w' kb 24 #[.int .i64 FC.p, .slice A FC.ns.length c] ∧ FunI w' loC hi (.agg #[.int .i64 FC.p, .slice A FC.ns.length c]) FC ∧ KM w bs5 fs5 [D] w'))
      (fun e w' q => by
        obtain ⟨kb, hi, A, c, rfl, q⟩ := q
        obtain ⟨n0, fn, ln⟩ := KM.box1 (Lib.hid q.out.2.2.2.2) mn5
        exact ⟨kb, hi, A, c, rfl, n0, fn, ln, q⟩)
    unfold mkC at hC'
    have HC := Lib.hid hC'
    have HSC := Lib.hid hstC
    have hqC := eqlC
    have HLO := Lib.hid (And.intro hCs hnlo)
    clear hC hC' kC fC hloC hstC hK hCs hnlo HD5
    go_upto_region 23 with (first | (go_at_call 26; (with_reducible refine (HNO.out _ _ _ _ _ _).mono ?_); rintro e w' ⟨rfl, rfl⟩) | (go_at_call 27; (with_reducible refine (HOF.out _ _ _ _ _).mono ?_); rintro e w' ⟨rfl, rfl⟩) | (go_at_call 21; (with_reducible refine HC.out.mono ?_); rintro e w6 ⟨kb6, hi6, A6, c6, rfl, n0, fn, ln, hQ⟩) | (go_at_call 13; (with_reducible refine (HNU.out _ _).mono ?_); rintro e w3 ⟨rfl, rfl⟩))
    clear hqC n0 fn ln c0 c1 lt
    go_wp2_with fail
    obtain ⟨q1, q2, q3, q4, q5⟩ := hQ.out
    obtain ⟨g1, g2⟩ := HLO.out
    have ob := q5.kb.own _ _ _ m05
    have on := q5.kb.own _ _ _ mn5
    have hne0 : b0 ≠ nb := ob.2.ne on.2 (by decide)
    have hnlo : nb < loC := Nat.lt_of_lt_of_le g2 g1
    have hwk : w.heap.size ≤ kb6 := by have := on.1; omega
    have k6 : KB w [(kb6, 24, #[.int .i64 FC.p, .slice A6 FC.ns.length c6]), (b0, 4, #[.bool false])] [] w6 := (q5.kb.sub (bs' := [(b0, 4, #[.bool false])]) (fs' := []) (by intro x hx; rw [List.mem_singleton] at hx; subst hx; exact m05) (by simp)).addB q3 hwk
    obtain ⟨W7, hW7⟩ : ∃ X, w6.setCell ⟨nb, 0, none⟩ (.int .i64 0) = X := ⟨_, rfl⟩
    have bsn : ∀ x ∈ [(kb6, 24, #[Value.int .i64 FC.p, .slice A6 FC.ns.length c6]), (b0, 4, #[Value.bool false])], x.1 ≠ nb := by
      intro x hx
      rcases List.mem_cons.1 hx with rfl | hx
      · show kb6 ≠ nb; omega
      · rw [List.mem_singleton] at hx; subst hx; exact hne0
    have k7 : KB w [(kb6, 24, #[.int .i64 FC.p, .slice A6 FC.ns.length c6]), (b0, 4, #[.bool false])] [] W7 := by rw [← hW7]; exact k6.set bsn (by simp) on.1 _
    have n7 : Blk W7 nb 3 #[.int .i64 (([] : List Nat).length : Int)] := by rw [← hW7]; simpa using on.2.set 0 (.int .i64 0)
    have hF7 : FunI W7 loC hi6 (.agg #[.int .i64 FC.p, .slice A6 FC.ns.length c6]) FC := by rw [← hW7]; exact q4.keep fun k h1 _ => Below.heap_setCell _ _ _ _ (by show k ≠ nb; omega)
    have m7 : MK w.heap.size [D] W7 := by rw [← hW7]; exact q5.ms.set on.2 _
    rw [hW7]
    have hsq7 := calls2_seqs W7 loC hi6 kb6 _ hF7 (by decide)
    rw [FC_named] at hsq7
    have mk7 : (kb6, 24, #[Value.int .i64 FC.p, .slice A6 FC.ns.length c6]) ∈ [(kb6, 24, #[Value.int .i64 FC.p, .slice A6 FC.ns.length c6]), (b0, 4, #[Value.bool false])] := by simp
    have m07 : (b0, 4, #[Value.bool false]) ∈ [(kb6, 24, #[Value.int .i64 FC.p, .slice A6 FC.ns.length c6]), (b0, 4, #[Value.bool false])] := by simp
    obtain ⟨bs7, hbs7⟩ : ∃ l : List (Nat × TypeId × Array Value), [(kb6, 24, #[Value.int .i64 FC.p, .slice A6 FC.ns.length c6]), (b0, 4, #[Value.bool false])] = l := ⟨_, rfl⟩
    rw [hbs7] at k7 bsn mk7 m07
    have r7 : RK w W7 bs7 [] loC hi6 nb [] W7 := ⟨k7, fun _ _ _ => rfl, n7⟩
    have lts7 := k7.lts.1
    have lk7 : kb6 < W7.heap.size := lts7 _ mk7
    have ln7 := n7.lt
    have lm7 : ∀ E ∈ [D], E < W7.heap.size := fun E hE => m7.lt hE
    have hw7 := k7.bl.size
    have hwn := on.1
    clear hbs7 hW7 q3 q4 q5 ob on k6 hQ
    refine wp_rangeN 4 rfl (enters_of Try.func41 (by kernel_rfl) rfl) hsq7 (fun W i x xa hx => by obtain ⟨_, _, rfl⟩ := hx; rfl) (fun pre W' => RK w W7 bs7 [] loC hi6 nb pre W' ∧ MK w.heap.size [D] W') (fun _ _ _ => False) (fun _ _ => False) (fun _ _ h => h)
      (fun s X Y hs hk => ⟨hs.1.keepB hk (by omega) lts7 (by simp) (by omega) ln7 (by have := (hs.1.kb.own _ _ _ mk7).2.lt; omega), hs.2.keepB hk lm7⟩)
      (fun cd s X Y hs hk => hs)
      (fun pre W' hi' => ⟨hi'.1.kept, (hi'.1.kb.own _ _ _ mk7).2⟩) ⟨r7, m7⟩ ?round ?done ?panic ?stop
    case panic => intro D ch W1 _ hf; exact hf.elim
    case stop => intro D cd pre W1 _ _ hf; exact hf.elim
    case round =>
      intro l' pre i rest W xa hsz hx hr hxa
      obtain ⟨x, hxi, rfl⟩ := hxa
      refine .inl ?_
      gi_wp2
      refine ⟨Since.refl _ _, hr, ?_⟩
      rintro W2 ht ⟨hr2, hm2⟩
      have hnx := hr2.next bsn (by simp) (.inr hnlo) hwn i
      have hmx := hm2.set (i := 0) hr2.n (.int .i64 ((pre.length : Int) + 1))
      have n0 := hr2.n.cell 0
      have fn := hr2.n.frozen 0
      have ln := hr2.n.lt
      simp at n0
      have hsn : Since W7.heap.size W2 (W2.setCell ⟨nb, 0, none⟩ (.int .i64 ((pre.length : Int) + 1))) := (Since.refl _ _).setCell (by show nb < W7.heap.size; omega) _
      have HN := Lib.hid (And.intro hsn (And.intro hnx hmx))
      obtain ⟨m, hm⟩ : ∃ m : Int, (pre.length : Int) = m := ⟨_, rfl⟩
      rw [hm] at n0 HN
      rcases cases2 hx with ⟨rfl, rfl⟩ | ⟨rfl, rfl⟩
      · obtain rfl : m = 0 := by rw [← hm]; rfl
        simp [FC] at hxi
        subst hxi
        clear hsn hnx hmx hr2 hm2 ht hr hsq7 hF7 r7 k7 n7 m7 hm
        gi_wp2
        exact HN.out
      · obtain rfl : m = 1 := by rw [← hm]; rfl
        simp [FC] at hxi
        subst hxi
        clear hsn hnx hmx hr2 hm2 ht hr hsq7 hF7 r7 k7 n7 m7 hm
        gi_wp2
        exact HN.out
    case done =>
      intro D2 W8 hD2 hr hdef2
      have k8 : KM w ((nb, 3, #[.int .i64 2]) :: bs7) [] [D2, D] W8 := ⟨hr.1.kb.addB (by simpa using hr.1.n) hwn, fun E hE => by
        rcases List.mem_cons.1 hE with rfl | hE
        · exact ⟨by omega, hdef2⟩
        · exact hr.2 E hE⟩
      obtain ⟨bs8, hbs8⟩ : ∃ l : List (Nat × TypeId × Array Value), (nb, 3, #[.int .i64 2]) :: bs7 = l := ⟨_, rfl⟩
      have mn8 : (nb, 3, #[.int .i64 2]) ∈ bs8 := by rw [← hbs8]; simp
      have m08 : (b0, 4, #[.bool false]) ∈ bs8 := by rw [← hbs8]; simp [m07]
      rw [hbs8] at k8
      have hDD : D2 ≠ D := by have := lm7 D (by simp); omega
      have hK := Lib.hid k8
      obtain ⟨n0, fn, ln⟩ := KM.box1 hK mn8
      obtain ⟨z0, fz, lz⟩ := KM.box1 hK m08
      have HDD := Lib.hid hDD
      have hw3 := fun W (hk : Hid (KM w bs8 [] [D2, D] W)) => hk.out.wrong3 (p := 0) (o0 := 6) (k0 := 0) (a := 1) (b := 2) (o1 := 3) (k1 := 0) (o2 := 1) (k2 := 5) (by simp [W64]) bad1
      have hw2 := fun W (hk : Hid (KM w bs8 [] [D2, D] W)) => hk.out.wrong2 (p := 0) (o0 := 6) (k0 := 0) (a := 1) (b := 1) (o1 := 1) (k1 := 5) (by simp [W64]) bad2
      have hw2n := fun W (hk : Hid (KM w bs8 [] [D2, D] W)) => hk.out.wrong2n (p := 0) (o0 := 1) (k0 := 5) (o1 := 2) (k1 := 0) (by simp [W64]) bad3
      have hw0 := fun W (hk : Hid (KM w bs8 [] [D2, D] W)) => hk.out.wrong0 (p := 0) (by simp [W64]) bad4
      have hw1 := fun W (hk : Hid (KM w bs8 [] [D2, D] W)) => hk.out.wrong1 (p := 0) (o0 := 2) (k0 := 1) (by simp [W64]) bad5
      rw [show ((1 : Nat) : Int) = 1 from rfl] at hw3 hw2n
      rw [show ((0 : Nat) : Int) = 0 from rfl] at hw2 hw0 hw1
      unfold mk3 at hw3
      unfold mk2 at hw2
      have H3' := Lib.hid hw3
      have H2' := Lib.hid hw2
      have H2n' := Lib.hid hw2n
      have H0' := Lib.hid hw0
      have H1' := Lib.hid hw1
      clear hw3 hw2 hw2n hw0 hw1 k8 hbs8 hr hdef2 hDD hsq7 hF7 r7 k7 n7 m7 bsn lts7 lm7
      go_wp2_with (first | (go_at_call 26; (with_reducible refine (HNO.out _ _ _ _ _ _).mono ?_); rintro e w' ⟨rfl, rfl⟩) | (go_at_call 27; (with_reducible refine (HOF.out _ _ _ _ _).mono ?_); rintro e w' ⟨rfl, rfl⟩) | (go_at_call 28; (with_reducible first | refine (H3'.out _ hK).mono ?_ | refine (H2'.out _ hK).mono ?_ | refine (H2n'.out _ hK).mono ?_ | refine (H0'.out _ hK).mono ?_ | refine (H1'.out _ hK).mono ?_); rintro e w9 ⟨rfl, hK⟩; obtain ⟨z0, fz, lz⟩ := KM.box1 hK m08))
      have ob := hK.out.kb.own _ _ _ m08
      have hmE : MK w.heap.size [D2, D] (w9.setCell ⟨b0, 0, none⟩ (.bool true)) := hK.out.ms.set ob.2 _
      have hdE : ∀ E ∈ [D2, D], (w9.setCell ⟨b0, 0, none⟩ (.bool true)).heap[E]? = some (.deferred (some [])) := fun E hE => (hmE E hE).2
      have h4E := ob.2.set 0 (.bool true)
      refine leaves_marks [D2, D] _ (by simpa using HDD.out) hdE (fun w' hm => ?_)
      have h4' := (hm.blk hdE h4E).cell 0
      simp at h4'
      exact ⟨.bool true, by simp [results, Try.results10, go_sem, h4'], rfl, hm.below (hK.out.kb.bl.setCell ob.1 _) (fun E hE => (hmE E hE).1)⟩
end Go.Proofs.Ytleihdakmibmhaa
