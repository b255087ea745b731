/- FunSame's walk. -/
import Derived.Test.YtleihdakmibmhaaYg
import Derived.Deep.RegionHeld3
import Derived.BigQuiet
import Derived.Deep.QuietTactic
namespace Go.Proofs.Ytleihdakmibmhaa
open Go.RowKit Go.Shelf
attribute [local go_sem] Oper.semAt_some

/-- What stands, the copy among it. -/
structure KC (w : World) (bs : List (Nat × TypeId × Array Value)) (fs : List (Nat × Value × Fd)) (lo hi gr : Nat) (s : Value) (ms : List Nd) (W : World) : Prop where
  kb : KB w bs fs W
  cs : CS lo hi gr s ms W
section
variable {w W : World} {bs : List (Nat × TypeId × Array Value)} {fs : List (Nat × Value × Fd)} {lo hi gr : Nat} {s : Value} {ms : List Nd}
theorem KC.call {P : Program} {f : Nat} {args : Array Value} {Q : Ending → Prop} (h : KC w bs fs lo hi gr s ms W) (hc : Calls P f args W fun e w' => Q e ∧ Below W.heap.size W w') : Calls P f args W fun e w' => Q e ∧ Hid (KC w bs fs lo hi gr s ms w') :=
  hc.mono fun _ _ q => ⟨q.1, Lib.hid ⟨h.kb.below q.2, h.cs.below q.2⟩⟩
theorem KC.box2 (h : Hid (KC w bs fs lo hi gr s ms W)) {g : Nat} {t : TypeId} {a b : Value} (hm : (g, t, #[a, b]) ∈ bs) : W.cell? ⟨g, 0, none⟩ = some a ∧ W.cell? ⟨g, 1, none⟩ = some b ∧ g < W.heap.size := KB.box2 (Lib.hid h.out.kb) hm
theorem KC.copy {h0 : Nat} {v : Value} {F : Fd} (h : KC w bs fs lo hi gr s ms W) (hm : (h0, v, F) ∈ fs) (hF : FewF F) :
    Calls Try.prog 19 #[v] W fun e w' => ∃ A c, e = .returned (.agg #[.int .i64 F.p, .slice A F.ns.length c]) ∧
      Hid (KC w bs fs lo hi gr s ms w' ∧ W.heap.size ≤ w'.heap.size ∧ FunI w' W.heap.size w'.heap.size (.agg #[.int .i64 F.p, .slice A F.ns.length c]) F) :=
  (h.kb.copy hm hF).mono fun e w' q => by
    obtain ⟨A, c, he, hq⟩ := q
    exact ⟨A, c, he, Lib.hid ⟨⟨hq.out.1, h.cs.below hq.out.2.2.1⟩, hq.out.2.1, hq.out.2.2.2.1⟩⟩
end

set_option maxRecDepth 100000 in
set_option maxHeartbeats 6400000 in
theorem funSame_walk (A B : Fd) (u v : Value) (w : World) (h : FunI w 0 w.heap.size u A) (h' : FunI w 0 w.heap.size v B) :
    Calls Try.prog 6 #[u, v] w fun e w' => e = .returned (.bool true) ∧ Below w.heap.size w w' := by
  obtain ⟨Aa, ca, rfl⟩ := h.form
  obtain ⟨Ab, cb, rfl⟩ := h'.form
  obtain ⟨hpA, hnA⟩ : W64 A.p ∧ A.ns.length ≤ maxLen := by
    obtain ⟨_, _, q, q'⟩ := h
    obtain ⟨_, _, _, q1, q2⟩ := q'.form
    exact ⟨q, by omega⟩
  unfold maxLen at hnA
  have hK0 := (((((KB.start w).addF h (Nat.le_refl _)).addF h' (Nat.le_refl _)).pushB 24 #[.int .i64 A.p, .slice Aa A.ns.length ca])).pushB 24 #[.int .i64 B.p, .slice Ab B.ns.length cb]
  rw [World.size_alloc] at hK0
  obtain ⟨bs, hbs⟩ : ∃ l : List (Nat × TypeId × Array Value), [(w.heap.size + 1, 24, #[Value.int .i64 B.p, .slice Ab B.ns.length cb]), (w.heap.size, 24, #[Value.int .i64 A.p, .slice Aa A.ns.length ca])] = l := ⟨_, rfl⟩
  obtain ⟨fs, hfs⟩ : ∃ l : List (Nat × Value × Fd), [(w.heap.size, Value.agg #[.int .i64 B.p, .slice Ab B.ns.length cb], B), (w.heap.size, Value.agg #[.int .i64 A.p, .slice Aa A.ns.length ca], A)] = l := ⟨_, rfl⟩
  have mA : (w.heap.size, 24, #[Value.int .i64 A.p, .slice Aa A.ns.length ca]) ∈ bs := by rw [← hbs]; simp
  have mB : (w.heap.size + 1, 24, #[Value.int .i64 B.p, .slice Ab B.ns.length cb]) ∈ bs := by rw [← hbs]; simp
  have MA : (w.heap.size, Value.agg #[.int .i64 A.p, .slice Aa A.ns.length ca], A) ∈ fs := by rw [← hfs]; simp
  have MB : (w.heap.size, Value.agg #[.int .i64 B.p, .slice Ab B.ns.length cb], B) ∈ fs := by rw [← hfs]; simp
  have HBS := Lib.hid (show (∀ x ∈ bs, x.1 < w.heap.size + 2) ∧ (∀ x ∈ fs, x.1 ≤ w.heap.size) by
    rw [← hbs, ← hfs]
    refine ⟨fun x hx => ?_, fun x hx => ?_⟩
    · simp only [List.mem_cons, List.not_mem_nil, or_false] at hx
      rcases hx with rfl | rfl <;> simp
    · simp only [List.mem_cons, List.not_mem_nil, or_false] at hx
      rcases hx with rfl | rfl <;> simp)
  rw [hbs, hfs] at hK0
  have hK := Lib.hid hK0
  have HFA := Lib.hid (fun W (hk : Hid (KB w bs fs W)) => hk.out.call (few_ok W (hk.out.funI MA) (Nat.le_refl _)))
  have HFB := Lib.hid (fun W (hk : Hid (KB w bs fs W)) => hk.out.call (few_ok W (hk.out.funI MB) (Nat.le_refl _)))
  have HO := Lib.hid (fun W (hk : Hid (KB w bs fs W)) => hk.out.call (works_ok6 W))
  clear hbs hfs hK0 h h'
  cases hfa : fewB A
  · rw [hfa] at HFA
    clear hfa
    go_enter Try.func6, Try.ntmps6
    go_wp2_with (first | (go_at_call 9; (with_reducible refine (HFA.out _ hK).mono ?_); rintro e w1 ⟨rfl, hK⟩; obtain ⟨a0, a1, la⟩ := KB.box2 hK mA; obtain ⟨b0, b1, lb⟩ := KB.box2 hK mB) | (go_at_call 9; (with_reducible refine (HFB.out _ hK).mono ?_); rintro e w1 ⟨rfl, hK⟩; obtain ⟨a0, a1, la⟩ := KB.box2 hK mA; obtain ⟨b0, b1, lb⟩ := KB.box2 hK mB) | (go_at_call 10; (with_reducible refine (HO.out _ hK).mono ?_); rintro e w1 ⟨rfl, hK⟩))
    go_ret
    exact ⟨rfl, hK.out.bl⟩
  cases hfb : fewB B
  · rw [hfa] at HFA
    rw [hfb] at HFB
    clear hfa hfb
    go_enter Try.func6, Try.ntmps6
    go_wp2_with (first | (go_at_call 9; (with_reducible refine (HFA.out _ hK).mono ?_); rintro e w1 ⟨rfl, hK⟩; obtain ⟨a0, a1, la⟩ := KB.box2 hK mA; obtain ⟨b0, b1, lb⟩ := KB.box2 hK mB) | (go_at_call 9; (with_reducible refine (HFB.out _ hK).mono ?_); rintro e w1 ⟨rfl, hK⟩; obtain ⟨a0, a1, la⟩ := KB.box2 hK mA; obtain ⟨b0, b1, lb⟩ := KB.box2 hK mB) | (go_at_call 10; (with_reducible refine (HO.out _ hK).mono ?_); rintro e w1 ⟨rfl, hK⟩))
    go_ret
    exact ⟨rfl, hK.out.bl⟩
  have HF := Lib.hid (few_iff.1 hfa)
  rw [hfa] at HFA
  rw [hfb] at HFB
  clear hfa hfb
  have HCP := Lib.hid (fun W (hk : Hid (KB w bs fs W)) => hk.out.copy MA HF.out)
  go_enter Try.func6, Try.ntmps6
  go_upto_region 4 with (first | (go_at_call 9; (with_reducible refine (HFA.out _ hK).mono ?_); rintro e w1 ⟨rfl, hK⟩; obtain ⟨a0, a1, la⟩ := KB.box2 hK mA; obtain ⟨b0, b1, lb⟩ := KB.box2 hK mB) | (go_at_call 9; (with_reducible refine (HFB.out _ hK).mono ?_); rintro e w1 ⟨rfl, hK⟩; obtain ⟨a0, a1, la⟩ := KB.box2 hK mA; obtain ⟨b0, b1, lb⟩ := KB.box2 hK mB) | (go_at_call 19; (with_reducible refine (HCP.out _ hK).mono ?_); have HLA := Lib.hid hK.out.bl.size; have HLB := Lib.hid (And.intro (hK.out.own _ _ _ mA).2.lt (hK.out.own _ _ _ mB).2.lt); rintro e wC ⟨Ac, cc, rfl, hC⟩))
  obtain ⟨hk1, hs1, hb1, hf1, gr, hcs1⟩ := hC.out
  have HAP0 := Lib.hid (show (∀ x ∈ bs, x.1 < w1.heap.size) ∧ (∀ x ∈ fs, x.1 ≤ w1.heap.size) ∧ w.heap.size ≤ w1.heap.size from ⟨fun x hx => by have := HBS.out.1 x hx; have := HLB.out.2; omega, fun x hx => by have := HBS.out.2 x hx; have := HLA.out; omega, HLA.out⟩)
  obtain ⟨bC, hbC⟩ : ∃ g, wC.heap.size = g := ⟨_, rfl⟩
  obtain ⟨w0, hw0⟩ : ∃ X, wC.alloc (.cells #[.int .i64 A.p, .slice Ac A.ns.length cc] 24) = X := ⟨_, rfl⟩
  have hk2 := (hk1.addF (hf1.mono (Nat.zero_le _) (Nat.le_refl _)) (Nat.le_refl _)).pushB 24 #[.int .i64 A.p, .slice Ac A.ns.length cc]
  have hcs2 := hcs1.below ((Below.refl _ wC).alloc (Nat.le_refl _) (.cells #[.int .i64 A.p, .slice Ac A.ns.length cc] 24))
  obtain ⟨lo, hlo⟩ : ∃ g, w1.heap.size = g := ⟨_, rfl⟩
  rw [hlo] at hcs2 HAP0 hs1
  rw [hbC] at hs1 hcs2
  rw [hw0, hbC] at hk2
  rw [hw0] at hcs2
  rw [hw0, hbC]
  have HLO := Lib.hid hs1
  obtain ⟨bs2, hbs2⟩ : ∃ l : List (Nat × TypeId × Array Value), (bC, 24, #[Value.int .i64 A.p, .slice Ac A.ns.length cc]) :: bs = l := ⟨_, rfl⟩
  obtain ⟨fs2, hfs2⟩ : ∃ l : List (Nat × Value × Fd), (bC, Value.agg #[.int .i64 A.p, .slice Ac A.ns.length cc], A) :: fs = l := ⟨_, rfl⟩
  rw [hbs2, hfs2] at hk2
  have mA2 : (w.heap.size, 24, #[Value.int .i64 A.p, .slice Aa A.ns.length ca]) ∈ bs2 := by rw [← hbs2]; exact List.mem_cons_of_mem _ mA
  have mB2 : (w.heap.size + 1, 24, #[Value.int .i64 B.p, .slice Ab B.ns.length cb]) ∈ bs2 := by rw [← hbs2]; exact List.mem_cons_of_mem _ mB
  have mC2 : (bC, 24, #[Value.int .i64 A.p, .slice Ac A.ns.length cc]) ∈ bs2 := by rw [← hbs2]; exact List.mem_cons_self ..
  have MA2 : (w.heap.size, Value.agg #[.int .i64 A.p, .slice Aa A.ns.length ca], A) ∈ fs2 := by rw [← hfs2]; exact List.mem_cons_of_mem _ MA
  have MB2 : (w.heap.size, Value.agg #[.int .i64 B.p, .slice Ab B.ns.length cb], B) ∈ fs2 := by rw [← hfs2]; exact List.mem_cons_of_mem _ MB
  have MC2 : (bC, Value.agg #[.int .i64 A.p, .slice Ac A.ns.length cc], A) ∈ fs2 := by rw [← hfs2]; exact List.mem_cons_self ..
  have hE2 := Lib.hid (And.intro hbs2 hfs2)
  clear hbs2 hfs2 hC hk1 hb1 hf1 hcs1 hs1 HFA HFB HO HCP hK HLA HLB a0 a1 la b0 b1 lb hw0 hbC hlo HBS
  have hK : Hid (KC w bs2 fs2 lo bC gr (.slice Ac A.ns.length cc) A.ns w0.drew) := Lib.hid ⟨hk2.drew, hcs2.below (Below.refl _ w0).drew⟩
  clear hk2 hcs2
  have HCA := Lib.hid (fun W (hk : Hid (KC w bs2 fs2 lo bC gr (.slice Ac A.ns.length cc) A.ns W)) => hk.out.call (rSame6_ok W (hk.out.kb.funI MC2) (hk.out.kb.funI MA2) (Nat.le_refl _)))
  have HRAB := Lib.hid (fun W (hk : Hid (KC w bs2 fs2 lo bC gr (.slice Ac A.ns.length cc) A.ns W)) => hk.out.call (rSame6_ok W (hk.out.kb.funI MA2) (hk.out.kb.funI MB2) (Nat.le_refl _)))
  have HSAB := Lib.hid (fun W (hk : Hid (KC w bs2 fs2 lo bC gr (.slice Ac A.ns.length cc) A.ns W)) => hk.out.call (same6_ok W (hk.out.kb.funI MA2) (hk.out.kb.funI MB2) (Nat.le_refl _)))
  have HSBA := Lib.hid (fun W (hk : Hid (KC w bs2 fs2 lo bC gr (.slice Ac A.ns.length cc) A.ns W)) => hk.out.call (same6_ok W (hk.out.kb.funI MB2) (hk.out.kb.funI MA2) (Nat.le_refl _)))
  have HSAA := Lib.hid (fun W (hk : Hid (KC w bs2 fs2 lo bC gr (.slice Ac A.ns.length cc) A.ns W)) => hk.out.call (same6_ok W (hk.out.kb.funI MA2) (hk.out.kb.funI MA2) (Nat.le_refl _)))
  have HCP := Lib.hid (fun W (hk : Hid (KC w bs2 fs2 lo bC gr (.slice Ac A.ns.length cc) A.ns W)) => hk.out.copy MA2 HF.out)
  have e1 : sameF B A = sameF A B := by
    rw [Bool.eq_iff_iff, sameF_iff, sameF_iff]
    exact eq_comm
  have e2 : sameF A A = true := sameF_iff.2 rfl
  rw [e1] at HSBA
  rw [e2] at HCA HSAA
  obtain ⟨q, hq⟩ : ∃ q, sameF A B = q := ⟨_, rfl⟩
  rw [hq] at HRAB HSAB HSBA
  have HS := Lib.hid e2
  clear e1 e2 hq
  obtain ⟨a0, a1, la⟩ := KC.box2 hK mA2
  obtain ⟨b0, b1, lb⟩ := KC.box2 hK mB2
  obtain ⟨c0, c1, lc⟩ := KC.box2 hK mC2
  cases q
  all_goals
    go_region_held3 (fun w' => w'.cell? ⟨bC, 0, none⟩ = some (.int .i64 A.p) ∧ w'.cell? ⟨bC, 1, none⟩ = some (.slice Ac A.ns.length cc) ∧ w'.cell? ⟨w.heap.size + 1, 0, none⟩ = some (.int .i64 B.p) ∧ w'.cell? ⟨w.heap.size + 1, 1, none⟩ = some (.slice Ab B.ns.length cb) ∧ w'.cell? ⟨w.heap.size, 0, none⟩ = some (.int .i64 A.p) ∧ w'.cell? ⟨w.heap.size, 1, none⟩ = some (.slice Aa A.ns.length ca)) (first | with_reducible exact ⟨c0, c1, b0, b1, a0, a1⟩ | go_keep) ((first
        | (go_at_call 24; (with_reducible refine (HCA.out _ hK).mono ?_); rintro e wi ⟨rfl, hK⟩; obtain ⟨a0, a1, la⟩ := KC.box2 hK mA2; obtain ⟨b0, b1, lb⟩ := KC.box2 hK mB2; obtain ⟨c0, c1, lc⟩ := KC.box2 hK mC2)
        | (go_at_call 24; (with_reducible refine (HRAB.out _ hK).mono ?_); rintro e wi ⟨rfl, hK⟩; obtain ⟨a0, a1, la⟩ := KC.box2 hK mA2; obtain ⟨b0, b1, lb⟩ := KC.box2 hK mB2; obtain ⟨c0, c1, lc⟩ := KC.box2 hK mC2)
        | (go_at_call 25; (with_reducible refine (HSAB.out _ hK).mono ?_); rintro e wi ⟨rfl, hK⟩; obtain ⟨a0, a1, la⟩ := KC.box2 hK mA2; obtain ⟨b0, b1, lb⟩ := KC.box2 hK mB2; obtain ⟨c0, c1, lc⟩ := KC.box2 hK mC2)
        | (go_at_call 25; (with_reducible refine (HSBA.out _ hK).mono ?_); rintro e wi ⟨rfl, hK⟩; obtain ⟨a0, a1, la⟩ := KC.box2 hK mA2; obtain ⟨b0, b1, lb⟩ := KC.box2 hK mB2; obtain ⟨c0, c1, lc⟩ := KC.box2 hK mC2)
        | (go_at_call 25; (with_reducible refine (HSAA.out _ hK).mono ?_); rintro e wi ⟨rfl, hK⟩; obtain ⟨a0, a1, la⟩ := KC.box2 hK mA2; obtain ⟨b0, b1, lb⟩ := KC.box2 hK mB2; obtain ⟨c0, c1, lc⟩ := KC.box2 hK mC2)))
    go_wp2_with (go_at_call 19; (with_reducible refine (HCP.out _ hK).mono ?_); rintro e wD ⟨Ad, cd, rfl, hD⟩)
    obtain ⟨hkd, hsd, hfd⟩ := hD.out
    obtain ⟨bD, hbD⟩ : ∃ g, wD.heap.size = g := ⟨_, rfl⟩
    obtain ⟨w3, hw3⟩ : ∃ X, wD.alloc (.cells #[.int .i64 A.p, .slice Ad A.ns.length cd] 24) = X := ⟨_, rfl⟩
    obtain ⟨bs3, hbs3⟩ : ∃ l : List (Nat × TypeId × Array Value), (bD, 24, #[Value.int .i64 A.p, .slice Ad A.ns.length cd]) :: bs2 = l := ⟨_, rfl⟩
    have hls : LS w bs3 fs lo bC gr (.slice Ac A.ns.length cc) A.ns bD (.agg #[.int .i64 A.p, .slice Ad A.ns.length cd]) A w3 := by
      have k1 := (hkd.kb.sub (bs' := bs2) (fs' := fs) (fun _ hx => hx) (fun x hx => by rw [← hE2.out.2]; exact List.mem_cons_of_mem _ hx)).pushB 24 #[.int .i64 A.p, .slice Ad A.ns.length cd]
      have k2 := (Below.refl _ wD).alloc (Nat.le_refl _) (.cells #[.int .i64 A.p, .slice Ad A.ns.length cd] 24)
      have k3 := hfd.below k2 (Nat.le_refl _)
      rw [hbD, hbs3, hw3] at k1
      rw [hw3] at k2 k3
      exact ⟨k1, hkd.cs.below k2, (hbD ▸ k3).mono (by have := (hK.out.kb.own _ _ _ mC2).2.lt; omega) (Nat.le_refl _), by rw [← hbD]; exact k2.size⟩
    have HAP : Hid (Apart w bs3 fs lo bC) := Lib.hid ⟨fun x hx => by
      rw [← hbs3, ← hE2.out.1] at hx
      rcases List.mem_cons.1 hx with rfl | hx
      · exact .inr (by have := (hK.out.kb.own _ _ _ mC2).2.lt; show bC ≤ bD; omega)
      · rcases List.mem_cons.1 hx with rfl | hx
        · exact .inr (Nat.le_refl _)
        · exact .inl (HAP0.out.1 x hx), HAP0.out.2.1, HAP0.out.2.2⟩
    have mA3 : (w.heap.size, 24, #[Value.int .i64 A.p, .slice Aa A.ns.length ca]) ∈ bs3 := by rw [← hbs3]; exact List.mem_cons_of_mem _ mA2
    have mC3 : (bC, 24, #[Value.int .i64 A.p, .slice Ac A.ns.length cc]) ∈ bs3 := by rw [← hbs3]; exact List.mem_cons_of_mem _ mC2
    have mD3 : (bD, 24, #[Value.int .i64 A.p, .slice Ad A.ns.length cd]) ∈ bs3 := by rw [← hbs3]; exact List.mem_cons_self ..
    rw [hw3, hbD]
    obtain ⟨h2, hh2⟩ : ∃ g, bD = g := ⟨_, rfl⟩
    have HLS := Lib.hid (hh2 ▸ hls : LS w bs3 fs lo bC gr (.slice Ac A.ns.length cc) A.ns h2 (.agg #[.int .i64 A.p, .slice Ad A.ns.length cd]) A w3)
    clear hD hkd hsd hfd hls hw3 hbD hbs3 hh2 hE2 hK a0 a1 la b0 b1 lb c0 c1 lc HCA HRAB HSAB HSBA HSAA HCP mA mB mA2 mB2 mC2 MC2 MA2 MB2 HAP0
    go_loopw [8] (fun p wr => ∃ (i : Nat) (ms : List Nd), i ≤ A.ns.length ∧ p = .int .i64 (i : Int) ∧ Hid (LS w bs3 fs lo bC gr (.slice Ac A.ns.length cc) ms h2 (.agg #[.int .i64 A.p, .slice Ad A.ns.length cd]) A wr ∧ ms.length = A.ns.length ∧ Fst A ms i)) (fun p _ => A.ns.length - (intOf p).toNat)
    case atStart => exact ⟨0, A.ns, Nat.zero_le _, rfl, Lib.hid ⟨HLS.out, rfl, Fst.start A⟩⟩
    case round =>
      obtain ⟨i, ms, hi, rfl, hR⟩ := hrel
      clear HLS
      have hi0 : (0 : Int) ≤ (i : Int) := by omega
      obtain ⟨c0, c1, lc⟩ := KB.box2 (Lib.hid hR.out.1.kb) mC3
      by_cases hlt : i < A.ns.length
      · have hltI : (i : Int) < (A.ns.length : Int) := by omega
        have hwi : IntKind.i64.wrap ((i : Int) + 1) = (i : Int) + 1 := IntWalk.i64_in _ (by omega)
        obtain ⟨x, hx⟩ : ∃ x, ms[i]? = some x := ⟨_, List.getElem?_eq_getElem (by rw [hR.out.2.1]; exact hlt)⟩
        have HX := Lib.hid hx
        clear hx
        go_wp2_with fail
        clear c0 c1 lc
        go_loopw [9] (fun q wy => ∃ (k : Nat) (ns : List Nd) (z : Nd), k ≤ x.l.length ∧ q = .int .i64 (k : Int) ∧ Hid (LS w bs3 fs lo bC gr (.slice Ac A.ns.length cc) ns h2 (.agg #[.int .i64 A.p, .slice Ad A.ns.length cd]) A wy ∧ ns.length = A.ns.length ∧ Fst A ns i ∧ ns[i]? = some z ∧ z.l.length = x.l.length)) (fun q _ => x.l.length - (intOf q).toNat)
        case atStart => exact ⟨0, ms, x, Nat.zero_le _, rfl, Lib.hid ⟨hR.out.1, hR.out.2.1, hR.out.2.2, HX.out, rfl⟩⟩
        case round =>
          obtain ⟨k, ns, z, hk, rfl, hT⟩ := hrel
          have hk0 : (0 : Int) ≤ (k : Int) := by omega
          obtain ⟨c0, c1, lc⟩ := KB.box2 (Lib.hid hT.out.1.kb) mC3
          obtain ⟨g, o, cap, off, ho, hoff, es, n1, f1, n2, lg, hnum, lgr, h40⟩ := hT.out.1.node hT.out.2.2.2.1
          have hlen := hT.out.2.1
          rw [hlen] at es
          simp only [Value.slice.injEq, true_and] at es
          obtain ⟨rfl, rfl⟩ := es
          have hzl := hT.out.2.2.2.2
          by_cases hkl : k < x.l.length
          · have hklI : (k : Int) < (z.l.length : Int) := by omega
            obtain ⟨y, hy⟩ : ∃ y, z.l[k]? = some y := ⟨_, List.getElem?_eq_getElem (by omega)⟩
            obtain ⟨d0, d1⟩ := hnum k y hy
            have hne : z.l ≠ [] := fun e => by rw [e] at hzl; simp at hzl; omega
            have hwk : IntKind.i64.wrap ((k : Int) + 1) = (k : Int) + 1 := IntWalk.i64_in _ (by omega)
            unfold sliceAt at n2
            rw [if_neg hne] at n2
            have hnx := hT.out.1.setL HAP.out (wrap64 (y + 1)) (w64_wrap _) hT.out.2.2.2.1 (by omega : k < z.l.length)
            rw [← hoff] at hnx
            have HN := Lib.hid (And.intro hnx (And.intro hzl hkl))
            clear hnx hoff hnum hy hne hlen hzl h40 ho n1 f1
            go_wp2_with fail
            go_roundw
            case rel => exact ⟨k + 1, ns.set i ⟨z.op, z.n, z.l.set k (wrap64 (y + 1))⟩, ⟨z.op, z.n, z.l.set k (wrap64 (y + 1))⟩, by omega, by go_num, Lib.hid ⟨HN.out.1, by rw [List.length_set]; exact hT.out.2.1, hT.out.2.2.1.setL hT.out.2.2.2.1, List.getElem?_set_self (by have := hT.out.2.1; omega), by simpa using HN.out.2.1⟩⟩
            case measure => simp [intOf]; omega
          · have hklI : ¬ (k : Int) < (z.l.length : Int) := by omega
            obtain ⟨S, cS, eS⟩ := sliceAt_form gr off z.l
            rw [eS] at n2
            have hnx := hT.out.1.setN (i := i) (g := g) (cap := cc) HAP.out (wrap64 (z.n + 1)) (w64_wrap _) hT.out.2.2.2.1 (by rw [hlen, ho])
            have HN := Lib.hid (show LS w bs3 fs lo bC gr (.slice (some ⟨g, o, none⟩) A.ns.length cc) (ns.set i ⟨z.op, wrap64 (z.n + 1), z.l⟩) h2 (.agg #[.int .i64 A.p, .slice Ad A.ns.length cd]) A (wr.setCell ⟨g, o + i * 3 + 1, none⟩ (.int .i64 (wrap64 (z.n + 1)))) by rw [ho, Nat.zero_add]; rw [ho] at hnx; exact hnx)
            clear hnx hoff hnum hlen hzl h40 ho eS
            go_wp2_with fail
            go_roundw
            case rel => exact ⟨i + 1, ns.set i ⟨z.op, wrap64 (z.n + 1), z.l⟩, by omega, by go_num, Lib.hid ⟨HN.out, by rw [List.length_set]; exact hT.out.2.1, hT.out.2.2.1.setN hT.out.2.2.2.1⟩⟩
            case measure => simp [intOf]; omega
      · have hltI : ¬ (i : Int) < (A.ns.length : Int) := by omega
        obtain rfl : i = A.ns.length := by omega
        have hcf := hR.out.1.cs.funI hpA
        have hlo := hR.out.1.kb.lts
        have hK4 := (hR.out.1.kb.addF (hR.out.1.dd.mono (Nat.zero_le _) (Nat.le_refl _)) hR.out.1.hh).addF (hcf.mono (Nat.zero_le _) (Nat.le_refl _)) (Nat.le_of_lt (hR.out.1.kb.own _ _ _ mC3).2.lt)
        obtain ⟨fs4, hfs4⟩ : ∃ l : List (Nat × Value × Fd), (bC, Value.agg #[.int .i64 A.p, .slice Ac A.ns.length cc], ⟨A.p, ms⟩) :: (h2, Value.agg #[.int .i64 A.p, .slice Ad A.ns.length cd], A) :: fs = l := ⟨_, rfl⟩
        rw [hfs4] at hK4
        have MA4 : (w.heap.size, Value.agg #[.int .i64 A.p, .slice Aa A.ns.length ca], A) ∈ fs4 := by rw [← hfs4]; exact List.mem_cons_of_mem _ (List.mem_cons_of_mem _ MA)
        have MD4 : (h2, Value.agg #[.int .i64 A.p, .slice Ad A.ns.length cd], A) ∈ fs4 := by rw [← hfs4]; exact List.mem_cons_of_mem _ (List.mem_cons_self ..)
        have MC4 : (bC, Value.agg #[.int .i64 A.p, .slice Ac A.ns.length cc], ⟨A.p, ms⟩) ∈ fs4 := by rw [← hfs4]; exact List.mem_cons_self ..
        have hK := Lib.hid hK4
        have HD := Lib.hid (fun W (hk : Hid (KB w bs3 fs4 W)) => hk.out.call (rSame6_ok W (hk.out.funI MD4) (hk.out.funI MA4) (Nat.le_refl _)))
        have HC := Lib.hid (fun W (hk : Hid (KB w bs3 fs4 W)) => hk.out.call (rSame6_ok W (hk.out.funI MC4) (hk.out.funI MA4) (Nat.le_refl _)))
        have HO := Lib.hid (fun W (hk : Hid (KB w bs3 fs4 W)) => hk.out.call (works_ok6 W))
        rw [HS.out] at HD
        have HR := hR
        clear hfs4 hK4 hcf hlo hR c0 c1 lc
        obtain ⟨a0, a1, la⟩ := KB.box2 hK mA3
        obtain ⟨c0, c1, lc⟩ := KB.box2 hK mC3
        obtain ⟨d0, d1, ld⟩ := KB.box2 hK mD3
        by_cases hn0 : A.ns.length = 0
        · have hz : ((A.ns.length : Int) == 0) = true := beq_iff_eq.2 (by omega)
          clear hn0
          go_wp2_with (first | (go_at_call 24; (with_reducible refine (HD.out _ hK).mono ?_); rintro e w1 ⟨rfl, hK⟩; obtain ⟨a0, a1, la⟩ := KB.box2 hK mA3; obtain ⟨c0, c1, lc⟩ := KB.box2 hK mC3; obtain ⟨d0, d1, ld⟩ := KB.box2 hK mD3) | (go_at_call 10; (with_reducible refine (HO.out _ hK).mono ?_); rintro e w1 ⟨rfl, hK⟩))
          go_ret
          exact ⟨rfl, hK.out.bl⟩
        · have hz : ((A.ns.length : Int) == 0) = false := by rw [beq_eq_false_iff_ne]; omega
          rw [HR.out.2.2.ne (by omega) (by omega)] at HC
          clear hn0
          go_wp2_with (first | (go_at_call 24; (with_reducible refine (HD.out _ hK).mono ?_); rintro e w1 ⟨rfl, hK⟩; obtain ⟨a0, a1, la⟩ := KB.box2 hK mA3; obtain ⟨c0, c1, lc⟩ := KB.box2 hK mC3; obtain ⟨d0, d1, ld⟩ := KB.box2 hK mD3) | (go_at_call 24; (with_reducible refine (HC.out _ hK).mono ?_); rintro e w1 ⟨rfl, hK⟩; obtain ⟨a0, a1, la⟩ := KB.box2 hK mA3; obtain ⟨c0, c1, lc⟩ := KB.box2 hK mC3; obtain ⟨d0, d1, ld⟩ := KB.box2 hK mD3) | (go_at_call 10; (with_reducible refine (HO.out _ hK).mono ?_); rintro e w1 ⟨rfl, hK⟩))
          go_ret
          exact ⟨rfl, hK.out.bl⟩
end Go.Proofs.Ytleihdakmibmhaa
