/- examine: the view of a function that may be, or its first wrong node. -/
import Derived.Test.YtleihdakmibmhaaFg
import Derived.Test.YtleihdakmibmhaaFe
import Derived.Deep.CutRange
namespace Go.Proofs.Ytleihdakmibmhaa
open Go.RowKit Go.Shelf
attribute [local go_sem] Oper.semAt_some store_nilFunc6 store_func6

/-- How examine ends. -/
def ExamP (w : World) (F : Fd) (e : Ending) (w' : World) : Prop :=
  (∃ st bv gp gv A c, placesF F = .ok st ∧ e = .returned (.pointer (some ⟨bv, 0, none⟩)) ∧ ViewS w bv gp gv F A c st w') ∨ (∃ k : Nat, placesF F = .bad k ∧ e = .panicked [wrongP (k : Int)] ∧ Below w.heap.size w w')
theorem blk_loadCells6 {P : Program} {w : World} {g n : Nat} {t : TypeId} {cs : Array Value} (h : Blk w g t cs) (hn : cs.size = n) : (loadCellsFrom ⟨g, 0, none⟩ 0 n #[]).run P w = .ok cs w := by
  subst hn
  have := run_loadCells_list (P := P) w ⟨g, 0, none⟩ cs.toList (fun j v hv => by
    have hadd : (⟨g, 0, none⟩ : Addr).add j = ⟨g, j, none⟩ := by unfold Addr.add; split <;> simp_all
    rw [hadd, h.cell j]
    simpa using hv)
  simpa [loadCells] using this
theorem runF_succ {F : Fd} {k : Nat} {st : ST} {x : Nd} (h : runF F k = .ok st) (hx : F.ns[k]? = some x) : runF F (k + 1) = match stepN F.ns.length k x st with
    | none => .bad k
    | some st' => .ok st' := by
  simp only [runF, h, hx]
  cases stepN F.ns.length k x st <;> rfl
theorem runF_bad {F : Fd} {k j : Nat} (h : runF F k = .bad j) : ∀ m, runF F (k + m) = .bad j
  | 0 => h
  | m + 1 => by rw [← Nat.add_assoc]; simp only [runF, runF_bad h m]
theorem places_bad {F : Fd} {k j : Nat} (hb : boundsB F = true) (hk : k ≤ F.ns.length) (h : runF F k = .bad j) : placesF F = .bad j := by
  unfold placesF
  rw [if_pos hb]
  have := runF_bad h (F.ns.length - k)
  rwa [Nat.add_sub_cancel' hk] at this
theorem fits_range {i : Nat} {x : Nd} {st : ST} (h : fitsB i x st = true) : x.l.length ≤ 1000 ∧ st.2.getD i 0 ≤ 64 := by
  unfold fitsB at h
  simp only [Bool.and_eq_true, Bool.not_eq_true', decide_eq_false_iff_not] at h
  refine ⟨?_, by omega⟩
  have h1 := h.1.2
  unfold lenOK at h1
  repeat' split at h1
  all_goals first | (simp at h1; omega) | (simp at h1; simp [h1]) | (simp at h1)

theorem ints1 (a : Int) (W : World) (g : Nat) (hg : W.heap.size = g) (ha : W64 a) : IntsI (W.alloc (.cells #[.int .i64 a] 3)) 0 (g + 1) (.slice (some ⟨g, 0, none⟩) 1 1) [a] :=
  IntsI.of_blk (c := 1) (xs := [a]) (blkN hg 3 _) (fun j y hy => by
    match j, hy with
    | 0, hy => simp at hy; subst hy; rfl) (fun y hy => by simp at hy; subst hy; exact ha) (by simp) (by simp [maxLen]) (Nat.zero_le _) (by omega)
theorem within2 (n a b : Int) (W : World) (g : Nat) (hg : W.heap.size = g) (ha : W64 a) (hb : W64 b) :
    Calls Try.prog 51 #[.int .i64 n, .slice (some ⟨g, 0, none⟩) 2 2] (W.alloc (.cells #[.int .i64 a, .int .i64 b] 3)) fun e w' => e = .returned (.bool (withinB n [a, b])) ∧ W.alloc (.cells #[.int .i64 a, .int .i64 b] 3) = w' :=
  within_ok n _ (IntsI.of_blk (lo := 0) (hi := g + 1) (c := 2) (xs := [a, b]) (blkN hg 3 _) (fun j y hy => by
    match j, hy with
    | 0, hy => simp at hy; subst hy; rfl
    | 1, hy => simp at hy; subst hy; rfl) (fun y hy => by simp at hy; rcases hy with rfl | rfl <;> assumption) (by simp) (by simp [maxLen]) (Nat.zero_le _) (by omega)) (by simp)
set_option maxRecDepth 100000 in
set_option maxHeartbeats 1600000 in
theorem examine_ok {F : Fd} {v : Value} (w : World) (h : FunI w 0 w.heap.size v F) : Calls Try.prog 31 #[v] w (ExamP w F) := by
  obtain ⟨s, rfl, hp64, hN⟩ := h
  obtain ⟨A, c, rfl, hc1, hc2⟩ := hN.form
  have hc2' := hc2
  unfold maxLen at hc2
  have HN := Lib.hid hN
  clear hN
  by_cases hP : 0 ≤ F.p ∧ F.p ≤ 9
  · have hwb : withinB F.p [0, 9] = true := by unfold withinB; simp; omega
    have hpn : ∀ w, (Instr.panic (.iface 80 (.int .i64 0))).run Try.prog w = .halt (.panic (.iface 80 (.int .i64 0))) w := fun _ => rfl
    have hwi := fun W g hg => within2 F.p 0 9 W g hg (by unfold W64; omega) (by unfold W64; omega)
    rw [hwb] at hwi
    have HW := Lib.hid hwi
    clear hwi hwb
    have hwi2 := fun W g hg => within2 (F.ns.length : Int) 1 200 W g hg (by unfold W64; omega) (by unfold W64; omega)
    by_cases hL : 1 ≤ F.ns.length ∧ F.ns.length ≤ 200
    · have hwb : withinB (F.ns.length : Int) [1, 200] = true := by unfold withinB; simp; omega
      rw [hwb] at hwi2
      have HW2 := Lib.hid hwi2
      clear hwi2 hwb
      obtain ⟨hL1, hL2⟩ := hL
      have hbd : boundsB F = true := by unfold boundsB; simp; omega
      have HBD := Lib.hid hbd
      clear hbd
      obtain ⟨W1, hW1⟩ : ∃ X, (((w.alloc (.cells #[.int .i64 F.p, .slice A F.ns.length c] 24)).alloc (.cells #[.int .i64 F.p, .slice A F.ns.length c, .slice none 0 0, .slice none 0 0] 64)).alloc (.cells #[.int .i64 0, .int .i64 9] 3)).alloc (.cells #[.int .i64 1, .int .i64 200] 3) = X := ⟨_, rfl⟩
      have hB1 : Below w.heap.size w W1 := by rw [← hW1]; exact ((((Below.refl _ w).alloc (Nat.le_refl _) _).alloc (by simp) _).alloc (by simp; omega) _).alloc (by simp; omega) _
      have hV1 : Blk W1 (w.heap.size + 1) 64 #[.int .i64 F.p, .slice A F.ns.length c, .slice none 0 0, .slice none 0 0] := by rw [← hW1]; exact ((blkN (by simp) _ _).alloc _).alloc _
      have HW1 := Lib.hid hW1
      clear hW1
      go_enter Try.func31, Try.ntmps31
      go_upto_region 4 with (first | (go_at_call 51; (with_reducible refine (HW.out _ _ (by simp)).mono ?_); rintro e w' ⟨rfl, rfl⟩) | (go_at_call 51; (with_reducible refine (HW2.out _ _ (by simp)).mono ?_); rintro e w' ⟨rfl, rfl⟩))
      rw [HW1.out]
      obtain ⟨bv, hbv⟩ : ∃ g, w.heap.size + 1 = g := ⟨_, rfl⟩
      rw [hbv] at hV1 ⊢
      have hwb : w.heap.size < bv := by omega
      have z0 := hV1.cell 0
      have z1 := hV1.cell 1
      have f2 := hV1.frozen 2
      have f3 := hV1.frozen 3
      have z2 := hV1.cell 2
      have z3 := hV1.cell 3
      simp at z0 z1 z2 z3
      have lb := hV1.lt
      have hI1 : IntsI (W1.alloc (.cells #[.int .i64 (-1)] 3)) 0 (W1.heap.size + 1) (.slice (some ⟨W1.heap.size, 0, none⟩) 1 1) [-1] :=
        ints1 (-1) W1 _ rfl (by unfold W64; omega)
      have hRp := (repeat_ok F.ns.length (-1) hL1 (by omega) _ hI1).mono
        (R' := fun e w' => e = .returned (.slice (some ⟨W1.heap.size + 1, 0, none⟩) F.ns.length F.ns.length) ∧ w'.cell? ⟨bv, 0, none⟩ = some (.int .i64 F.p) ∧ w'.cell? ⟨bv, 1, none⟩ = some (.slice A F.ns.length c) ∧ w'.cell? ⟨bv, 2, none⟩ = some (.slice none 0 0) ∧ w'.cell? ⟨bv, 3, none⟩ = some (.slice none 0 0) ∧ w'.frozen? ⟨bv, 2, none⟩ = false ∧
          Hid (Blk w' (W1.heap.size + 1) 3 (intsOf (List.replicate F.ns.length (-1))) ∧ Below W1.heap.size W1 w' ∧ Blk w' bv 64 #[.int .i64 F.p, .slice A F.ns.length c, .slice none 0 0, .slice none 0 0]))
        (fun e w' q => by
          obtain ⟨rfl, q1, q2⟩ := q
          simp only [World.size_alloc] at q1 q2
          have hb := ((Below.refl _ W1).alloc (Nat.le_refl _) (.cells #[.int .i64 (-1)] 3)).trans (q2.mono (by omega))
          have hv := hV1.keep (hb.block _ lb)
          exact ⟨by simp, by simpa using hv.cell 0, by simpa using hv.cell 1, by simpa using hv.cell 2, by simpa using hv.cell 3, hv.frozen 2, Lib.hid ⟨q1, hb, hv⟩⟩)
      have HRP := Lib.hid hRp
      have HB1 := Lib.hid hB1
      clear hRp hI1 HW HW2 hB1 hV1 hbv HW1 f3 z2 z3
      go_upto_region 5 with (go_at_call 52; (with_reducible refine HRP.out.mono ?_); rintro e w2 ⟨rfl, z0, z1, z2, z3, f2, hQ2⟩)
      obtain ⟨gp, hgp⟩ : ∃ g, W1.heap.size + 1 = g := ⟨_, rfl⟩
      obtain ⟨W3, hW3⟩ : ∃ X, w2.setCell ⟨bv, 2, none⟩ (.slice (some ⟨W1.heap.size + 1, 0, none⟩) F.ns.length F.ns.length) = X := ⟨_, rfl⟩
      obtain ⟨hq1, hq2, hq3⟩ := hQ2.out
      rw [hgp] at hq1
      have hne3 : gp ≠ bv := by omega
      have hV3 : Blk W3 bv 64 #[.int .i64 F.p, .slice A F.ns.length c, .slice (some ⟨gp, 0, none⟩) F.ns.length F.ns.length, .slice none 0 0] := by rw [← hW3, hgp]; exact hq3.set 2 _
      have hP3 : Blk W3 gp 3 (intsOf (List.replicate F.ns.length (-1))) := by rw [← hW3]; exact hq1.far hne3 _
      have hB3 : Below w.heap.size w W3 := by rw [← hW3]; exact (HB1.out.trans (hq2.mono HB1.out.size)).setCell (by show w.heap.size ≤ bv; omega) _
      rw [hW3, hgp]
      have hgpl : w.heap.size ≤ gp := by have := HB1.out.size; omega
      clear hW3 hq1 hq2 hq3 hQ2 z0 z1 z2 z3 f2 HRP HB1 lb hgp
      obtain ⟨z0, z1⟩ : W3.cell? ⟨bv, 0, none⟩ = some (.int .i64 F.p) ∧ W3.cell? ⟨bv, 1, none⟩ = some (.slice A F.ns.length c) := ⟨by simpa using hV3.cell 0, by simpa using hV3.cell 1⟩
      have z3 : W3.cell? ⟨bv, 3, none⟩ = some (.slice none 0 0) := by simpa using hV3.cell 3
      have f3 := hV3.frozen 3
      have lb := hV3.lt
      have lgp := hP3.lt
      obtain ⟨i0, hi0', hz0, hz1, hz2⟩ := info_parts6 intInfo
      have hmk : (Instr.makeSlice 45 (.int .i64 (F.ns.length : Int)) (.int .i64 (F.ns.length : Int))).run Try.prog W3 = .ok (.slice (some ⟨W3.heap.size, 0, none⟩) F.ns.length F.ns.length) (W3.alloc (.cells (fillC F.ns.length 0 0) 3)) := by
        have hr := run_make (P := Try.prog) W3 45 3 i0 _ Try.underlying45 hi0' hz0 .i64 .i64 F.ns.length F.ns.length (by omega) (Int.le_refl _) (by rw [hz2]; omega) (by omega)
        rw [fillC_zero]
        simpa [hz1, Value.cells] using hr
      have H3 := Lib.hid (And.intro hV3 (And.intro hP3 hB3))
      clear hi0' hz0 hz1 hz2 i0 hV3 hP3 hB3
      go_upto_region 6 with fail
      clear hmk
      obtain ⟨gv, hgv⟩ : ∃ g, W3.heap.size = g := ⟨_, rfl⟩
      obtain ⟨W5, hW5⟩ : ∃ X, (W3.setCell ⟨bv, 3, none⟩ (.slice (some ⟨W3.heap.size, 0, none⟩) F.ns.length F.ns.length)).alloc (.cells (fillC F.ns.length 0 0) 3) = X := ⟨_, rfl⟩
      obtain ⟨hV3, hP3, hB3⟩ := H3.out
      have hlt3 : gp < gv := by omega
      have hV5 : Blk W5 bv 64 #[.int .i64 F.p, .slice A F.ns.length c, .slice (some ⟨gp, 0, none⟩) F.ns.length F.ns.length, .slice (some ⟨gv, 0, none⟩) F.ns.length F.ns.length] := by rw [← hW5, hgv]; exact (hV3.set 3 _).alloc _
      have hP5 : Blk W5 gp 3 (intsOf (List.replicate F.ns.length (-1))) := by rw [← hW5]; exact (hP3.far hne3 _).alloc _
      have hQ5 : Blk W5 gv 3 (intsOf (List.replicate F.ns.length 0)) := by
        rw [← hW5, show fillC F.ns.length 0 0 = intsOf (List.replicate F.ns.length 0) by unfold fillC; simp]
        exact blkN (by simpa [World.setCell] using hgv) _ _
      have hB5 : Below w.heap.size w W5 := by rw [← hW5]; exact (hB3.setCell (by show w.heap.size ≤ bv; omega) _).alloc (by have := hB3.size; simpa [World.setCell] using this) _
      rw [hW5, hgv]
      clear hW5 hV3 hP3 hB3 H3 z0 z1 z3 f3 lb lgp hgv
      obtain ⟨z0, z1, z2, z3⟩ : W5.cell? ⟨bv, 0, none⟩ = some (.int .i64 F.p) ∧ W5.cell? ⟨bv, 1, none⟩ = some (.slice A F.ns.length c) ∧ W5.cell? ⟨bv, 2, none⟩ = some (.slice (some ⟨gp, 0, none⟩) F.ns.length F.ns.length) ∧ W5.cell? ⟨bv, 3, none⟩ = some (.slice (some ⟨gv, 0, none⟩) F.ns.length F.ns.length) :=
        ⟨by simpa using hV5.cell 0, by simpa using hV5.cell 1, by simpa using hV5.cell 2, by simpa using hV5.cell 3⟩
      have qv : W5.cell? ⟨gv, 0, none⟩ = some (.int .i64 0) := by rw [hQ5.cell]; exact intsOf_get (by rw [List.getElem?_replicate, if_pos (by omega)])
      have fv := hQ5.frozen 0
      have lb := hV5.lt
      have lv := hQ5.lt
      have H5 := Lib.hid (And.intro hV5 (And.intro hP5 (And.intro hQ5 hB5)))
      have hnI : (0 : Int) < (F.ns.length : Int) := by omega
      clear hV5 hP5 hQ5 hB5
      go_region
      obtain ⟨W6, hW6⟩ : ∃ X, (W5.setCell ⟨gv, 0, none⟩ (.int .i64 F.p)).drew = X := ⟨_, rfl⟩
      obtain ⟨hV5, hP5, hQ5, hB5⟩ := H5.out
      have hvs : ViewS w bv gp gv F A c (startS F) W6 := by
        rw [← hW6]
        refine ⟨(hB5.setCell (by show w.heap.size ≤ gv; omega) _).drew, (hV5.far (hV5.ne hQ5 (by decide)) _).drew, (hP5.far (Nat.ne_of_lt hlt3) _).drew, ?_, ⟨by simp [startS], by simp [startS], fun y hy => ?_, fun y hy => ?_⟩, ⟨by omega, hgpl, hlt3⟩, HN.out⟩
        · have := hQ5.set 0 (.int .i64 F.p)
          rw [intsOf_set] at this
          exact this.drew
        · rw [List.eq_of_mem_replicate hy]; omega
        · rcases List.mem_or_eq_of_mem_set hy with hy | rfl
          · rw [List.eq_of_mem_replicate hy]; omega
          · omega
      rw [hW6]
      have HVS := Lib.hid hvs
      clear hvs hW6 hV5 hP5 hQ5 hB5 H5 z0 z1 z2 z3 qv fv lb lv
      have hsh := (shapes6_ok W6).mono
        (R' := fun e w' => ∃ K, e = .returned (.agg K) ∧ K.size = 50 ∧ (storeCells ⟨w'.heap.size, 0, none⟩ K.toList 0).run Try.prog (w'.alloc (.cells #[.nilFunc, .nilFunc, .nilFunc, .nilFunc, .nilFunc, .nilFunc, .nilFunc, .nilFunc, .nilFunc, .nilFunc, .nilFunc, .nilFunc, .nilFunc, .nilFunc, .nilFunc, .nilFunc, .nilFunc, .nilFunc, .nilFunc, .nilFunc, .nilFunc, .nilFunc, .nilFunc, .nilFunc, .nilFunc, .nilFunc, .nilFunc, .nilFunc, .nilFunc, .nilFunc, .nilFunc, .nilFunc, .nilFunc, .nilFunc, .nilFunc, .nilFunc, .nilFunc, .nilFunc, .nilFunc, .nilFunc, .nilFunc, .nilFunc, .nilFunc, .nilFunc, .nilFunc, .nilFunc, .nilFunc, .nilFunc, .nilFunc, .nilFunc] 87)) = .ok () (w'.alloc (.cells K 87)) ∧
          Hid (Known (w'.alloc (.cells K 87)) W6.heap.size w'.heap.size K ∧ ViewS w bv gp gv F A c (startS F) (w'.alloc (.cells K 87)) ∧ W6.heap.size ≤ w'.heap.size))
        (fun e w' q => by
          obtain ⟨K, rfl, hK, hb⟩ := q
          have hba : Below w'.heap.size w' (w'.alloc (.cells K 87)) := (Below.refl _ w').alloc (Nat.le_refl _) _
          exact ⟨K, rfl, hK.size, run_storeCells_new (P := Try.prog) w' 87 _ K (by rw [hK.size]; kernel_rfl) (by rw [hK.size]; rfl) hK.one, Lib.hid ⟨hK.keep (Kept.of_below hba (Nat.le_refl _)), (HVS.out.below hb).below hba, hb.size⟩⟩)
      have HSH := Lib.hid hsh
      clear hsh
      go_upto_region 8 with (go_at_call 53; (with_reducible refine HSH.out.mono ?_); rintro e w7 ⟨K, rfl, hks, key, hQ7⟩)
      obtain ⟨g4, hg4⟩ : ∃ g, w7.heap.size = g := ⟨_, rfl⟩
      obtain ⟨W8, hW8⟩ : ∃ X, w7.alloc (.cells K 87) = X := ⟨_, rfl⟩
      have hB8 : Blk W8 g4 87 K := by rw [← hW8]; exact blkN hg4 _ _
      rw [hW8, hg4] at hQ7
      rw [hW8, hg4]
      obtain ⟨hK8, hV8, hle8⟩ := hQ7.out
      have hg4l : gp < W6.heap.size ∧ gv < W6.heap.size := ⟨HVS.out.par.lt, HVS.out.var.lt⟩
      have hR0 : Hid (∃ st, runF F 0 = .ok st ∧ ViewS w bv gp gv F A c st W8 ∧ Blk W8 g4 87 K ∧ Known W8 W6.heap.size g4 K) := Lib.hid ⟨_, rfl, hV8, hB8, hK8⟩
      obtain ⟨z0, z1, z2, z3⟩ := hV8.cells
      clear key hW8 hg4 hQ7 hB8 hK8 hV8 HVS HSH hpn
      have HKS := Lib.hid hks
      clear hks
      go_wp2_with fail
      clear z0 z1 z2 z3
      go_loopw [67] (fun p wr => ∃ k : Nat, k ≤ F.ns.length ∧ p = .int .i64 (k : Int) ∧ Hid (∃ st, runF F k = .ok st ∧ ViewS w bv gp gv F A c st wr ∧ Blk wr g4 87 K ∧ Known wr W6.heap.size g4 K)) (fun p _ => F.ns.length - (intOf p).toNat)
      case atStart => exact ⟨0, Nat.zero_le _, rfl, hR0⟩
      case round =>
        obtain ⟨k, hk, rfl, hR⟩ := hrel
        clear hR0
        have hk0 : (0 : Int) ≤ (k : Int) := by omega
        obtain ⟨st, hst, hV, hB, hKn⟩ := hR.out
        by_cases hkl : k < F.ns.length
        · have hkI : (k : Int) < (F.ns.length : Int) := by omega
          obtain ⟨x, hx⟩ : ∃ x, F.ns[k]? = some x := ⟨_, List.getElem?_eq_getElem hkl⟩
          have hrs := runF_succ hst hx
          have hload := blk_loadCells6 (P := Try.prog) hB HKS.out
          simp [go_sem] at hload
          have hgl := hB.lt
          have hft := fits6_ok hV hx hKn (Nat.le_of_lt hgl)
          have hpn : ∀ w, (Instr.panic (.iface 80 (.int .i64 (k : Int)))).run Try.prog w = .halt (.panic (.iface 80 (.int .i64 (k : Int)))) w := fun _ => rfl
          cases hfb : fitsB k x st
          · rw [hfb] at hft
            have hbad : placesF F = .bad k := places_bad HBD.out (k := k + 1) (by omega) (by rw [hrs]; unfold stepN; rw [if_neg (by rw [hfb]; decide)])
            have HBAD := Lib.hid hbad
            have HFT := Lib.hid hft
            have HVB := Lib.hid hV.bl
            clear hft hbad hrs hst hV hB hKn hfb hx hR
            go_wp2_with (go_at_call 54; (with_reducible refine HFT.out.mono ?_); rintro e w9 ⟨rfl, hb9⟩)
            exact ⟨rfl, .inr ⟨k, HBAD.out, rfl, HVB.out.trans (hb9.mono HVB.out.size)⟩⟩
          · rw [hfb] at hft
            have hfr := fits_range hfb
            have hrs' : runF F (k + 1) = match adoptL k x.op F.ns.length 0 x.l st with
                | none => .bad k
                | some st' => .ok st' := by rw [hrs]; unfold stepN; rw [if_pos hfb]
            have had : ∀ w9, Below wr.heap.size wr w9 → Calls Try.prog 55 #[.pointer (some ⟨bv, 0, none⟩), .int .i64 (k : Int)] w9 (AdoptP w w9 bv gp gv F A c k (adoptL k x.op F.ns.length 0 x.l st)) := fun w9 hb9 =>
              adopt6_ok (hV.below hb9) hx (by omega) hfr.1 hfr.2
            have HRS := Lib.hid hrs'
            have HFT := Lib.hid hft
            have HAD := Lib.hid had
            have HK9 : Hid (∀ w9, Below wr.heap.size wr w9 → Blk w9 g4 87 K ∧ Known w9 W6.heap.size g4 K) := Lib.hid fun w9 hb9 => ⟨hB.keep (hb9.block _ hgl), hKn.keep (Kept.of_below hb9 (Nat.le_of_lt hgl))⟩
            clear hft had hrs hrs' hst hV hB hKn hfb hx hR hfr
            cases hr : adoptL k x.op F.ns.length 0 x.l st with
            | none =>
              rw [hr] at HRS HAD
              have hbad : placesF F = .bad k := places_bad HBD.out (k := k + 1) (by omega) HRS.out
              have HBAD := Lib.hid hbad
              clear hbad hr
              go_wp2_with (first | (go_at_call 54; (with_reducible refine HFT.out.mono ?_); rintro e w9 ⟨rfl, hb9⟩) | (go_at_call 55; (with_reducible refine (HAD.out _ hb9).mono ?_); rintro e w10 (⟨st', h0, _⟩ | ⟨_, rfl, hb10⟩); (· cases h0)))
              exact ⟨rfl, .inr ⟨k, HBAD.out, rfl, hb10⟩⟩
            | some st2 =>
              rw [hr] at HRS HAD
              clear hr
              go_wp2_with (first | (go_at_call 54; (with_reducible refine HFT.out.mono ?_); rintro e w9 ⟨rfl, hb9⟩) | (go_at_call 55; (with_reducible refine (HAD.out _ hb9).mono ?_); rintro e w10 (⟨st', h0, rfl, hV10, hk10⟩ | ⟨h0, _⟩); rotate_left; (· cases h0)))
              obtain ⟨h9a, h9b⟩ := HK9.out _ hb9
              have hF : ∀ b, W6.heap.size ≤ b → ¬ (b = gp ∨ b = gv) := fun b h => by omega
              exact ⟨⟨k + 1, by omega, by go_num, Lib.hid ⟨st', by rw [HRS.out]; simp at h0; rw [h0], hV10, h9a.keep (hk10.block _ h9a.lt (hF _ hle8)), h9b.keep (fun b h1 h2 => hk10.block b (by have := h9a.lt; omega) (hF _ h1))⟩⟩, by simp [intOf]; omega⟩
        · have hkI : ¬ (k : Int) < (F.ns.length : Int) := by omega
          obtain rfl : k = F.ns.length := by omega
          go_wp2_with fail
          go_ret
          exact .inl ⟨st, bv, gp, gv, A, c, by unfold placesF; rw [if_pos HBD.out]; exact hst, rfl, hV⟩
    · have hpl : placesF F = .bad 0 := by unfold placesF boundsB; rw [if_neg (by simp; omega)]
      have hwb : withinB (F.ns.length : Int) [1, 200] = false := by unfold withinB; simp; omega
      rw [hwb] at hwi2
      have HW2 := Lib.hid hwi2
      have HPL := Lib.hid hpl
      clear hwi2 hwb hpl
      go_enter Try.func31, Try.ntmps31
      go_wp2_with (first | (go_at_call 51; (with_reducible refine (HW.out _ _ (by simp)).mono ?_); rintro e w' ⟨rfl, rfl⟩) | (go_at_call 51; (with_reducible refine (HW2.out _ _ (by simp)).mono ?_); rintro e w' ⟨rfl, rfl⟩))
      exact ⟨rfl, .inr ⟨0, HPL.out, rfl, ((((Below.refl _ w).alloc (Nat.le_refl _) _).alloc (by simp) _).alloc (by simp; omega) _).alloc (by simp; omega) _⟩⟩
  · have hpl : placesF F = .bad 0 := by unfold placesF boundsB; rw [if_neg (by simp; omega)]
    have hwb : withinB F.p [0, 9] = false := by unfold withinB; simp; omega
    have hpn : ∀ w, (Instr.panic (.iface 80 (.int .i64 0))).run Try.prog w = .halt (.panic (.iface 80 (.int .i64 0))) w := fun _ => rfl
    have hwi := fun W g hg => within2 F.p 0 9 W g hg (by unfold W64; omega) (by unfold W64; omega)
    rw [hwb] at hwi
    have HW := Lib.hid hwi
    have HPL := Lib.hid hpl
    clear hwi hwb hpl
    go_enter Try.func31, Try.ntmps31
    go_wp2_with (go_at_call 51; (with_reducible refine (HW.out _ _ (by simp)).mono ?_); rintro e w' ⟨rfl, rfl⟩)
    exact ⟨rfl, .inr ⟨0, HPL.out, rfl, (((Below.refl _ w).alloc (Nat.le_refl _) _).alloc (by simp) _).alloc (by simp; omega) _⟩⟩
end Go.Proofs.Ytleihdakmibmhaa
