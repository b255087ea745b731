/- Places, walked. -/
import Derived.Test.YtleihdakmibmhaaFq
namespace Go.Proofs.Ytleihdakmibmhaa
open Go.RowKit Go.Shelf
attribute [local go_sem] Oper.semAt_some

/-- What the outer loop of Places keeps behind k nodes. -/
def PO (w : World) (F : Fd) (A : Option Addr) (c g k : Nat) (W : World) : Prop := ∃ st, runF F k = .ok st ∧ PlS W g F.ns.length st ∧ StOK F.ns.length st ∧ BX w F A c W ∧ w.heap.size < g

set_option maxRecDepth 100000 in
set_option maxHeartbeats 6400000 in
theorem rPlaces_ok {F : Fd} {v : Value} {hi : Nat} (w : World) (h : FunI w 0 hi v F) (hh : hi ≤ w.heap.size) : Calls Try.prog 32 #[v] w (PlacesP w F) := by
  obtain ⟨s, rfl, hp64, hN⟩ := h
  obtain ⟨A, c, rfl, hc1, hc2⟩ := hN.form
  unfold maxLen at hc2
  have HN := Lib.hid hN
  clear hN
  have hb1 : Below w.heap.size w (w.alloc (.cells #[.int .i64 F.p, .slice A F.ns.length c] 24)) := (Below.refl _ w).alloc (Nat.le_refl _) _
  have hbx : BX w F A c (w.alloc (.cells #[.int .i64 F.p, .slice A F.ns.length c] 24)) := ⟨hb1, Blk.new _ _ _⟩
  by_cases hB : boundsB F = true
  · have hbb := hB
    unfold boundsB at hbb
    simp only [Bool.and_eq_true, decide_eq_true_eq] at hbb
    obtain ⟨⟨hp0, hp9⟩, hn1, hn2⟩ := hbb
    have hn1I : ¬ (F.ns.length : Int) < 1 := by omega
    have hn2I : ¬ (200 : Int) < (F.ns.length : Int) := by omega
    have hp0I : ¬ F.p < 0 := by omega
    have hp9I : ¬ (9 : Int) < F.p := by omega
    obtain ⟨i0, hi0', hz0, hz1, hz2⟩ := info_parts6 placeInfo
    have HBX := Lib.hid hbx
    have HB := Lib.hid hB
    obtain ⟨W1, hW1⟩ : ∃ X, w.alloc (.cells #[.int .i64 F.p, .slice A F.ns.length c] 24) = X := ⟨_, rfl⟩
    rw [hW1] at HBX
    have hmk : (Instr.makeSlice 59 (.int .i64 (F.ns.length : Int)) (.int .i64 (F.ns.length : Int))).run Try.prog W1 = .ok (.slice (some ⟨W1.heap.size, 0, none⟩) F.ns.length F.ns.length) (W1.alloc (.cells (madeCells #[.int .i64 0, .int .i64 0] (F.ns.length * 2)) 66)) := by
      have hr := run_make (P := Try.prog) W1 59 66 i0 _ Try.underlying59 hi0' hz0 .i64 .i64 F.ns.length F.ns.length (by omega) (Int.le_refl _) (by rw [hz2]; omega) (by omega)
      simpa [hz1, Value.cells] using hr
    have hsz := HBX.out.cells.2.2
    rw [← hW1] at hmk
    have HW1 := Lib.hid hW1
    clear hb1 hbx hB hi0' hz0 hz1 hz2 i0 hW1
    go_enter Try.func32, Try.ntmps32
    go_upto_region 6 with fail
    clear hmk
    obtain ⟨W2, hW2⟩ : ∃ X, (w.alloc (.cells #[.int .i64 F.p, .slice A F.ns.length c] 24)).alloc (.cells (madeCells #[.int .i64 0, .int .i64 0] (F.ns.length * 2)) 66) = X := ⟨_, rfl⟩
    obtain ⟨g, hg⟩ : ∃ g, w.heap.size + 1 = g := ⟨_, rfl⟩
    have hA2 : PlA W2 g F.ns.length 0 := ⟨_, by rw [← hW2]; exact blkN (by rw [World.size_alloc]; exact hg) _ _, by rw [size_madeCells], fun i hi => by omega⟩
    have hX2 : BX w F A c W2 := by rw [← hW2, HW1.out]; exact HBX.out.keep ((Keep.refl (fun _ => False) W1).alloc _) (fun _ hj => hj.elim)
    have hgl : w.heap.size < g := by omega
    rw [hW2, hg]
    have H2 := Lib.hid (And.intro hA2 hX2)
    clear hW2 hg hA2 hX2 HBX HW1 hsz
    go_loopw [7] (fun p wr => ∃ k : Nat, k ≤ F.ns.length ∧ p = .int .i64 (k : Int) ∧ Hid (PlA wr g F.ns.length k ∧ BX w F A c wr)) (fun p _ => F.ns.length - (intOf p).toNat)
    case atStart => exact ⟨0, Nat.zero_le _, rfl, H2⟩
    case round =>
      obtain ⟨k, hk, rfl, hR⟩ := hrel
      clear H2
      have hk0 : (0 : Int) ≤ (k : Int) := by omega
      by_cases hlt : k < F.ns.length
      · have hltI : (k : Int) < (F.ns.length : Int) := by omega
        obtain ⟨hA, hX⟩ := hR.out
        obtain ⟨⟨u, hu⟩, ⟨u', hu'⟩, f0, f1, hnx⟩ := hA.next hlt
        have hlg : g < wr.heap.size := lt_of_cell hu
        have hw1 : IntKind.i64.wrap ((k : Int) + 1) = (k : Int) + 1 := IntWalk.i64_in _ (by omega)
        have hX' : BX w F A c ((wr.setCell ⟨g, k * 2, none⟩ (.int .i64 (-1))).setCell ⟨g, k * 2 + 1, none⟩ (.int .i64 0)) := hX.keep (P := fun j => j = g) ((Keep.setCell (p := ⟨g, k * 2, none⟩) (Keep.refl (fun j => j = g) wr) (.inl rfl) _).setCell (p := ⟨g, k * 2 + 1, none⟩) (.inl rfl) _) (fun j hj => by subst hj; exact hgl)
        have HN1 := Lib.hid (And.intro hnx hX')
        clear hA hX hR hnx hX'
        go_wp2_with fail
        exact ⟨⟨k + 1, by omega, by go_num, HN1⟩, by simp [intOf]; omega⟩
      · have hltI : ¬ (k : Int) < (F.ns.length : Int) := by omega
        obtain rfl : k = F.ns.length := by omega
        obtain ⟨hA, hX⟩ := hR.out
        obtain ⟨a0, a1, la⟩ := hX.cells
        have hS := hA.done
        have hok : StOK F.ns.length (List.replicate F.ns.length (-1), List.replicate F.ns.length 0) := ⟨by simp, by simp, fun y hy => by rw [List.eq_of_mem_replicate hy]; omega, fun y hy => by rw [List.eq_of_mem_replicate hy]; omega⟩
        obtain ⟨q0, q1, f0, f1⟩ := hS.at_ (i := 0) (by omega)
        have hlg := hS.lt
        simp only [Nat.zero_mul, Nat.zero_add] at q0 q1 f0 f1
        have hS' : PlS (wr.setCell ⟨g, 1, none⟩ (.int .i64 F.p)) g F.ns.length (startS F) := hS.set2 hok (c := 0) (by omega) F.p
        have hok' : StOK F.ns.length (startS F) := ⟨hok.l1, by simp [startS], hok.par, fun y hy => by
          rcases List.mem_or_eq_of_mem_set hy with hy | rfl
          · exact hok.var y hy
          · omega⟩
        have hX' : BX w F A c (wr.setCell ⟨g, 1, none⟩ (.int .i64 F.p)) := hX.keep (P := fun j => j = g) (Keep.setCell (p := ⟨g, 1, none⟩) (Keep.refl (fun j => j = g) wr) (.inl rfl) _) (fun j hj => by subst hj; exact hgl)
        have HO : Hid (PO w F A c g 0 (wr.setCell ⟨g, 1, none⟩ (.int .i64 F.p))) := Lib.hid ⟨_, rfl, hS', hok', hX', hgl⟩
        have hn0 : (0 : Int) < (F.ns.length : Int) := by omega
        clear hA hX hR hS hok hS' hok' hX' hlt
        go_wp2_with fail
        clear a0 a1 la q0 q1 f0 f1 hlg
        go_loopw [8] (fun p wr => ∃ k : Nat, k ≤ F.ns.length ∧ p = .int .i64 (k : Int) ∧ Hid (PO w F A c g k wr)) (fun p _ => F.ns.length - (intOf p).toNat)
        case atStart => exact ⟨0, Nat.zero_le _, rfl, HO⟩
        case round =>
          obtain ⟨k, hk, rfl, hR⟩ := hrel
          clear HO
          obtain ⟨st, hst, hS, hok, hX, _⟩ := hR.out
          have hk0 : (0 : Int) ≤ (k : Int) := by omega
          by_cases hlt : k < F.ns.length
          · have hltI : (k : Int) < (F.ns.length : Int) := by omega
            obtain ⟨x, hx⟩ : ∃ x, F.ns[k]? = some x := ⟨_, List.getElem?_eq_getElem hlt⟩
            obtain ⟨a0, a1, la⟩ := hX.cells
            obtain ⟨b, o, sx, rfl, _, hbh, c0, c1, c2, hsx, _, _⟩ := HN.out.at_ hx
            obtain ⟨X, cx, rfl, hx1, hx2⟩ := hsx.form
            unfold maxLen at hx2
            replace c0 := belC hX.bl c0
            replace c1 := belC hX.bl c1
            replace c2 := belC hX.bl c2
            have lb := lt_of_cell c0
            obtain ⟨W3, hW3⟩ : ∃ X', wr.alloc (.cells #[.int .i64 x.op, .int .i64 x.n, .slice X x.l.length cx] 47) = X' := ⟨_, rfl⟩
            obtain ⟨nbx, hnbx⟩ : ∃ q, wr.heap.size = q := ⟨_, rfl⟩
            have hS3 : PlS W3 g F.ns.length st := by rw [← hW3]; exact hS.keep (Below.heap_alloc _ _ _ hS.lt)
            have hX3 : BX w F (some ⟨b, o, none⟩) c W3 := by rw [← hW3]; exact hX.keep ((Keep.refl (fun _ => False) wr).alloc _) (fun _ hj => hj.elim)
            have hB3 : Blk W3 nbx 47 #[.int .i64 x.op, .int .i64 x.n, .slice X x.l.length cx] := by rw [← hW3]; exact blkN hnbx _ _
            have hnbg : w.heap.size < nbx ∧ g < nbx := ⟨by omega, by have := hS.lt; omega⟩
            have HRS := Lib.hid (runF_succ hst hx)
            have HI := Lib.hid hsx
            have H3 := Lib.hid (And.intro hS3 (And.intro hX3 hB3))
            have HOK := Lib.hid hok
            have HW3 := Lib.hid (And.intro hW3 hnbx)
            clear hst hsx hS3 hX3 hB3 hW3 hnbx hS hX hR hx
            go_upto_region 15 with fail
            rw [HW3.out.1, HW3.out.2]
            clear a0 a1 la c0 c1 c2 lb HW3
            obtain ⟨hS3, hX3, hB3⟩ := H3.out
            obtain ⟨p0, v0, _, _⟩ := hS3.at_ hlt
            have lg := hS3.lt
            have ln := hB3.lt
            obtain ⟨n0, n1, n2⟩ : W3.cell? ⟨nbx, 0, none⟩ = some (.int .i64 x.op) ∧ W3.cell? ⟨nbx, 1, none⟩ = some (.int .i64 x.n) ∧ W3.cell? ⟨nbx, 2, none⟩ = some (.slice X x.l.length cx) := ⟨by simpa using hB3.cell 0, by simpa using hB3.cell 1, by simpa using hB3.cell 2⟩
            obtain ⟨p, hp⟩ : ∃ p, st.1.getD k 0 = p := ⟨_, rfl⟩
            obtain ⟨v, hv⟩ : ∃ v, st.2.getD k 0 = v := ⟨_, rfl⟩
            have hfit : fitsB k x st = (!(decide (0 < k) && decide (p < 0)) && !decide (64 < v) && lenOK x.op x.l.length && numOK x.op x.n v) := by unfold fitsB; rw [hp, hv]
            have hvr : 0 ≤ v ∧ v ≤ 1000000 := by
              have h1 : st.2[k]? = some v := by
                rw [List.getD_eq_getElem?_getD] at hv
                rw [List.getElem?_eq_getElem (by rw [HOK.out.l2]; exact hlt)] at hv ⊢
                simpa using hv
              exact HOK.out.var v (List.mem_of_getElem? h1)
            rw [hp] at p0
            rw [hv] at v0
            have hbe := fun n => (beneath_ok x.op (x.l.length : Int) (by omega) (W3.drewN n)).mono (R' := fun e w' => e = .returned (.bool (lenOK x.op x.l.length)) ∧ w' = W3.drewN n) (fun e w' q => ⟨q.1, q.2.symm⟩)
            have hnu := fun n => (number_ok x.op x.n v (W3.drewN n) hvr.1 hvr.2).mono (R' := fun e w' => e = .returned (.bool (numOK x.op x.n v)) ∧ w' = W3.drewN n) (fun e w' q => ⟨q.1, q.2.symm⟩)
            have HBE := Lib.hid hbe
            have HNU := Lib.hid hnu
            have HFIT := Lib.hid hfit
            have HPV := Lib.hid (And.intro hp hv)
            clear hbe hnu hfit hp hv hS3 hX3 hB3
            have hkI : (k : Int) ≤ 200 := by omega
            go_cut [97] from 60 to 97 (fun r wx => r = .bool (!fitsB k x st) ∧ Hid (PlS wx g F.ns.length st ∧ BX w F (some ⟨b, o, none⟩) c wx ∧ Blk wx nbx 47 #[.int .i64 x.op, .int .i64 x.n, .slice X x.l.length cx]))
            case first =>
              have hQ : ∀ n, Hid (PlS (W3.drewN n) g F.ns.length st ∧ BX w F (some ⟨b, o, none⟩) c (W3.drewN n) ∧ Blk (W3.drewN n) nbx 47 #[.int .i64 x.op, .int .i64 x.n, .slice X x.l.length cx]) := fun n => Lib.hid ⟨H3.out.1.keep rfl, ⟨H3.out.2.1.bl.trans (Below.drewN' _ n), H3.out.2.1.fb.drewN n⟩, H3.out.2.2.drewN n⟩
              have HQ := Lib.hid hQ
              clear hQ
              by_cases ha : 0 < k
              · have da : decide (0 < k) = true := decide_eq_true ha
                have haI : (0 : Int) < (k : Int) := by omega
                by_cases hb : p < 0
                · have db : decide (p < 0) = true := decide_eq_true hb
                  go_quiet ((first | exact Calls.quiet_of_same (HBE.out _) | exact Calls.quiet_of_same (HNU.out _)))
                  go_wp2
                  go_meet
                  exact ⟨by rw [HFIT.out]; simp [ha, hb], HQ.out _⟩
                · have db : decide (p < 0) = false := decide_eq_false hb
                  by_cases hw : 64 < v
                  · have dw : decide (64 < v) = true := decide_eq_true hw
                    go_quiet ((first | exact Calls.quiet_of_same (HBE.out _) | exact Calls.quiet_of_same (HNU.out _)))
                    go_wp2
                    go_meet
                    exact ⟨by rw [HFIT.out]; simp [ha, hw], HQ.out _⟩
                  · have dw : decide (64 < v) = false := decide_eq_false hw
                    cases hl : lenOK x.op x.l.length
                    · rw [hl] at HBE
                      go_quiet ((first | exact Calls.quiet_of_same (HBE.out _) | exact Calls.quiet_of_same (HNU.out _)))
                      go_wp2
                      go_meet
                      exact ⟨by rw [HFIT.out]; simp [ha, hl], HQ.out _⟩
                    · rw [hl] at HBE
                      cases hm : numOK x.op x.n v
                      · rw [hm] at HNU
                        go_quiet ((first | exact Calls.quiet_of_same (HBE.out _) | exact Calls.quiet_of_same (HNU.out _)))
                        go_wp2
                        go_meet
                        exact ⟨by rw [HFIT.out]; simp [ha, hm], HQ.out _⟩
                      · rw [hm] at HNU
                        go_quiet ((first | exact Calls.quiet_of_same (HBE.out _) | exact Calls.quiet_of_same (HNU.out _)))
                        go_wp2
                        go_meet
                        exact ⟨by rw [HFIT.out]; simp [ha, hb, hw, hl, hm], HQ.out _⟩
              · have da : decide (0 < k) = false := decide_eq_false ha
                by_cases hw : 64 < v
                · have dw : decide (64 < v) = true := decide_eq_true hw
                  go_quiet ((first | exact Calls.quiet_of_same (HBE.out _) | exact Calls.quiet_of_same (HNU.out _)))
                  go_wp2
                  go_meet
                  exact ⟨by rw [HFIT.out]; simp [ha, hw], HQ.out _⟩
                · have dw : decide (64 < v) = false := decide_eq_false hw
                  cases hl : lenOK x.op x.l.length
                  · rw [hl] at HBE
                    go_quiet ((first | exact Calls.quiet_of_same (HBE.out _) | exact Calls.quiet_of_same (HNU.out _)))
                    go_wp2
                    go_meet
                    exact ⟨by rw [HFIT.out]; simp [ha, hl], HQ.out _⟩
                  · rw [hl] at HBE
                    cases hm : numOK x.op x.n v
                    · rw [hm] at HNU
                      go_quiet ((first | exact Calls.quiet_of_same (HBE.out _) | exact Calls.quiet_of_same (HNU.out _)))
                      go_wp2
                      go_meet
                      exact ⟨by rw [HFIT.out]; simp [ha, hm], HQ.out _⟩
                    · rw [hm] at HNU
                      go_quiet ((first | exact Calls.quiet_of_same (HBE.out _) | exact Calls.quiet_of_same (HNU.out _)))
                      go_wp2
                      go_meet
                      exact ⟨by rw [HFIT.out]; simp [ha, hw, hl, hm], HQ.out _⟩
            case rest =>
              obtain ⟨rfl, hQc⟩ := hcut
              clear p0 v0 lg ln n0 n1 n2 H3
              cases hfb : fitsB k x st
              · have hbad : placesF F = .bad k := places_bad HB.out (k := k + 1) (by omega) (by rw [HRS.out]; unfold stepN; rw [if_neg (by rw [hfb]; decide)])
                have HBAD := Lib.hid hbad
                simp only [Bool.not_false]
                clear hfb hbad
                go_wp2_with fail
                refine bodyPost_ret (v := .tuple #[.slice none 0 0, .int .i64 (k : Int), .bool true]) (by simp [results, Try.results32, go_sem]) rfl (.inr ⟨k, HBAD.out, rfl, hQc.out.2.1.bl⟩)
              · have hfr := fits_range hfb
                have HFB := Lib.hid hfb
                simp only [Bool.not_true]
                clear hfb
                obtain ⟨hS, hX, hB⟩ := hQc.out
                obtain ⟨n0, n1, n2⟩ : wc.cell? ⟨nbx, 0, none⟩ = some (.int .i64 x.op) ∧ wc.cell? ⟨nbx, 1, none⟩ = some (.int .i64 x.n) ∧ wc.cell? ⟨nbx, 2, none⟩ = some (.slice X x.l.length cx) := ⟨by simpa using hB.cell 0, by simpa using hB.cell 1, by simpa using hB.cell 2⟩
                have ln := hB.lt
                clear hS hX hB n0 n1 n2 ln
                go_wp2_with fail
                obtain ⟨r, hr⟩ : ∃ r, adoptL k x.op F.ns.length 0 x.l st = r := ⟨_, rfl⟩
                have hI0 : Hid (∃ stj, adoptL k x.op F.ns.length 0 (x.l.drop 0) stj = r ∧ stj.2.getD k 0 = v ∧ PlS wc g F.ns.length stj ∧ StOK F.ns.length stj ∧ BX w F (some ⟨b, o, none⟩) c wc ∧ Blk wc nbx 47 #[.int .i64 x.op, .int .i64 x.n, .slice X x.l.length cx]) :=
                  Lib.hid ⟨st, hr, HPV.out.2, hQc.out.1, HOK.out, hQc.out.2.1, hQc.out.2.2⟩
                have HR0 := Lib.hid hr
                have hv64 : v ≤ 64 := by rw [← HPV.out.2]; exact hfr.2
                clear hr hQc
                go_loopw [11] (fun q wy => ∃ j : Nat, j ≤ x.l.length ∧ q = .int .i64 (j : Int) ∧ Hid (∃ stj, adoptL k x.op F.ns.length j (x.l.drop j) stj = r ∧ stj.2.getD k 0 = v ∧ PlS wy g F.ns.length stj ∧ StOK F.ns.length stj ∧ BX w F (some ⟨b, o, none⟩) c wy ∧ Blk wy nbx 47 #[.int .i64 x.op, .int .i64 x.n, .slice X x.l.length cx])) (fun q _ => x.l.length - (intOf q).toNat)
                case atStart => exact ⟨0, Nat.zero_le _, rfl, hI0⟩
                case round =>
                  obtain ⟨j, hj, rfl, hJ⟩ := hrel
                  clear hI0
                  obtain ⟨stj, hst, hvk, hS, hok, hX, hB⟩ := hJ.out
                  have hj0 : (0 : Int) ≤ (j : Int) := by omega
                  obtain ⟨n0, n1, n2⟩ : wr.cell? ⟨nbx, 0, none⟩ = some (.int .i64 x.op) ∧ wr.cell? ⟨nbx, 1, none⟩ = some (.int .i64 x.n) ∧ wr.cell? ⟨nbx, 2, none⟩ = some (.slice X x.l.length cx) := ⟨by simpa using hB.cell 0, by simpa using hB.cell 1, by simpa using hB.cell 2⟩
                  have ln := hB.lt
                  by_cases hjl : j < x.l.length
                  · have hjI : (j : Int) < (x.l.length : Int) := by omega
                    obtain ⟨ch, hch⟩ : ∃ ch, x.l[j]? = some ch := ⟨_, List.getElem?_eq_getElem hjl⟩
                    rw [adoptL_step hch] at hst
                    obtain ⟨bl, ol, rfl, _, _, d0, hwc⟩ := (HI.out.below hX.bl hh).at_ hch
                    have ld := lt_of_cell d0
                    by_cases h1 : ch ≤ (k : Int)
                    · rw [if_pos (.inl h1)] at hst
                      have hbad : placesF F = .bad k := places_bad HB.out (k := k + 1) (by omega) (by rw [HRS.out]; unfold stepN; rw [if_pos HFB.out, HR0.out, ← hst])
                      have HBAD := Lib.hid (And.intro hbad hX.bl)
                      clear hbad hst hvk hS hok hX hB hJ hch
                      go_wp2_with fail
                      refine bodyPost_ret (v := .tuple #[.slice none 0 0, .int .i64 (k : Int), .bool true]) (by simp [results, Try.results32, go_sem]) rfl (.inr ⟨k, HBAD.out.1, rfl, HBAD.out.2⟩)
                    · by_cases h2 : (F.ns.length : Int) ≤ ch
                      · rw [if_pos (.inr (.inl h2))] at hst
                        have hbad : placesF F = .bad k := places_bad HB.out (k := k + 1) (by omega) (by rw [HRS.out]; unfold stepN; rw [if_pos HFB.out, HR0.out, ← hst])
                        have HBAD := Lib.hid (And.intro hbad hX.bl)
                        clear hbad hst hvk hS hok hX hB hJ hch
                        go_wp2_with fail
                        refine bodyPost_ret (v := .tuple #[.slice none 0 0, .int .i64 (k : Int), .bool true]) (by simp [results, Try.results32, go_sem]) rfl (.inr ⟨k, HBAD.out.1, rfl, HBAD.out.2⟩)
                      · obtain ⟨cc, rfl⟩ : ∃ cc : Nat, ch = (cc : Int) := ⟨ch.toNat, by omega⟩
                        have hc1 : k < cc := by omega
                        have hc2 : cc < F.ns.length := by omega
                        have hcI0 : (0 : Int) ≤ (cc : Int) := by omega
                        have hcI1 : (cc : Int) < (F.ns.length : Int) := by omega
                        obtain ⟨s0, s1, f0, f1⟩ := hS.at_ hc2
                        obtain ⟨_, k1, _, _⟩ := hS.at_ hlt
                        rw [hvk] at k1
                        have lg := hS.lt
                        obtain ⟨pc, hpc⟩ : ∃ q, stj.1.getD cc 0 = q := ⟨_, rfl⟩
                        rw [hpc] at s0
                        rw [Int.toNat_natCast, hpc] at hst
                        by_cases h3 : 0 ≤ pc
                        · rw [if_pos (.inr (.inr h3))] at hst
                          have hbad : placesF F = .bad k := places_bad HB.out (k := k + 1) (by omega) (by rw [HRS.out]; unfold stepN; rw [if_pos HFB.out, HR0.out, ← hst])
                          have HBAD := Lib.hid (And.intro hbad hX.bl)
                          clear hbad hst hvk hS hok hX hB hJ hch
                          go_wp2_with fail
                          refine bodyPost_ret (v := .tuple #[.slice none 0 0, .int .i64 (k : Int), .bool true]) (by simp [results, Try.results32, go_sem]) rfl (.inr ⟨k, HBAD.out.1, rfl, HBAD.out.2⟩)
                        · rw [if_neg (by omega)] at hst
                          have hS7 := hS.set hok hc2 (k : Int) v
                          have hok7 := hok.set_ cc k v (by omega) hvr
                          have hvc : (stj.2.set cc v).getD k 0 = v := by
                            rw [List.getD_eq_getElem?_getD, List.getElem?_set_ne (by omega), ← List.getD_eq_getElem?_getD]; exact hvk
                          have hX7 : BX w F (some ⟨b, o, none⟩) c ((wr.setCell ⟨g, cc * 2, none⟩ (.int .i64 (k : Int))).setCell ⟨g, cc * 2 + 1, none⟩ (.int .i64 v)) := hX.keep (P := fun j => j = g) ((Keep.setCell (p := ⟨g, cc * 2, none⟩) (Keep.refl (fun j => j = g) wr) (.inl rfl) _).setCell (p := ⟨g, cc * 2 + 1, none⟩) (.inl rfl) _) (fun j hj => by subst hj; exact hgl)
                          have hB7 := (hB.far (p := ⟨g, cc * 2, none⟩) (by show nbx ≠ g; omega) (.int .i64 (k : Int))).far (p := ⟨g, cc * 2 + 1, none⟩) (by show nbx ≠ g; omega) (.int .i64 v)
                          rw [hvk] at hst
                          have H7 := Lib.hid (And.intro hS7 (And.intro hok7 (And.intro hvc (And.intro hX7 hB7))))
                          have HST := Lib.hid hst
                          have HVK := Lib.hid hvk
                          clear hst hvk hS hok hX hB hJ hch hS7 hok7 hvc hX7 hB7 hpc
                          go_upto_region 24 with fail
                          obtain ⟨W7, hW7⟩ : ∃ X', (wr.setCell ⟨g, cc * 2, none⟩ (.int .i64 (k : Int))).setCell ⟨g, cc * 2 + 1, none⟩ (.int .i64 v) = X' := ⟨_, rfl⟩
                          rw [hW7] at H7 ⊢
                          obtain ⟨hS7, hok7, hvc, hX7, hB7⟩ := H7.out
                          obtain ⟨_, r1, _, g1⟩ := hS7.at_ hc2
                          have hvv : (stj.2.set cc v).getD cc 0 = v := by rw [List.getD_eq_getElem?_getD, List.getElem?_set_self (by have := hok7.l2; simp at this; omega)]; rfl
                          simp only [hvv] at r1
                          have lg7 := hS7.lt
                          have hw2 : IntKind.i64.wrap (v + 1) = v + 1 := IntWalk.i64_in _ (by omega)
                          have hw3 : IntKind.i64.wrap ((j : Int) + 1) = (j : Int) + 1 := IntWalk.i64_in _ (by omega)
                          clear hW7 s0 s1 f0 f1 k1 n0 n1 n2 ln lg hS7 hok7 hvc hX7 hB7 hvv d0 ld
                          by_cases hop : x.op = 4 ∧ j = 1
                          · obtain ⟨ho4, rfl⟩ := hop
                            have hb3 : (x.op == 4) = true := by simp [ho4]
                            rw [if_pos ⟨ho4, rfl⟩] at HST
                            have HO4 := Lib.hid ho4
                            clear ho4
                            go_wp2_with fail
                            obtain ⟨hS7, hok7, hvc, hX7, hB7⟩ := H7.out
                            have hS8 := hS7.set2 hok7 hc2 (v + 1)
                            have hok8 := hok7.set_ cc k (v + 1) (by omega) ⟨by omega, by omega⟩
                            simp only [List.set_set] at hS8 hok8
                            have hX8 : BX w F (some ⟨b, o, none⟩) c (W7.setCell ⟨g, cc * 2 + 1, none⟩ (.int .i64 (v + 1))) := hX7.keep (P := fun j => j = g) (Keep.setCell (p := ⟨g, cc * 2 + 1, none⟩) (Keep.refl (fun j => j = g) W7) (.inl rfl) _) (fun j hj => by subst hj; exact hgl)
                            have hB8 := hB7.far (p := ⟨g, cc * 2 + 1, none⟩) (by show nbx ≠ g; omega) (.int .i64 (v + 1))
                            go_roundw
                            case rel =>
                              refine ⟨2, by omega, by go_num, Lib.hid ⟨_, HST.out, ?_, hS8, hok8, hX8, hB8⟩⟩
                              show (stj.2.set cc (v + 1)).getD k 0 = v
                              rw [List.getD_eq_getElem?_getD, List.getElem?_set_ne (by omega), ← List.getD_eq_getElem?_getD]
                              exact HVK.out
                            case measure => simp [intOf]; omega
                          · rw [if_neg hop] at HST
                            have HST' : Hid (adoptL k x.op F.ns.length (j + 1) (x.l.drop (j + 1)) (stj.1.set cc (k : Int), stj.2.set cc v) = r) := Lib.hid (by have := HST.out; rwa [Int.add_zero] at this)
                            obtain ⟨hS7, hok7, hvc, hX7, hB7⟩ := H7.out
                            have HJ7 : Hid (∃ stj', adoptL k x.op F.ns.length (j + 1) (x.l.drop (j + 1)) stj' = r ∧ stj'.2.getD k 0 = v ∧ PlS W7 g F.ns.length stj' ∧ StOK F.ns.length stj' ∧ BX w F (some ⟨b, o, none⟩) c W7 ∧ Blk W7 nbx 47 #[.int .i64 x.op, .int .i64 x.n, .slice (some ⟨bl, ol, none⟩) x.l.length cx]) := Lib.hid ⟨_, HST'.out, hvc, hS7, hok7, hX7, hB7⟩
                            clear hS7 hok7 hvc hX7 hB7 HST
                            by_cases ho4 : x.op = 4
                            · have hb3 : (x.op == 4) = true := by simp [ho4]
                              have hb4 : ((j : Int) == 1) = false := by simp; omega
                              have HO4 := Lib.hid ho4
                              clear ho4 hop
                              go_wp2_with fail
                              go_roundw
                              case rel => exact ⟨j + 1, by omega, by go_num, HJ7⟩
                              case measure => simp [intOf]; omega
                            · have hb3 : (x.op == 4) = false := by simp [ho4]
                              clear ho4 hop
                              go_wp2_with fail
                              go_roundw
                              case rel => exact ⟨j + 1, by omega, by go_num, HJ7⟩
                              case measure => simp [intOf]; omega
                  · have hjI : ¬ (j : Int) < (x.l.length : Int) := by omega
                    obtain rfl : j = x.l.length := by omega
                    rw [adoptL_end] at hst
                    have hw1 : IntKind.i64.wrap ((k : Int) + 1) = (k : Int) + 1 := IntWalk.i64_in _ (by omega)
                    have hO : PO w F (some ⟨b, o, none⟩) c g (k + 1) wr := ⟨stj, by rw [HRS.out]; unfold stepN; rw [if_pos HFB.out, HR0.out, ← hst], hS, hok, hX, hgl⟩
                    have HO := Lib.hid hO
                    clear hst hvk hS hok hX hB hJ hO
                    go_wp2_with fail
                    go_roundw
                    case rel => exact ⟨k + 1, by omega, by go_num, HO⟩
                    case measure => simp [intOf]; omega
          · have hltI : ¬ (k : Int) < (F.ns.length : Int) := by omega
            obtain rfl : k = F.ns.length := by omega
            have hpl : placesF F = .ok st := by unfold placesF; rw [if_pos HB.out]; exact hst
            have HP := Lib.hid (And.intro hpl (And.intro hS hX.bl))
            clear hpl hst hS hok hX hR
            go_wp2_with fail
            refine bodyPost_ret (v := .tuple #[.slice (some ⟨g, 0, none⟩) F.ns.length F.ns.length, .int .i64 0, .bool false]) (by simp [results, Try.results32, go_sem]) rfl (.inl ⟨st, g, HP.out.1, rfl, HP.out.2.1, HP.out.2.2⟩)
  · have hpl : placesF F = .bad 0 := by unfold placesF; rw [if_neg hB]
    have hE : ∀ w', Below w.heap.size w w' → PlacesP w F (.returned (.tuple #[.slice none 0 0, .int .i64 0, .bool true])) w' := fun w' hb => .inr ⟨0, hpl, rfl, hb⟩
    have HE := Lib.hid (And.intro hE hb1)
    have hB' : ¬ (0 ≤ F.p ∧ F.p ≤ 9 ∧ 1 ≤ F.ns.length ∧ F.ns.length ≤ 200) := fun h => hB (by unfold boundsB; simp; omega)
    clear hB hpl hE hb1 hbx
    by_cases h0 : F.p < 0
    · clear hB'
      go_enter Try.func32, Try.ntmps32
      go_wp2_with fail
      refine bodyPost_ret (v := .tuple #[.slice none 0 0, .int .i64 0, .bool true]) (by simp [results, Try.results32, go_sem]) rfl (HE.out.1 _ HE.out.2)
    · by_cases h9 : (9 : Int) < F.p
      · clear hB'
        go_enter Try.func32, Try.ntmps32
        go_wp2_with fail
        refine bodyPost_ret (v := .tuple #[.slice none 0 0, .int .i64 0, .bool true]) (by simp [results, Try.results32, go_sem]) rfl (HE.out.1 _ HE.out.2)
      · by_cases h1 : (F.ns.length : Int) < 1
        · clear hB'
          go_enter Try.func32, Try.ntmps32
          go_wp2_with fail
          refine bodyPost_ret (v := .tuple #[.slice none 0 0, .int .i64 0, .bool true]) (by simp [results, Try.results32, go_sem]) rfl (HE.out.1 _ HE.out.2)
        · have h2 : (200 : Int) < (F.ns.length : Int) := by omega
          clear hB'
          go_enter Try.func32, Try.ntmps32
          go_wp2_with fail
          refine bodyPost_ret (v := .tuple #[.slice none 0 0, .int .i64 0, .bool true]) (by simp [results, Try.results32, go_sem]) rfl (HE.out.1 _ HE.out.2)
end Go.Proofs.Ytleihdakmibmhaa
