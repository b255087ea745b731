/- works. -/
import Derived.Test.YtmfcecfcfihgaaaNe
import Derived.Deep.Cut
import Derived.Deep.CutRange
import Derived.Deep.RegionHeld3
namespace Go.Proofs.Ytmfcecfcfihgaaa
open Go.RowKit Go.Shelf
attribute [local go_sem] Oper.semAt_some

theorem bad_ls (w1 w2 w3 : World) (h2 : Below (w1.heap.size + 1) (w1.alloc (.cells #[.int .i64 1, .int .i64 0, .slice none 0 0] 36)) w2) (h3 : Below (w2.heap.size + 1) (w2.alloc (.cells #[.int .i64 2, .int .i64 1, .slice none 0 0] 36)) w3) :
    Ls ((w3.alloc (.cells #[.int .i64 8, .int .i64 0, .slice none 0 0] 36)).alloc (.cells #[.int .i64 2, .int .i64 5, .slice (some ⟨w1.heap.size, 0, none⟩) 1 1, .int .i64 0, .int .i64 0, .slice none 0 0, .int .i64 4, .int .i64 (-1), .slice none 0 0, .int .i64 6, .int .i64 0, .slice (some ⟨w2.heap.size, 0, none⟩) 1 1, .int .i64 10, .int .i64 64, .slice (some ⟨w3.heap.size, 0, none⟩) 1 1] 36))
      0 (w3.heap.size + 1 + 1) (.slice (some ⟨w3.heap.size + 1, 0, none⟩) 5 5) badT := by
  have hs2 : w1.heap.size + 1 ≤ w2.heap.size := by have := h2.size; simpa using this
  have hs3 : w2.heap.size + 1 ≤ w3.heap.size := by have := h3.size; simpa using this
  have a1 := In.of (k := 2) (n := 5) w64_two (by unfold W64; omega) (Ls.one (hi := 0) (Nat.zero_le _) 36 (unit_in w1 0))
  have a4 := In.of (k := 6) (n := 0) (by unfold W64; omega) w64_zero (Ls.one (hi := 0) (Nat.zero_le _) 36 (num_in w2 0 1 (by unfold W64; omega)))
  have a5 := In.of (k := 10) (n := 64) (by unfold W64; omega) (by unfold W64; omega) (Ls.one (hi := 0) (Nat.zero_le _) 36 (never_in w3 0))
  have b1 := (a1.after h2).mono (lo' := 0) (hi' := w3.heap.size) (Nat.le_refl _) (by omega)
  have b1' : In w3 0 w3.heap.size _ _ := ((((a1.after h2).after ((Below.refl _ w2).alloc hs2 _)).mono (Nat.le_refl _) (Nat.le_trans hs2 (Nat.le_succ _))).after h3).mono (Nat.le_refl _) hs3
  have b4 : In w3 0 w3.heap.size _ _ := (a4.after h3).mono (Nat.le_refl _) hs3
  have hA : Below w3.heap.size w3 (w3.alloc (.cells #[.int .i64 8, .int .i64 0, .slice none 0 0] 36)) := (Below.refl _ w3).alloc (Nat.le_refl _) _
  have c1 := (b1'.after hA).mono (lo' := 0) (hi' := w3.heap.size + 1) (Nat.le_refl _) (Nat.le_succ _)
  have c4 := (b4.after hA).mono (lo' := 0) (hi' := w3.heap.size + 1) (Nat.le_refl _) (Nat.le_succ _)
  have key := Ls.made (W := w3.alloc (.cells #[.int .i64 8, .int .i64 0, .slice none 0 0] 36)) (hi := w3.heap.size + 1) (by simp) 36
    [.agg #[.int .i64 2, .int .i64 5, .slice (some ⟨w1.heap.size, 0, none⟩) 1 1], .agg #[.int .i64 0, .int .i64 0, .slice none 0 0], .agg #[.int .i64 4, .int .i64 (-1), .slice none 0 0], .agg #[.int .i64 6, .int .i64 0, .slice (some ⟨w2.heap.size, 0, none⟩) 1 1], .agg #[.int .i64 10, .int .i64 64, .slice (some ⟨w3.heap.size, 0, none⟩) 1 1]]
    badT rfl (by simp [maxLen, badT]) (fun i v u hv hu => by
      match i, hv, hu with
      | 0, hv, hu => simp at hv; simp [badT] at hu; subst hv; subst hu; exact c1
      | 1, hv, hu => simp at hv; simp [badT] at hu; subst hv; subst hu; exact zero_in _ _ _
      | 2, hv, hu => simp at hv; simp [badT] at hu; subst hv; subst hu; exact leaf_in _ _ _ _ _ (by unfold W64; omega) (by unfold W64; omega)
      | 3, hv, hu => simp at hv; simp [badT] at hu; subst hv; subst hu; exact c4
      | 4, hv, hu => simp at hv; simp [badT] at hu; subst hv; subst hu; exact a5)
    #[.int .i64 2, .int .i64 5, .slice (some ⟨w1.heap.size, 0, none⟩) 1 1, .int .i64 0, .int .i64 0, .slice none 0 0, .int .i64 4, .int .i64 (-1), .slice none 0 0, .int .i64 6, .int .i64 0, .slice (some ⟨w2.heap.size, 0, none⟩) 1 1, .int .i64 10, .int .i64 64, .slice (some ⟨w3.heap.size, 0, none⟩) 1 1]
    (fun i v hv => by
      match i, hv with
      | 0, hv => simp at hv; subst hv; exact ⟨_, _, _, rfl, rfl, rfl, rfl⟩
      | 1, hv => simp at hv; subst hv; exact ⟨_, _, _, rfl, rfl, rfl, rfl⟩
      | 2, hv => simp at hv; subst hv; exact ⟨_, _, _, rfl, rfl, rfl, rfl⟩
      | 3, hv => simp at hv; subst hv; exact ⟨_, _, _, rfl, rfl, rfl, rfl⟩
      | 4, hv => simp at hv; subst hv; exact ⟨_, _, _, rfl, rfl, rfl, rfl⟩)
  rw [World.size_alloc] at key
  exact key

def Out9 (w : World) (b3 : Nat) (S3 : Option Addr) (c3 : Nat) (p e : Value) (W : World) : Prop := ∃ b S c, p = .pointer (some ⟨b, 0, none⟩) ∧ e = .int .i64 0 ∧ St w W [(b, sendT, S, c), (b3, pairT, S3, c3)]
theorem St.out9 {w W : World} {b b3 d : Nat} {S S3 S5 : Option Addr} {c c3 c5 : Nat} (h : St w W [(b, sendT, S, c), (d, chanT, S5, c5), (b3, pairT, S3, c3)]) : Out9 w b3 S3 c3 (.pointer (some ⟨b, 0, none⟩)) (.int .i64 0) W := ⟨b, S, c, rfl, rfl, h.skip⟩

set_option maxRecDepth 100000 in
set_option maxHeartbeats 3200000 in
theorem works_ok (w : World) : Calls Try.prog 20 #[] w fun e w' => e = .returned (.bool true) ∧ Below w.heap.size w w' := by
  go_enter Try.func20, Try.ntmps20
  go_wp2_with (first | (go_at_call 60; refine (Unit_ok _).mono ?_; rintro e w1 ⟨rfl, hb1⟩) | (go_at_call 61; refine (Int_ok _ _).mono ?_; rintro e w2 ⟨rfl, hb2⟩) | (go_at_call 62; refine (Never_ok _).mono ?_; rintro e w3 ⟨rfl, hb3⟩))
  have hd2 := hb2
  have hd3 := hb3
  rw [World.size_alloc] at hd2 hd3
  have hL := bad_ls w1 w2 w3 hd2 hd3
  have hB : Below w.heap.size w ((w3.alloc (.cells #[.int .i64 8, .int .i64 0, .slice none 0 0] 36)).alloc (.cells #[.int .i64 2, .int .i64 5, .slice (some ⟨w1.heap.size, 0, none⟩) 1 1, .int .i64 0, .int .i64 0, .slice none 0 0, .int .i64 4, .int .i64 (-1), .slice none 0 0, .int .i64 6, .int .i64 0, .slice (some ⟨w2.heap.size, 0, none⟩) 1 1, .int .i64 10, .int .i64 64, .slice (some ⟨w3.heap.size, 0, none⟩) 1 1] 36)) := by
    have h1 := hb1.alloc hb1.size (.cells #[.int .i64 1, .int .i64 0, .slice none 0 0] 36)
    have h2 := h1.trans (hb2.mono h1.size)
    have h3 := h2.alloc h2.size (.cells #[.int .i64 2, .int .i64 1, .slice none 0 0] 36)
    have h4 := h3.trans (hb3.mono h3.size)
    have h5 := h4.alloc h4.size (.cells #[.int .i64 8, .int .i64 0, .slice none 0 0] 36)
    exact h5.alloc h5.size _
  have hz : w3.heap.size + 1 + 1 ≤ ((w3.alloc (.cells #[.int .i64 8, .int .i64 0, .slice none 0 0] 36)).alloc (.cells #[.int .i64 2, .int .i64 5, .slice (some ⟨w1.heap.size, 0, none⟩) 1 1, .int .i64 0, .int .i64 0, .slice none 0 0, .int .i64 4, .int .i64 (-1), .slice none 0 0, .int .i64 6, .int .i64 0, .slice (some ⟨w2.heap.size, 0, none⟩) 1 1, .int .i64 10, .int .i64 64, .slice (some ⟨w3.heap.size, 0, none⟩) 1 1] 36)).heap.size := by simp
  generalize ((w3.alloc (.cells #[.int .i64 8, .int .i64 0, .slice none 0 0] 36)).alloc (.cells #[.int .i64 2, .int .i64 5, .slice (some ⟨w1.heap.size, 0, none⟩) 1 1, .int .i64 0, .int .i64 0, .slice none 0 0, .int .i64 4, .int .i64 (-1), .slice none 0 0, .int .i64 6, .int .i64 0, .slice (some ⟨w2.heap.size, 0, none⟩) 1 1, .int .i64 10, .int .i64 64, .slice (some ⟨w3.heap.size, 0, none⟩) 1 1] 36)) = W0 at hL hB hz ⊢
  have HL := Lib.hid hL
  have HB := Lib.hid hB
  clear hL hB hb1 hb2 hb3 hd2 hd3
  go_loopw [2] (fun p wr => ∃ i : Nat, i ≤ 5 ∧ p = .int .i64 (i : Int) ∧ Below W0.heap.size W0 wr) (fun p _ => 5 - (intOf p).toNat)
  case atStart => exact ⟨0, by omega, rfl, Below.refl _ _⟩
  case round =>
    obtain ⟨i, hi, rfl, hW⟩ := hrel
    have hi0 : (0 : Int) ≤ (i : Int) := by omega
    by_cases hlt : i < 5
    · have hltI : (i : Int) < 5 := by omega
      obtain ⟨x, hx⟩ : ∃ x, badT[i]? = some x := ⟨_, List.getElem?_eq_getElem (by simpa [badT] using hlt)⟩
      have hW' := hW.mono hz
      obtain ⟨b, o, s, hbo, hb, hbh, _, q0, q1, q2, hin⟩ := (HL.out.after hW').at_ hx
      simp only [Option.some.injEq, Addr.mk.injEq] at hbo
      obtain ⟨rfl, rfl, _⟩ := hbo
      rw [Nat.zero_add] at q0 q1 q2
      have hC := Check_ok wr hin (Nat.le_trans hz hW.size)
      rw [bad_all x (List.mem_of_getElem? hx)] at hC
      have hC' : Calls Try.prog 64 #[.agg #[.int .i64 x.k, .int .i64 x.n, s]] wr fun e w' => e = .returned (.int .i64 40) ∧ Hid (Below W0.heap.size W0 w') := hC.mono fun e w' q => ⟨q.1, Lib.hid (below_step hW q.2)⟩
      clear hC hin hW hW' hx
      go_wp2_with (first | (go_at_call 64; refine hC'.mono ?_; rintro e w' ⟨rfl, hW2⟩) | (go_at_call 63; refine (num_ok _ _).mono ?_; rintro e w'' ⟨rfl, rfl⟩))
      exact ⟨⟨i + 1, by omega, by go_num, hW2.out⟩, by simp [intOf]; omega⟩
    · have hltI : ¬ (i : Int) < 5 := by omega
      have hst : Hid (St w wr []) := Lib.hid ⟨HB.out.trans (hW.mono HB.out.size), trivial⟩
      clear hW HL HB hz
      go_upto_region 9 with (first | (go_at_call 61; refine (use_Int _ hst).mono ?_; rintro e wi ⟨rfl, hst⟩) | (go_at_call 65; refine (use_Pair hst).mono ?_; rintro e wP ⟨S3, c3, rfl, hst⟩) | (go_at_call 66; refine (use_Chan hst).mono ?_; rintro e wC ⟨S5, c5, rfl, hst⟩))
      have hsd : Hid (St w _ _) := Lib.hid hst.out.drew
      obtain ⟨⟨x0, x1, x2⟩, _⟩ := hst.out.cells
      go_cut [7, 8] from 60 to 65 (fun p e wx => Out9 w wP.heap.size S3 c3 p e wx)
      case first =>
        have hs2 : Hid (St2 w _ _ _) := Lib.hid (St2.new hst.out).drew
        rw [World.size_alloc] at hs2
        go_region_with (first | (go_at_call 61; (with_reducible refine (use_Int 5 hsd).mono ?_); rintro e wi ⟨rfl, hst⟩; obtain ⟨⟨y0, y1, y2⟩, _⟩ := hst.out.cells; have hlt := lt_of_cell y0) | (go_at_call 61; (with_reducible refine (use_Int2 5 hs2).mono ?_); rintro e wi ⟨rfl, hst2⟩; obtain ⟨⟨y0, y1, y2⟩, _⟩ := hst2.out.st.cells; have hlt := lt_of_cell y0) | (go_at_call 67; have hq := hst2; (with_reducible refine (use_Send2 hst2 hst2.out.st.head).mono ?_); rintro e wS ⟨S7, c7, rfl, ⟨p0, p1, p2, r0, r1, r2, r3⟩, hst⟩) | (go_at_call 67; (with_reducible refine (use_Send hst hst.out.head).mono ?_); rintro e wS ⟨S7, c7, rfl, hst⟩) | (go_at_call 67; have hq := Lib.hid (St2.new hst.out); (with_reducible refine (use_Send2 hq hq.out.st.head).mono ?_); rintro e wS ⟨S7, c7, rfl, ⟨p0, p1, p2, r0, r1, r2, r3⟩, hst⟩))
        all_goals go_wp2_with fail
        all_goals go_meet
        all_goals exact hst.out.out9
      case rest =>
        obtain ⟨b7, S7, c7, rfl, rfl, hst'⟩ := hcut
        have hst : Hid (St w wc _) := Lib.hid hst'
        clear hst' hsd x0 x1 x2
        go_upto_region 20 with (first | (go_at_call 60; refine (use_Unit hst).mono ?_; rintro e wi ⟨rfl, hst⟩) | (go_at_call 62; refine (use_Never hst).mono ?_; rintro e wi ⟨rfl, hst⟩) | (go_at_call 61; refine (use_Int _ hst).mono ?_; rintro e wi ⟨rfl, hst⟩) | (go_at_call 63; refine (use_num _ hst).mono ?_; rintro e wi ⟨rfl, hst⟩; obtain ⟨_, _, ⟨x0, x1, x2⟩, _⟩ := hst.out.cells) | (go_at_call 68; refine (use_Choose hst).mono ?_; rintro e w9 ⟨S9, c9, rfl, hst⟩) | (go_at_call 64; refine (use_Check5 hst).mono ?_; rintro e wi ⟨rfl, hst⟩) | (go_at_call 69; refine (use_Size3 hst hst.out.tail.tail.head).mono ?_; rintro e wi ⟨rfl, hst⟩) | (go_at_call 70; (with_reducible refine (use_IsEvent8 hst).mono ?_); rintro e wi ⟨rfl, hst⟩) | (go_at_call 70; (with_reducible refine (use_IsEvent1 hst).mono ?_); rintro e wi ⟨rfl, hst⟩; obtain ⟨_, ⟨y0, y1, y2⟩, _⟩ := hst.out.cells; have hlt := lt_of_cell y0) | (go_at_call 71; refine (use_isSend hst hst.out.tail.head).mono ?_; rintro e wi ⟨rfl, hst⟩) | (go_at_call 72; (with_reducible refine (use_Add hst).mono ?_); rintro e wA ⟨SA, cA, rfl, hst⟩) | (go_at_call 73; refine (use_Sub hst).mono ?_; rintro e wB ⟨SB, cB, rfl, hst⟩) | (go_at_call 74; refine (use_Less hst).mono ?_; rintro e wL ⟨SL, cL, rfl, hst⟩) | (go_at_call 75; refine (use_Eq hst).mono ?_; rintro e wE ⟨SE, cE, rfl, hst⟩) | (go_at_call 72; (with_reducible refine (use_AddU hst).mono ?_); rintro e wU ⟨SU, cU, rfl, hst⟩; obtain ⟨_, _, _, _, _, _, _, ⟨x0, x1, x2⟩, _⟩ := hst.out.cells) | (go_at_call 76; refine (use_First hst hst.out.tail.tail.tail.tail.tail.tail.tail.head).mono ?_; rintro e wF ⟨SF, cF, rfl, hst⟩) | (go_at_call 77; refine (use_Truth hst).mono ?_; rintro e wi ⟨rfl, hst⟩))
        have hst' := Lib.hid hst.out.drew
        clear hst x0 x1 x2 y0 y1 y2 hlt
        have hst := hst'
        clear hst'
        obtain ⟨⟨f0, f1, f2⟩, _, ⟨e0, e1, e2⟩, ⟨l0, l1, l2⟩, ⟨b0, b1, b2⟩, ⟨a0, a1, a2⟩, _⟩ := hst.out.cells
        go_region_held3 (fun w' => w'.cell? ⟨wA.heap.size, 0, none⟩ = some (.int .i64 (numT (-9223372036854775808)).k) ∧ w'.cell? ⟨wA.heap.size, 1, none⟩ = some (.int .i64 (numT (-9223372036854775808)).n) ∧ w'.cell? ⟨wA.heap.size, 2, none⟩ = some (.slice SA (numT (-9223372036854775808)).l.length cA) ∧ w'.cell? ⟨wB.heap.size, 0, none⟩ = some (.int .i64 (numT (-1)).k) ∧ w'.cell? ⟨wB.heap.size, 1, none⟩ = some (.int .i64 (numT (-1)).n) ∧ w'.cell? ⟨wB.heap.size, 2, none⟩ = some (.slice SB (numT (-1)).l.length cB) ∧ w'.cell? ⟨wL.heap.size, 0, none⟩ = some (.int .i64 (numT 1).k) ∧ w'.cell? ⟨wL.heap.size, 1, none⟩ = some (.int .i64 (numT 1).n) ∧ w'.cell? ⟨wL.heap.size, 2, none⟩ = some (.slice SL (numT 1).l.length cL) ∧ w'.cell? ⟨wE.heap.size, 0, none⟩ = some (.int .i64 (numT 1).k) ∧ w'.cell? ⟨wE.heap.size, 1, none⟩ = some (.int .i64 (numT 1).n) ∧ w'.cell? ⟨wE.heap.size, 2, none⟩ = some (.slice SE (numT 1).l.length cE) ∧ w'.cell? ⟨wF.heap.size, 0, none⟩ = some (.int .i64 (numT 1).k) ∧ w'.cell? ⟨wF.heap.size, 1, none⟩ = some (.int .i64 (numT 1).n) ∧ w'.cell? ⟨wF.heap.size, 2, none⟩ = some (.slice SF (numT 1).l.length cF)) (first | with_reducible exact ⟨a0, a1, a2, b0, b1, b2, l0, l1, l2, e0, e1, e2, f0, f1, f2⟩ | go_keep) ((first | (go_at_call 78; (with_reducible refine (use_refInt _ hst).mono ?_); rintro e wi ⟨rfl, hst⟩; obtain ⟨⟨f0, f1, f2⟩, _, ⟨e0, e1, e2⟩, ⟨l0, l1, l2⟩, ⟨b0, b1, b2⟩, ⟨a0, a1, a2⟩, _⟩ := hst.out.cells) | (go_at_call 63; (with_reducible refine (use_num _ hst).mono ?_); rintro e wi ⟨rfl, hst⟩; obtain ⟨⟨f0, f1, f2⟩, _, ⟨e0, e1, e2⟩, ⟨l0, l1, l2⟩, ⟨b0, b1, b2⟩, ⟨a0, a1, a2⟩, _⟩ := hst.out.cells) | (go_at_call 71; (with_reducible refine (use_isNum (-9223372036854775808) (by unfold W64; omega) hst hst.out.tail.tail.tail.tail.tail.head).mono ?_); rintro e wi ⟨rfl, hst⟩; obtain ⟨⟨f0, f1, f2⟩, _, ⟨e0, e1, e2⟩, ⟨l0, l1, l2⟩, ⟨b0, b1, b2⟩, ⟨a0, a1, a2⟩, _⟩ := hst.out.cells) | (go_at_call 71; (with_reducible refine (use_isNum (-1) (by unfold W64; omega) hst hst.out.tail.tail.tail.tail.head).mono ?_); rintro e wi ⟨rfl, hst⟩; obtain ⟨⟨f0, f1, f2⟩, _, ⟨e0, e1, e2⟩, ⟨l0, l1, l2⟩, ⟨b0, b1, b2⟩, ⟨a0, a1, a2⟩, _⟩ := hst.out.cells) | (go_at_call 71; (with_reducible refine (use_isNum (1) (by unfold W64; omega) hst hst.out.tail.tail.tail.head).mono ?_); rintro e wi ⟨rfl, hst⟩; obtain ⟨⟨f0, f1, f2⟩, _, ⟨e0, e1, e2⟩, ⟨l0, l1, l2⟩, ⟨b0, b1, b2⟩, ⟨a0, a1, a2⟩, _⟩ := hst.out.cells) | (go_at_call 71; (with_reducible refine (use_isNum (1) (by unfold W64; omega) hst hst.out.tail.tail.head).mono ?_); rintro e wi ⟨rfl, hst⟩; obtain ⟨⟨f0, f1, f2⟩, _, ⟨e0, e1, e2⟩, ⟨l0, l1, l2⟩, ⟨b0, b1, b2⟩, ⟨a0, a1, a2⟩, _⟩ := hst.out.cells) | (go_at_call 71; (with_reducible refine (use_isNum (1) (by unfold W64; omega) hst hst.out.head).mono ?_); rintro e wi ⟨rfl, hst⟩; obtain ⟨⟨f0, f1, f2⟩, _, ⟨e0, e1, e2⟩, ⟨l0, l1, l2⟩, ⟨b0, b1, b2⟩, ⟨a0, a1, a2⟩, _⟩ := hst.out.cells)))
        all_goals go_wp2_with fail
        all_goals go_ret
        all_goals exact ⟨rfl, hst.out.1⟩
end Go.Proofs.Ytmfcecfcfihgaaa
