/- SpinHolds, walked. -/
import Derived.Test.YthiaaapcbiameaaDoorSh
import Derived.Test.YthiaaapcbiameaaDoorOp
namespace Go.Proofs.YthiaaapcbiameaaDoor
open Go.RowKit Go.Shelf
attribute [local go_sem] Oper.semAt_some

theorem holds_bad (L : Int) (A : Option Addr) (m c : Nat) (vp : Value) (w : World) (hn : Num w) (h : L < 1 ∨ 4 < L ∨ 100 < m) (hm : m ≤ maxLen) :
    Calls Tryd.prog 6 #[.int .i64 L, .slice A m c, vp] w fun e w' => e = .returned (.bool true) ∧ Below w.heap.size w w' := by
  unfold maxLen at hm
  have hw := works_any w hn
  by_cases h1 : L < 1
  · clear h
    go_enter Tryd.func6, Tryd.ntmps6
    go_wp2_with (go_at_call 7; refine hw.mono ?_; rintro e w1 ⟨rfl, hB⟩)
    go_ret
    exact ⟨rfl, hB⟩
  · by_cases h2 : 4 < L
    · clear h
      go_enter Tryd.func6, Tryd.ntmps6
      go_wp2_with (go_at_call 7; refine hw.mono ?_; rintro e w1 ⟨rfl, hB⟩)
      go_ret
      exact ⟨rfl, hB⟩
    · have h3 : (100 : Int) < (m : Int) := by omega
      have h4 : 1 ≤ L := by omega
      have h5 : L ≤ 4 := by omega
      clear h h1 h2
      go_enter Tryd.func6, Tryd.ntmps6
      go_wp2_with (go_at_call 7; refine hw.mono ?_; rintro e w1 ⟨rfl, hB⟩)
      go_ret
      exact ⟨rfl, hB⟩

theorem kp_blk {b g : Nat} {hold : List Int} {w : World} (h : Kp b g (holdObj hold) w) {k : Nat} {x : Int} (hx : hold[k]? = some x) : w.cell? ⟨g, k, none⟩ = some (.int .i64 x) ∧ w.frozen? ⟨g, k, none⟩ = false := by
  have hb : Blk w g 61 (hold.map (Value.int .i64)).toArray := h.at_
  exact ⟨by rw [hb.cell k]; simp [hx], hb.frozen k⟩
theorem kp_set {b g n B L k : Nat} {hold ho : List Int} {w0 w : World} (h : Kp b g (holdObj hold) w) (hl : La B b L ho n w0 w) (hg : B ≤ g) (u : Int) :
    Kp b g (holdObj (hold.set k u)) (w.setCell ⟨g, k, none⟩ (.int .i64 u)) ∧ La B b L ho n w0 (w.setCell ⟨g, k, none⟩ (.int .i64 u)) := by
  have hb : Blk w g 61 (hold.map (Value.int .i64)).toArray := h.at_
  obtain ⟨s, hk, h1, h2⟩ := hl.ex
  have hkp : Keep (fun i => i = g) w (w.setCell ⟨g, k, none⟩ (.int .i64 u)) := (Keep.refl (fun i => i = g) w).setCell (p := ⟨g, k, none⟩) (.inl rfl) _
  obtain ⟨r1, r2⟩ := Res.beside hk.lk.are hkp (fun i hi => hi ▸ h.nf)
  have h0 : ¬ (0 : Nat) = g := fun e => by
    have := hb.cell 0
    have hn := hk.lk.num.1
    subst e
    rw [hn] at this
    cases hold with
    | nil => simp at this
    | cons a t => simp at this
  refine ⟨⟨?_, fun e => h.nf ((r2 _).1 e)⟩, ⟨⟨s, ⟨⟨r1, hk.lk.num.keep (hkp.block 0 hk.lk.num.lt h0), fun e => hk.lk.nf ((r2 _).1 e)⟩, hk.below.setCell (p := ⟨g, k, none⟩) hg _, fun i hi => hk.low i ((r2 i).1 hi)⟩, h1, h2⟩, by simpa [World.setCell] using hl.size⟩⟩
  have := hb.set k (.int .i64 u)
  have e : ((hold.set k u).map (Value.int .i64)).toArray = (hold.map (Value.int .i64)).toArray.setIfInBounds k (.int .i64 u) := by simp [List.map_set]
  show _ = some (Obj.cells _ _ _)
  rw [e]
  exact this

set_option maxRecDepth 100000 in
set_option maxHeartbeats 3200000 in
theorem holds_good (L : Nat) (vt vp : Value) (ts ps : List Int) (w : World) (hn : Num w) (h1 : 1 ≤ L) (h2 : L ≤ 4) (h3 : ts.length ≤ 100) (ht : Bys w vt ts) (hp : Bys w vp ps) :
    Calls Tryd.prog 6 #[.int .i64 (L : Int), vt, vp] w fun e w' => e = .returned (.bool true) ∧ Below w.heap.size w w' := by
  obtain ⟨At, ct, rfl, ht1, ht2⟩ := ht.form
  obtain ⟨Ap, cp, rfl, hp1, hp2⟩ := hp.form
  unfold maxLen at hp2 ht2
  have g1 : (1 : Int) ≤ (L : Int) := by omega
  have g2 : (L : Int) ≤ 4 := by omega
  have g3 : (ts.length : Int) ≤ 100 := by omega
  go_enter Tryd.func6, Tryd.ntmps6
  go_wp2_with (go_at_call 8; refine (New_lk L w hn h1 (by omega)).mono ?_; rintro e w1 ⟨b, rfl, k1⟩)
  have hB1 := k1.below.size
  go_loopw [9] (fun p wr => ∃ (k : Nat) (s : St), p = .int .i64 (k : Int) ∧ k ≤ L ∧ Wk w.heap.size b s w wr ∧ w.heap.size ≤ wr.heap.size ∧ s = ⟨L, List.replicate k 0, []⟩) (fun p _ => L - (intOf p).toNat)
  case atStart => exact ⟨0, _, rfl, Nat.zero_le _, k1, hB1, rfl⟩
  case round =>
    obtain ⟨k, s, rfl, hk, hwk, hsz, hs⟩ := hrel
    by_cases hlt : k < L
    · have hltI : (k : Int) < (L : Int) := by omega
      have hN := new_la hwk hsz hs hlt
      clear hwk hs
      go_wp2_with (first
        | (go_at_call 13; refine hN.mono ?_; rintro e w2 ⟨s', rfl, k2, hsz2, hs2⟩)
        | (go_at_call 12; refine (num_any _ _).mono ?_; rintro e w' ⟨rfl, rfl⟩))
      go_roundw
      case rel => exact ⟨k + 1, s', by go_num, by omega, k2, hsz2, hs2⟩
      case measure => simp [intOf]; omega
    · have hkL : k = L := by omega
      rw [hkL] at hs
      have hla := start_la hwk hsz hs h2
      have hltI : ¬ ((k : Int) < (L : Int)) := by omega
      clear hkL hk hlt
      clear hwk hs k1
      go_wp2_with fail
      have b0 := Blk.new wr 61 #[.int .i64 (-1), .int .i64 (-1), .int .i64 (-1), .int .i64 (-1)]
      have la0 := hla.andBelow ((Below.refl _ wr).alloc (Nat.le_refl _) (.cells #[.int .i64 (-1), .int .i64 (-1), .int .i64 (-1), .int .i64 (-1)] 61))
      have fr0 : ¬ footA b (wr.alloc (.cells #[.int .i64 (-1), .int .i64 (-1), .int .i64 (-1), .int .i64 (-1)] 61)) wr.heap.size := by
        obtain ⟨s', hk', _⟩ := hla.ex
        exact fun e => Nat.lt_irrefl _ ((arena b).lt hk'.lk.are _ ((((arena b).loc (W' := wr.alloc _) hk'.lk.are (fun j hj => Below.heap_alloc wr _ j ((arena b).lt hk'.lk.are j hj))).2 _).1 e))
      have kp0 : Kp b wr.heap.size (holdObj [-1, -1, -1, -1]) (wr.alloc (.cells #[.int .i64 (-1), .int .i64 (-1), .int .i64 (-1), .int .i64 (-1)] 61)) := ⟨b0, fr0⟩
      have la1 := la0.1
      clear la0 b0 fr0 hla
      obtain ⟨g, hg⟩ : ∃ g, wr.heap.size = g := ⟨_, rfl⟩
      rw [hg] at kp0 hsz ⊢
      revert kp0 la1
      generalize wr.alloc (.cells #[.int .i64 (-1), .int .i64 (-1), .int .i64 (-1), .int .i64 (-1)] 61) = wA
      intro la1 kp0
      clear hg wr
      go_loopw [13] (fun p wr => ∃ (i : Nat) (hold : List Int) (n : Nat), p = .int .i64 (i : Int) ∧ i ≤ ts.length ∧ La w.heap.size b L hold n w wr ∧ Kp b g (holdObj hold) wr ∧ n ≤ 3 * i ∧ hold.length = 4 ∧ (∀ x ∈ hold, x = -1 ∨ 0 ≤ x)) (fun p _ => ts.length - (intOf p).toNat)
      case atStart => exact ⟨0, _, 0, rfl, Nat.zero_le _, la1, kp0, Nat.le_refl _, rfl, by simp⟩
      case round =>
        obtain ⟨i, hold, n, rfl, hi, hl, kp, hn3, hlen, hall⟩ := hrel
        have hi0 : (0 : Int) ≤ (i : Int) := by omega
        by_cases hlt : i < ts.length
        · by_cases hlp : i < ps.length
          · have hltI : (i : Int) < (ts.length : Int) := by omega
            have hlpI : (i : Int) < (ps.length : Int) := by omega
            obtain ⟨th, hth⟩ : ∃ x, ts[i]? = some x := ⟨_, List.getElem?_eq_getElem hlt⟩
            obtain ⟨pl, hpl⟩ : ∃ x, ps[i]? = some x := ⟨_, List.getElem?_eq_getElem hlp⟩
            obtain ⟨bt, ot, ct', hvt, ct0, th0, th1⟩ := (ht.below hl.toBelow (Nat.le_refl _)).at_ hth
            obtain ⟨bp, op, cp', hvp, cp0, pl0, pl1⟩ := (hp.below hl.toBelow (Nat.le_refl _)).at_ hpl
            simp only [Value.slice.injEq, true_and] at hvt hvp
            obtain ⟨rfl, rfl⟩ := hvt
            obtain ⟨rfl, rfl⟩ := hvp
            clear hltI
            obtain ⟨k, hk1, hkL⟩ : ∃ k : Nat, pl % (L : Int) = (k : Int) ∧ k < L := ⟨(pl % (L : Int)).toNat, by have := Int.emod_nonneg pl (show (L : Int) ≠ 0 by omega); omega, by have := Int.emod_lt_of_pos pl (show (0 : Int) < (L : Int) by omega); have := Int.emod_nonneg pl (show (L : Int) ≠ 0 by omega); omega⟩
            have hk2 : pl.tmod (L : Int) = (k : Int) := by rw [Int.tmod_eq_emod_of_nonneg pl0]; exact hk1
            have hk0 : (0 : Int) ≤ (k : Int) := by omega
            have hk4 : (k : Int) < 4 := by omega
            obtain ⟨h, hh⟩ : ∃ x, hold[k]? = some x := ⟨_, List.getElem?_eq_getElem (by omega)⟩
            have hh1 := hall h (List.mem_of_getElem? hh)
            have Hh := Lib.hid hh
            have Ha := Lib.hid hall
            have Hlen := Lib.hid hlen
            clear hth hpl hh hall hlen
            go_wp2_with fail
            go_quiet (fail)
            obtain ⟨wD, hwD⟩ : ∃ wD, wD = wr.drewN nq := ⟨_, rfl⟩
            have hlD := hl.andBelow (below_drewN (Below.refl _ wr) nq)
            have kpD := kp.moved hlD.2
            rw [← hwD] at hlD kpD ⊢
            clear hwD hl kp ct0 cp0
            obtain ⟨lD, _⟩ := hlD
            obtain ⟨c0, f0⟩ := kp_blk kpD Hh.out
            by_cases hA : h = th
            · subst hA
              have hN := free_la lD (by omega) hkL Hh.out th0
              have e1 : (h == h) = true := by simp
              go_wp2_with (first
                | (go_at_call 17; refine hN.mono ?_; rintro e w2 ⟨rfl, l2, m2⟩; have kp2 := kpD.moved m2; obtain ⟨c2, f2⟩ := kp_blk kp2 Hh.out)
                | (go_at_call 12; refine (num_any _ _).mono ?_; rintro e w' ⟨rfl, rfl⟩))
              obtain ⟨k3, l3⟩ := kp_set (k := k) kp2 l2 hsz (-1)
              have hin : ∀ x ∈ hold.set k (-1), x = -1 ∨ 0 ≤ x := fun x hx => (List.mem_or_eq_of_mem_set hx).elim (Ha.out x) (fun e => .inl e)
              have Hin := Lib.hid hin
              clear hin
              go_roundw
              case rel => exact ⟨i + 1, hold.set k (-1), n + 1, by go_num, by omega, l3, k3, by omega, by simpa using Hlen.out, Hin.out⟩
              case measure => simp [intOf]; omega
            · have e1 : (h == th) = false := by simp [hA]
              by_cases h0 : h < 0
              · have hN := tryf_la lD (by omega) hkL Hh.out h0 th th0
                have hh' : (hold.set k th)[k]? = some th := by rw [List.getElem?_set_self (by have := Hlen.out; omega)]
                have e2 : decide (h < 0) = true := by simpa using h0
                clear hA
                go_wp2_with (first
                  | (go_at_call 14; refine hN.mono ?_; rintro e w2 ⟨rfl, l2, m2⟩; have kp2 := kpD.moved m2; obtain ⟨c2, f2⟩ := kp_blk kp2 Hh.out; obtain ⟨k3, l3⟩ := kp_set (k := k) kp2 l2 hsz th)
                  | (go_at_call 18; refine (held_la l3 (by omega) hkL hh' th0).mono ?_; rintro e w4 ⟨rfl, l4, m4⟩; have k4 := k3.moved m4)
                  | (go_at_call 12; refine (num_any _ _).mono ?_; rintro e w' ⟨rfl, rfl⟩))
                have hin : ∀ x ∈ hold.set k th, x = -1 ∨ 0 ≤ x := fun x hx => (List.mem_or_eq_of_mem_set hx).elim (Ha.out x) (fun e => .inr (by omega))
                have Hin := Lib.hid hin
                clear hin
                go_roundw
                case rel => exact ⟨i + 1, hold.set k th, n + 1 + 1, by go_num, by omega, l4, k4, by omega, by simpa using Hlen.out, Hin.out⟩
                case measure => simp [intOf]; omega
              · have h0' : 0 ≤ h := by omega
                have hN := tryh_la lD (by omega) hkL Hh.out h0'
                have e2 : decide (h < 0) = false := by simpa using h0'
                clear hA h0 hh1
                go_wp2_with (first
                  | (go_at_call 14; refine hN.mono ?_; rintro e w2 ⟨rfl, l2, m2⟩; have kp2 := kpD.moved m2; obtain ⟨c2, f2⟩ := kp_blk kp2 Hh.out)
                  | (go_at_call 18; refine (held_la l2 (by omega) hkL Hh.out h0').mono ?_; rintro e w4 ⟨rfl, l4, m4⟩; have k4 := kp2.moved m4)
                  | (go_at_call 12; refine (num_any _ _).mono ?_; rintro e w' ⟨rfl, rfl⟩))
                go_roundw
                case rel => exact ⟨i + 1, hold, n + 1 + 1, by go_num, by omega, l4, k4, by omega, Hlen.out, Ha.out⟩
                case measure => simp [intOf]; omega
          · have hltI : (i : Int) < (ts.length : Int) := by omega
            have hlpI : decide (i < ps.length) = false := by simpa using hlp
            have hB := hl.toBelow
            have hW := works_any wr hl.num
            clear hall hlen kp hlp
            go_wp2_with (first
              | (go_at_call 7; refine hW.mono ?_; rintro e w2 ⟨rfl, hB2⟩)
              | (go_at_call 12; refine (num_any _ _).mono ?_; rintro e w' ⟨rfl, rfl⟩))
            go_ret
            exact ⟨rfl, hB.trans (hB2.mono hB.size)⟩
        · have hltI : decide (i < ts.length) = false := by simpa using hlt
          have hB := hl.toBelow
          have hW := works_any wr hl.num
          clear hall hlen kp hlt
          go_wp2_with (first
            | (go_at_call 7; refine hW.mono ?_; rintro e w2 ⟨rfl, hB2⟩)
            | (go_at_call 12; refine (num_any _ _).mono ?_; rintro e w' ⟨rfl, rfl⟩))
          go_ret
          exact ⟨rfl, hB.trans (hB2.mono hB.size)⟩

theorem holdsWalk (L : Int) (vt vp : Value) (ts ps : List Int) (w : World) (hn : Num w) (ht : Bys w vt ts) (hp : Bys w vp ps) :
    Calls Tryd.prog 6 #[.int .i64 L, vt, vp] w fun e w' => e = .returned (.bool true) ∧ Below w.heap.size w w' := by
  by_cases h : L < 1 ∨ 4 < L ∨ 100 < ts.length
  · obtain ⟨A, c, rfl, h1, h2⟩ := ht.form
    exact holds_bad L A ts.length c vp w hn h (by omega)
  · have hL : ((L.toNat : Nat) : Int) = L := by omega
    have := holds_good L.toNat vt vp ts ps w hn (by omega) (by omega) (by omega) ht hp
    rwa [hL] at this
end Go.Proofs.YthiaaapcbiameaaDoor
