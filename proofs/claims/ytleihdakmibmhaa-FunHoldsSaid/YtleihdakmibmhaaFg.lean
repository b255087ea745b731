/- adopt: a node becomes the one above those beneath it. -/
import Derived.Test.YtleihdakmibmhaaFd
import Derived.Test.YtleihdakmibmhaaFf
import Derived.Deep.LoopGhost
namespace Go.Proofs.Ytleihdakmibmhaa
open Go.RowKit Go.Shelf
attribute [local go_sem] Oper.semAt_some

def AdoptP (w W : World) (bv gp gv : Nat) (F : Fd) (A : Option Addr) (c i : Nat) (r : Option ST) (e : Ending) (w' : World) : Prop :=
  (∃ st', r = some st' ∧ e = .returned (.tuple #[]) ∧ ViewS w bv gp gv F A c st' w' ∧ Keep (fun k => k = gp ∨ k = gv) W w') ∨ (r = none ∧ e = .panicked [wrongP (i : Int)] ∧ Below w.heap.size w w')
/-- The k-th of those beneath. -/
theorem adoptL_step {i : Nat} {op : Int} {n k : Nat} {l : List Int} {st : ST} {c : Int} (hc : l[k]? = some c) :
    adoptL i op n k (l.drop k) st = if c ≤ i ∨ (n : Int) ≤ c ∨ 0 ≤ st.1.getD c.toNat 0 then none
      else adoptL i op n (k + 1) (l.drop (k + 1)) (st.1.set c.toNat i, st.2.set c.toNat (st.2.getD i 0 + if op = 4 ∧ k = 1 then 1 else 0)) := by
  obtain ⟨hk, rfl⟩ := List.getElem?_eq_some_iff.1 hc
  rw [List.drop_eq_getElem_cons hk]
  rfl
theorem adoptL_end {i : Nat} {op : Int} {n : Nat} {l : List Int} {st : ST} : adoptL i op n l.length (l.drop l.length) st = some st := by
  rw [List.drop_length]
  rfl
theorem StOK.set_ {n : Nat} {st : ST} (h : StOK n st) (c i : Nat) (v : Int) (hi : i ≤ 1000000) (hv : 0 ≤ v ∧ v ≤ 1000000) : StOK n (st.1.set c i, st.2.set c v) :=
  ⟨by simpa using h.l1, by simpa using h.l2, fun x hx => by
    rcases List.mem_or_eq_of_mem_set hx with hx | rfl
    · exact h.par x hx
    · omega, fun x hx => by
    rcases List.mem_or_eq_of_mem_set hx with hx | rfl
    · exact h.var x hx
    · exact hv⟩
theorem Keep.setCellIn {F : Nat → Prop} {a w : World} (h : Keep F a w) {p : Addr} (hp : F p.block) (u : Value) : Keep F a (w.setCell p u) := h.trans ((Keep.refl F w).setCell (.inl hp) u)
/-- Two stores into the arrays of the view. -/
theorem ViewS.put {w W W' : World} {bv gp gv : Nat} {F : Fd} {A : Option Addr} {c : Nat} {st : ST} (h : ViewS w bv gp gv F A c st W) (cc i : Nat) (v : Int) (hi : i ≤ 1000000) (hv : 0 ≤ v ∧ v ≤ 1000000)
    (hk : Keep (fun k => k = gp ∨ k = gv) W W') (hp : Blk W' gp 3 (intsOf (st.1.set cc i))) (hq : Blk W' gv 3 (intsOf (st.2.set cc v))) : ViewS w bv gp gv F A c (st.1.set cc i, st.2.set cc v) W' :=
  ⟨⟨hk.os.trans h.bl.os, hk.tape.trans h.bl.tape, hk.output.trans h.bl.output, Nat.le_trans h.bl.size hk.size, fun k hlt => (hk.block k (Nat.lt_of_lt_of_le hlt h.bl.size) (fun e => by have := h.lo; omega)).trans (h.bl.block k hlt)⟩,
    h.box.keep (hk.block bv h.box.lt (fun e => e.elim (h.box.ne h.par (by decide)) (h.box.ne h.var (by decide)))), hp, hq, h.ok.set_ cc i v hi hv, h.lo, h.nodes⟩
/-- What a round of adopt keeps. -/
def AdoptR (w W0 : World) (bv gp gv : Nat) (F : Fd) (A : Option Addr) (c i nb : Nat) (x : Nd) (sl : Value) (v : Int) (r : Option ST) (k : Nat) (W : World) : Prop :=
  ∃ stk, adoptL i x.op F.ns.length k (x.l.drop k) stk = r ∧ stk.2.getD i 0 = v ∧ ViewS w bv gp gv F A c stk W ∧ Blk W nb 47 #[.int .i64 x.op, .int .i64 x.n, sl] ∧ Keep (fun k => k = gp ∨ k = gv) W0 W

set_option maxRecDepth 100000 in
set_option maxHeartbeats 1600000 in
theorem adopt6_ok {w W : World} {bv gp gv : Nat} {F : Fd} {A : Option Addr} {c i : Nat} {st : ST} {x : Nd} (hV : ViewS w bv gp gv F A c st W) (hx : F.ns[i]? = some x) (hn : F.ns.length ≤ 200) (hl : x.l.length ≤ 1000) (hvi : st.2.getD i 0 ≤ 64) :
    Calls Try.prog 55 #[.pointer (some ⟨bv, 0, none⟩), .int .i64 (i : Int)] W (AdoptP w W bv gp gv F A c i (adoptL i x.op F.ns.length 0 x.l st)) := by
  have hlt : i < F.ns.length := (List.getElem?_eq_some_iff.1 hx).1
  obtain ⟨z0, z1, z2, z3⟩ := hV.cells
  obtain ⟨b, o, s, p, v, rfl, c0, c1, c2, hs, w0, w1, hp, hv, p0, v0, h1, h2, h3, h4⟩ := hV.at_ hx
  obtain ⟨Al, cl, rfl, hcl, hcm⟩ := hs.form
  obtain ⟨_, c', e', hc1, hc2, _⟩ := hV.nodes
  simp only [Value.slice.injEq] at e'
  obtain ⟨rfl, -, rfl⟩ := e'
  unfold maxLen at hc2 hcm
  have i0 : (0 : Int) ≤ (i : Int) := by omega
  have i1 : (i : Int) < (F.ns.length : Int) := by omega
  have lb := hV.box.lt
  have ln : b < W.heap.size := lt_of_cell c0
  obtain ⟨nb, hnb⟩ : ∃ g, W.heap.size = g := ⟨_, rfl⟩
  obtain ⟨W1, hW1⟩ : ∃ X, W.alloc (.cells #[.int .i64 x.op, .int .i64 x.n, .slice Al x.l.length cl] 47) = X := ⟨_, rfl⟩
  have hB1 : Below W.heap.size W W1 := by rw [← hW1]; exact (Below.refl _ W).alloc (Nat.le_refl _) _
  have hN1 : Blk W1 nb 47 #[.int .i64 x.op, .int .i64 x.n, .slice Al x.l.length cl] := by rw [← hW1]; exact blkN hnb _ _
  have hvv : st.2.getD i 0 = v := by rw [List.getD_eq_getElem?_getD, hv]; rfl
  rw [hvv] at hvi
  obtain ⟨r, hr⟩ : ∃ r, adoptL i x.op F.ns.length 0 x.l st = r := ⟨_, rfl⟩
  have hR0 : Hid (AdoptR w W bv gp gv F (some ⟨b, o, none⟩) c i nb x (.slice Al x.l.length cl) v r 0 W1) :=
    Lib.hid ⟨st, hr, hvv, hV.below hB1, hN1, by rw [← hW1]; exact (Keep.refl _ W).alloc _⟩
  have hltnb : gp < nb ∧ gv < nb ∧ bv < nb := by rw [← hnb]; exact ⟨hV.par.lt, hV.var.lt, lb⟩
  rw [hr]
  clear hr hvv
  have HS := Lib.hid hs
  have hpn : ∀ w, (Instr.panic (.iface 80 (.int .i64 (i : Int)))).run Try.prog w = .halt (.panic (.iface 80 (.int .i64 (i : Int)))) w := fun _ => rfl
  clear hV hx hs hp hB1 p0 v0
  go_enter Try.func55, Try.ntmps55
  go_upto_region 1 with fail
  try rw [hW1]
  try rw [hnb]
  clear c0 c1 c2 z0 z1 z2 z3
  obtain ⟨n0, n1, n2⟩ : W1.cell? ⟨nb, 0, none⟩ = some (.int .i64 x.op) ∧ W1.cell? ⟨nb, 1, none⟩ = some (.int .i64 x.n) ∧ W1.cell? ⟨nb, 2, none⟩ = some (.slice Al x.l.length cl) := ⟨by simpa using hN1.cell 0, by simpa using hN1.cell 1, by simpa using hN1.cell 2⟩
  clear hN1 hW1 hnb
  go_wp2_with fail
  clear n0 n1 n2 hv
  go_loopw [18] (fun p wr => ∃ k : Nat, k ≤ x.l.length ∧ p = .int .i64 (k : Int) ∧ Hid (AdoptR w W bv gp gv F (some ⟨b, o, none⟩) c i nb x (.slice Al x.l.length cl) v r k wr)) (fun p _ => x.l.length - (intOf p).toNat)
  case atStart => exact ⟨0, Nat.zero_le _, rfl, hR0⟩
  case round =>
    obtain ⟨k, hk, rfl, hR⟩ := hrel
    clear hR0
    have hk0 : (0 : Int) ≤ (k : Int) := by omega
    by_cases hkl : k < x.l.length
    · have hkI : (k : Int) < (x.l.length : Int) := by omega
      obtain ⟨stk, hst, hvk, hV, hN, hKW⟩ := hR.out
      have HKW := Lib.hid hKW
      clear hKW
      obtain ⟨ch, hch⟩ : ∃ ch, x.l[k]? = some ch := ⟨_, List.getElem?_eq_getElem hkl⟩
      rw [adoptL_step hch] at hst
      obtain ⟨bl, ol, rfl, _, _, d0, hwc⟩ := (HS.out.below hV.bl (Nat.le_refl _)).at_ hch
      obtain ⟨z0, z1, z2, z3⟩ := hV.cells
      have hw1 : IntKind.i64.wrap ((i : Int) + 1) = (i : Int) + 1 := IntWalk.i64_in _ (by omega)
      have hw2 : IntKind.i64.wrap ((F.ns.length : Int) - 1) = (F.ns.length : Int) - 1 := IntWalk.i64_in _ (by omega)
      have hwi := within_ok ch (wr.alloc (.cells #[.int .i64 ((i : Int) + 1), .int .i64 ((F.ns.length : Int) - 1)] 3))
        (IntsI.of_blk (lo := 0) (hi := wr.heap.size + 1) (c := 2) (xs := [(i : Int) + 1, (F.ns.length : Int) - 1]) (blkN rfl 3 _) (fun j y hy => by
          match j, hy with
          | 0, hy => simp at hy; subst hy; rfl
          | 1, hy => simp at hy; subst hy; rfl) (fun y hy => by simp at hy; unfold W64; omega) (by simp) (by simp [maxLen]) (Nat.zero_le _) (by omega)) (by simp)
      simp only [List.length_cons, List.length_nil, Nat.zero_add, Nat.reduceAdd] at hwi
      have hlbb : bv < wr.heap.size := hV.box.lt
      by_cases hin : (i : Int) < ch ∧ ch < (F.ns.length : Int)
      · have hwb : withinB ch [(i : Int) + 1, (F.ns.length : Int) - 1] = true := by unfold withinB; simp; omega
        rw [hwb] at hwi
        obtain ⟨cc, hcc⟩ : ∃ cc : Nat, ch = (cc : Int) := ⟨ch.toNat, by omega⟩
        subst hcc
        have hc1 : i < cc := by omega
        have hc2 : cc < F.ns.length := by omega
        have hcI0 : (0 : Int) ≤ (cc : Int) := by omega
        have hcI1 : (cc : Int) < (F.ns.length : Int) := by omega
        obtain ⟨pc, hpc⟩ : ∃ q, stk.1[cc]? = some q := ⟨_, List.getElem?_eq_getElem (by rw [hV.ok.l1]; exact hc2)⟩
        obtain ⟨vc, hvc⟩ : ∃ q, stk.2[cc]? = some q := ⟨_, List.getElem?_eq_getElem (by rw [hV.ok.l2]; exact hc2)⟩
        obtain ⟨vi, hvi'⟩ : ∃ q, stk.2[i]? = some q := ⟨_, List.getElem?_eq_getElem (by rw [hV.ok.l2]; exact hlt)⟩
        obtain rfl : vi = v := by rw [List.getD_eq_getElem?_getD, hvi'] at hvk; exact hvk
        have qp : wr.cell? ⟨gp, cc, none⟩ = some (.int .i64 pc) := by rw [hV.par.cell, intsOf_get hpc]
        have qv : wr.cell? ⟨gv, cc, none⟩ = some (.int .i64 vc) := by rw [hV.var.cell, intsOf_get hvc]
        have qi : wr.cell? ⟨gv, i, none⟩ = some (.int .i64 vi) := by rw [hV.var.cell, intsOf_get hvi']
        have fp := hV.par.frozen cc
        have fv := hV.var.frozen cc
        have hgd : stk.1.getD (cc : Int).toNat 0 = pc := by rw [Int.toNat_natCast, List.getD_eq_getElem?_getD, hpc]; rfl
        have hpr := hV.ok.par pc (List.mem_of_getElem? hpc)
        rw [hgd] at hst
        have lp := hV.par.lt
        have lv := hV.var.lt
        have HW := Lib.hid hwi
        have HB := Lib.hid hV.bl
        have hle := Nat.le_of_lt (Nat.lt_of_le_of_lt hV.lo.1 hlbb)
        by_cases hp0 : 0 ≤ pc
        · rw [if_pos (by omega)] at hst
          have HST := Lib.hid hst
          have hb1 : (pc != -1) = true := by simp; omega
          have hb2 : (pc == -1) = false := by simp; omega
          clear hwi hst hV hN hwb hvk hch hpc hvc hvi' hgd
          go_wp2_with (go_at_call 51; (with_reducible refine HW.out.mono ?_); rintro e w' ⟨rfl, rfl⟩)
          exact ⟨rfl, .inr ⟨HST.out.symm, rfl, HB.out.alloc (by omega) _⟩⟩
        · obtain rfl : pc = -1 := by omega
          rw [if_neg (by omega)] at hst
          simp only [Int.toNat_natCast] at hst
          have hgv : stk.2.getD i 0 = vi := by rw [List.getD_eq_getElem?_getD, hvi']; rfl
          rw [hgv] at hst
          have HST := Lib.hid hst
          have HV := Lib.hid hV
          have HN := Lib.hid hN
          have HVK := Lib.hid hvi'
          clear hwi hst hV hN hwb hvk hch hpc hvc hvi' hgd hgv
          go_upto_region 7 with (go_at_call 51; (with_reducible refine HW.out.mono ?_); rintro e w' ⟨rfl, rfl⟩)
          obtain ⟨X6, hX6⟩ : ∃ X, (wr.setCell ⟨gp, cc, none⟩ (.int .i64 (i : Int))).alloc (.cells #[.int .i64 ((i : Int) + 1), .int .i64 ((F.ns.length : Int) - 1)] 3) = X := ⟨_, rfl⟩
          have hne : gp ≠ gv := Nat.ne_of_lt HV.out.lo.2.2
          have hK6 : Keep (fun k => k = gp ∨ k = gv) wr X6 := by rw [← hX6]; exact ((Keep.refl _ wr).setCell (.inl (.inl rfl)) _).alloc _
          have hP6 : Blk X6 gp 3 (intsOf (stk.1.set cc i)) := by rw [← hX6, ← intsOf_set]; exact (HV.out.par.set cc _).alloc _
          have hQ6 : Blk X6 gv 3 (intsOf stk.2) := by rw [← hX6]; exact (HV.out.var.far (fun e => hne e.symm) _).alloc _
          have hv6 : bv ≠ gp ∧ bv ≠ gv := ⟨HV.out.box.ne HV.out.par (by decide), HV.out.box.ne HV.out.var (by decide)⟩
          have hn6 : nb ≠ gp ∧ nb ≠ gv := ⟨by omega, by omega⟩
          have hB6 := HV.out.box.keep (hK6.block bv HV.out.box.lt (fun e => e.elim hv6.1 hv6.2))
          have hN6 := HN.out.keep (hK6.block nb HN.out.lt (fun e => e.elim hn6.1 hn6.2))
          have z3 := hB6.cell 3
          simp at z3
          have qv : X6.cell? ⟨gv, cc, none⟩ = some (.int .i64 vc) := by rw [← hX6]; rw [show ((wr.setCell ⟨gp, cc, none⟩ (.int .i64 (i : Int))).alloc (.cells #[.int .i64 ((i : Int) + 1), .int .i64 ((F.ns.length : Int) - 1)] 3)).cell? ⟨gv, cc, none⟩ = wr.cell? ⟨gv, cc, none⟩ from cell_same (p := ⟨gv, cc, none⟩) ((Below.heap_alloc _ _ _ (by simpa [World.setCell] using lv)).trans (Below.heap_setCell _ _ _ _ (fun e => hne e.symm)))]; exact qv
          have qi : X6.cell? ⟨gv, i, none⟩ = some (.int .i64 vi) := by rw [hQ6.cell, intsOf_get HVK.out]
          have fv := hQ6.frozen cc
          have lb6 := hB6.lt
          have lv6 := hQ6.lt
          have HX := Lib.hid (And.intro hK6 (And.intro hP6 (And.intro hQ6 hN6)))
          clear z0 z1 z2 d0 fp lp HW hle hlbb hin hcI0 qp
          try rw [hX6]
          clear hX6 hK6 hP6 hQ6 hB6 hN6
          have hcI0 : (0 : Int) ≤ (cc : Int) := by omega
          go_region
          obtain ⟨X7, hX7⟩ : ∃ X, (X6.setCell ⟨gv, cc, none⟩ (.int .i64 vi)).drew = X := ⟨_, rfl⟩
          obtain ⟨hK6, hP6, hQ6, hN6⟩ := HX.out
          have hK7 : Keep (fun k => k = gp ∨ k = gv) wr X7 := by rw [← hX7]; exact (hK6.setCellIn (.inr rfl) _).drew
          have hP7 : Blk X7 gp 3 (intsOf (stk.1.set cc i)) := by rw [← hX7]; exact (hP6.far hne _).drew
          have hQ7 : Blk X7 gv 3 (intsOf (stk.2.set cc vi)) := by rw [← hX7, ← intsOf_set]; exact (hQ6.set cc _).drew
          have hN7 : Blk X7 nb 47 #[.int .i64 x.op, .int .i64 x.n, .slice (some ⟨bl, ol, none⟩) x.l.length cl] := by rw [← hX7]; exact (hN6.far hn6.2 _).drew
          have hV7 := HV.out.put cc i vi (by omega) ⟨h3, h4⟩ hK7 hP7 hQ7
          have hgi : (stk.2.set cc vi).getD i 0 = vi := by rw [List.getD_eq_getElem?_getD, List.getElem?_set_ne (by omega), HVK.out]; rfl
          obtain ⟨n0, n1, n2⟩ : X7.cell? ⟨nb, 0, none⟩ = some (.int .i64 x.op) ∧ X7.cell? ⟨nb, 1, none⟩ = some (.int .i64 x.n) ∧ X7.cell? ⟨nb, 2, none⟩ = some (.slice (some ⟨bl, ol, none⟩) x.l.length cl) := ⟨by simpa using hN7.cell 0, by simpa using hN7.cell 1, by simpa using hN7.cell 2⟩
          have z3 := hV7.cells.2.2.2
          have hlen : cc < (stk.2.set cc vi).length := by rw [hV7.ok.l2]; exact hc2
          have qv : X7.cell? ⟨gv, cc, none⟩ = some (.int .i64 vi) := by rw [hQ7.cell]; exact intsOf_get (by rw [List.getElem?_set_self (by simpa using hlen)])
          have fv := hQ7.frozen cc
          have H7 := Lib.hid (And.intro hK7 (And.intro hP7 (And.intro hQ7 hN7)))
          have HV7 := Lib.hid hV7
          have HGI := Lib.hid hgi
          rw [hX7]
          clear hX7 hK6 hP6 hQ6 hN6 hK7 hP7 hQ7 hN7 HX qi hV7 hgi hlen
          have hwv : IntKind.i64.wrap (vi + 1) = vi + 1 := IntWalk.i64_in _ (by omega)
          by_cases hop : x.op = 4 ∧ k = 1
          · obtain ⟨ho4, rfl⟩ := hop
            have hb3 : (x.op == 4) = true := by simp [ho4]
            rw [if_pos ⟨ho4, rfl⟩] at HST
            have HO := Lib.hid ho4
            clear ho4
            go_wp2_with fail
            have hK8 := H7.out.1.setCellIn (p := ⟨gv, cc, none⟩) (.inr rfl) (.int .i64 (vi + 1))
            have hP8 := H7.out.2.1.far (p := ⟨gv, cc, none⟩) hne (.int .i64 (vi + 1))
            have hQ8 := H7.out.2.2.1.set cc (.int .i64 (vi + 1))
            rw [intsOf_set, List.set_set] at hQ8
            have hN8 := H7.out.2.2.2.far (p := ⟨gv, cc, none⟩) hn6.2 (.int .i64 (vi + 1))
            have hV8 := HV.out.put cc i (vi + 1) (by omega) ⟨by omega, by omega⟩ hK8 hP8 hQ8
            exact ⟨⟨2, by omega, by go_num, Lib.hid ⟨_, HST.out, by show (stk.2.set cc (vi + 1)).getD i 0 = vi; rw [List.getD_eq_getElem?_getD, List.getElem?_set_ne (by omega), HVK.out]; rfl, hV8, hN8, HKW.out.trans hK8⟩⟩, by simp [intOf]; omega⟩
          · rw [if_neg hop] at HST
            have HST' : Hid (adoptL i x.op F.ns.length (k + 1) (x.l.drop (k + 1)) (stk.1.set cc (i : Int), stk.2.set cc vi) = r) := Lib.hid (by have := HST.out; rwa [Int.add_zero] at this)
            by_cases ho4 : x.op = 4
            · have hb3 : (x.op == 4) = true := by simp [ho4]
              have hb4 : ((k : Int) == 1) = false := by simp; omega
              have HO := Lib.hid ho4
              clear ho4 hop HST
              go_wp2_with fail
              exact ⟨⟨k + 1, by omega, by go_num, Lib.hid ⟨_, HST'.out, HGI.out, HV7.out, H7.out.2.2.2, HKW.out.trans H7.out.1⟩⟩, by simp [intOf]; omega⟩
            · have hb3 : (x.op == 4) = false := by simp [ho4]
              clear ho4 hop HST
              go_wp2_with fail
              exact ⟨⟨k + 1, by omega, by go_num, Lib.hid ⟨_, HST'.out, HGI.out, HV7.out, H7.out.2.2.2, HKW.out.trans H7.out.1⟩⟩, by simp [intOf]; omega⟩
      · have hwb : withinB ch [(i : Int) + 1, (F.ns.length : Int) - 1] = false := by unfold withinB; simp; omega
        rw [hwb] at hwi
        rw [if_pos (by omega)] at hst
        have HW := Lib.hid hwi
        have HST := Lib.hid hst
        have HB := Lib.hid hV.bl
        have hle := Nat.le_of_lt (Nat.lt_of_le_of_lt hV.lo.1 hlbb)
        clear hwi hst hV hN hwb hvk hch
        go_wp2_with (go_at_call 51; (with_reducible refine HW.out.mono ?_); rintro e w' ⟨rfl, rfl⟩)
        exact ⟨rfl, .inr ⟨HST.out.symm, rfl, HB.out.alloc (by omega) _⟩⟩
    · have hkI : ¬ (k : Int) < (x.l.length : Int) := by omega
      obtain rfl : k = x.l.length := by omega
      obtain ⟨stk, hst, _, hV, _, hKW⟩ := hR.out
      rw [adoptL_end] at hst
      go_wp2_with fail
      go_end0
      exact .inl ⟨stk, hst.symm, rfl, hV, hKW⟩
end Go.Proofs.Ytleihdakmibmhaa
