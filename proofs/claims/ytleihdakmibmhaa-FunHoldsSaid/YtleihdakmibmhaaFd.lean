/- The view of a function, and whether a node fits. -/
import Derived.Test.YtleihdakmibmhaaFc
import Derived.Deep.QuietTactic
import Derived.BigQuiet
import Derived.Deep.Cut
namespace Go.Proofs.Ytleihdakmibmhaa
open Go.RowKit Go.Shelf
theorem store_nilFunc6 (P : Program) (w : World) (a : Addr) (m : Mode) : (store a .nilFunc m).run P w = stored P w a .nilFunc m := run_store P w a _ m rfl
theorem store_func6 (P : Program) (w : World) (a : Addr) (m : Mode) (fn : Fn) (first captured : Array Value) : (store a (.func fn first captured) m).run P w = stored P w a (.func fn first captured) m := run_store P w a _ m rfl
attribute [local go_sem] Oper.semAt_some store_nilFunc6 store_func6

/-- What is known of the nodes so far may be: the one above each, or -1; how many variables. -/
structure StOK (n : Nat) (st : ST) : Prop where
  l1 : st.1.length = n
  l2 : st.2.length = n
  par : ∀ c ∈ st.1, -1 ≤ c ∧ c ≤ 1000000
  var : ∀ c ∈ st.2, 0 ≤ c ∧ c ≤ 1000000
/-- The view in memory. -/
structure ViewS (w : World) (bv gp gv : Nat) (F : Fd) (A : Option Addr) (c : Nat) (st : ST) (W : World) : Prop where
  bl : Below w.heap.size w W
  box : Blk W bv 64 #[.int .i64 F.p, .slice A F.ns.length c, .slice (some ⟨gp, 0, none⟩) F.ns.length F.ns.length, .slice (some ⟨gv, 0, none⟩) F.ns.length F.ns.length]
  par : Blk W gp 3 (intsOf st.1)
  var : Blk W gv 3 (intsOf st.2)
  ok : StOK F.ns.length st
  lo : w.heap.size ≤ bv ∧ w.heap.size ≤ gp ∧ gp < gv
  nodes : NodesI w 0 w.heap.size (.slice A F.ns.length c) F.ns
section
variable {w W W' : World} {bv gp gv : Nat} {F : Fd} {A : Option Addr} {c : Nat} {st : ST}
theorem ViewS.below (h : ViewS w bv gp gv F A c st W) (hb : Below W.heap.size W W') : ViewS w bv gp gv F A c st W' :=
  ⟨h.bl.trans (hb.mono h.bl.size), h.box.keep (hb.block _ h.box.lt), h.par.keep (hb.block _ h.par.lt), h.var.keep (hb.block _ h.var.lt), h.ok, h.lo, h.nodes⟩
theorem ViewS.cells (h : ViewS w bv gp gv F A c st W) : W.cell? ⟨bv, 0, none⟩ = some (.int .i64 F.p) ∧ W.cell? ⟨bv, 1, none⟩ = some (.slice A F.ns.length c) ∧
    W.cell? ⟨bv, 2, none⟩ = some (.slice (some ⟨gp, 0, none⟩) F.ns.length F.ns.length) ∧ W.cell? ⟨bv, 3, none⟩ = some (.slice (some ⟨gv, 0, none⟩) F.ns.length F.ns.length) :=
  ⟨by simpa using h.box.cell 0, by simpa using h.box.cell 1, by simpa using h.box.cell 2, by simpa using h.box.cell 3⟩
theorem ViewS.at_ (h : ViewS w bv gp gv F A c st W) {i : Nat} {x : Nd} (hx : F.ns[i]? = some x) : ∃ b o s p v, A = some ⟨b, o, none⟩ ∧ W.cell? ⟨b, o + i * 3, none⟩ = some (.int .i64 x.op) ∧ W.cell? ⟨b, o + i * 3 + 1, none⟩ = some (.int .i64 x.n) ∧ W.cell? ⟨b, o + i * 3 + 2, none⟩ = some s ∧
    IntsI w 0 w.heap.size s x.l ∧ W64 x.op ∧ W64 x.n ∧ st.1[i]? = some p ∧ st.2[i]? = some v ∧ W.cell? ⟨gp, i, none⟩ = some (.int .i64 p) ∧ W.cell? ⟨gv, i, none⟩ = some (.int .i64 v) ∧ -1 ≤ p ∧ p ≤ 1000000 ∧ 0 ≤ v ∧ v ≤ 1000000 := by
  have hlt : i < F.ns.length := (List.getElem?_eq_some_iff.1 hx).1
  obtain ⟨b, o, s, rfl, _, _, c0, c1, c2, hs, w0, w1⟩ := h.nodes.at_ hx
  obtain ⟨p, hp⟩ : ∃ p, st.1[i]? = some p := ⟨_, List.getElem?_eq_getElem (by rw [h.ok.l1]; exact hlt)⟩
  obtain ⟨v, hv⟩ : ∃ v, st.2[i]? = some v := ⟨_, List.getElem?_eq_getElem (by rw [h.ok.l2]; exact hlt)⟩
  have h1 := h.ok.par p (List.mem_of_getElem? hp)
  have h2 := h.ok.var v (List.mem_of_getElem? hv)
  exact ⟨b, o, s, p, v, rfl, belC h.bl c0, belC h.bl c1, belC h.bl c2, hs, w0, w1, hp, hv, by rw [h.par.cell, intsOf_get hp], by rw [h.var.cell, intsOf_get hv], h1.1, h1.2, h2.1, h2.2⟩
end
theorem fits_of {i : Nat} {x : Nd} {st : ST} {p v : Int} (hp : st.1[i]? = some p) (hv : st.2[i]? = some v) :
    fitsB i x st = (!(decide (0 < i) && decide (p < 0)) && !decide (64 < v) && lenOK x.op x.l.length && numOK x.op x.n v) := by
  unfold fitsB
  rw [List.getD_eq_getElem?_getD, List.getD_eq_getElem?_getD, hp, hv]
  rfl
theorem lenOK_range {op m : Int} (h : lenOK op m = true) : 1 ≤ op ∧ op ≤ 24 := by
  unfold lenOK at h
  repeat' split at h
  all_goals first | omega | (simp at h)

set_option maxRecDepth 100000 in
set_option maxHeartbeats 3200000 in
theorem fits6_ok {w W : World} {bv gp gv : Nat} {F : Fd} {A : Option Addr} {c i : Nat} {st : ST} {x : Nd} (hV : ViewS w bv gp gv F A c st W) (hx : F.ns[i]? = some x) {lo hi : Nat} {K : Array Value} (hK : Known W lo hi K) (hhi : hi ≤ W.heap.size) :
    Calls Try.prog 54 #[.pointer (some ⟨bv, 0, none⟩), .int .i64 (i : Int), .agg K] W fun e w' => e = .returned (.bool (fitsB i x st)) ∧ Below W.heap.size W w' := by
  have hlt : i < F.ns.length := (List.getElem?_eq_some_iff.1 hx).1
  obtain ⟨z0, z1, z2, z3⟩ := hV.cells
  obtain ⟨b, o, s, p, v, rfl, c0, c1, c2, hs, w0, w1, hp, hv, p0, v0, h1, h2, h3, h4⟩ := hV.at_ hx
  obtain ⟨Al, cl, rfl, hcl, hcm⟩ := hs.form
  obtain ⟨_, c', e', hc1, hc2, _⟩ := hV.nodes
  simp only [Value.slice.injEq] at e'
  obtain ⟨rfl, -, rfl⟩ := e'
  rw [fits_of hp hv]
  unfold maxLen at hc2 hcm
  have i0 : (0 : Int) ≤ (i : Int) := by omega
  have i1 : (i : Int) < (F.ns.length : Int) := by omega
  have lb := hV.box.lt
  have lp := hV.par.lt
  have lv := hV.var.lt
  have ln : b < W.heap.size := lt_of_cell c0
  clear hp hv hV hx
  have HK := Lib.hid hK
  clear hK
  by_cases hA : 0 < i ∧ p < 0
  · obtain ⟨ha, hb⟩ := hA
    obtain rfl : p = -1 := by omega
    have ha' : (0 : Int) < (i : Int) := by omega
    have hE := Lib.hid (show (!(decide (0 < i) && decide ((-1 : Int) < 0)) && !decide (64 < v) && lenOK x.op x.l.length && numOK x.op x.n v) = false by simp [ha])
    go_enter Try.func54, Try.ntmps54
    go_wp2
    go_ret
    exact ⟨ret_bool hE.out.symm, ((Below.refl _ W).alloc (Nat.le_refl _) _).alloc (by simp) _⟩
  have hE0 : (!(decide (0 < i) && decide (p < 0))) = true := by simp; omega
  rw [hE0]
  simp only [Bool.true_and]
  have hq : ((i : Int) = 0 ∧ i = 0) ∨ ((0 : Int) < (i : Int) ∧ (p == -1) = false) := by
    rcases Nat.eq_zero_or_pos i with h | h
    · left; omega
    · right; exact ⟨by omega, by simp; omega⟩
  clear hA hE0
  by_cases hv : 64 < v
  · have hE := Lib.hid (show (!decide (64 < v) && lenOK x.op x.l.length && numOK x.op x.n v) = false by simp [hv])
    rcases hq with ⟨ha, rfl⟩ | ⟨ha, hb⟩
    · simp only [Nat.zero_mul, Nat.add_zero, Int.ofNat_zero] at *
      go_enter Try.func54, Try.ntmps54
      go_wp2
      go_ret
      exact ⟨ret_bool hE.out.symm, ((Below.refl _ W).alloc (Nat.le_refl _) _).alloc (by simp) _⟩
    · go_enter Try.func54, Try.ntmps54
      go_wp2
      go_ret
      exact ⟨ret_bool hE.out.symm, ((Below.refl _ W).alloc (Nat.le_refl _) _).alloc (by simp) _⟩
  have hE0 : (!decide (64 < v)) = true := by simp; omega
  rw [hE0]
  simp only [Bool.true_and]
  clear hE0
  have hvI : v ≤ 64 := by omega
  clear hv
  by_cases hC : x.op ≤ 0
  · have hE := Lib.hid (show (lenOK x.op x.l.length && numOK x.op x.n v) = false by
      cases h : lenOK x.op x.l.length
      · rfl
      · have := lenOK_range h; omega)
    rcases hq with ⟨ha, rfl⟩ | ⟨ha, hb⟩
    · simp only [Nat.zero_mul, Nat.add_zero, Int.ofNat_zero] at *
      go_enter Try.func54, Try.ntmps54
      go_wp2
      go_ret
      exact ⟨ret_bool hE.out.symm, ((Below.refl _ W).alloc (Nat.le_refl _) _).alloc (by simp) _⟩
    · go_enter Try.func54, Try.ntmps54
      go_wp2
      go_ret
      exact ⟨ret_bool hE.out.symm, ((Below.refl _ W).alloc (Nat.le_refl _) _).alloc (by simp) _⟩
  by_cases hD : 25 ≤ x.op
  · have hE := Lib.hid (show (lenOK x.op x.l.length && numOK x.op x.n v) = false by
      cases h : lenOK x.op x.l.length
      · rfl
      · have := lenOK_range h; omega)
    have hC' : 0 < x.op := by omega
    rcases hq with ⟨ha, rfl⟩ | ⟨ha, hb⟩
    · simp only [Nat.zero_mul, Nat.add_zero, Int.ofNat_zero] at *
      go_enter Try.func54, Try.ntmps54
      go_wp2
      go_ret
      exact ⟨ret_bool hE.out.symm, ((Below.refl _ W).alloc (Nat.le_refl _) _).alloc (by simp) _⟩
    · go_enter Try.func54, Try.ntmps54
      go_wp2
      go_ret
      exact ⟨ret_bool hE.out.symm, ((Below.refl _ W).alloc (Nat.le_refl _) _).alloc (by simp) _⟩
  obtain ⟨k, hk⟩ : ∃ k : Nat, x.op = (k : Int) := ⟨x.op.toNat, by omega⟩
  have hk1 : 1 ≤ k := by omega
  have hk2 : k ≤ 24 := by omega
  have hln := len_within (k : Int) (by omega) (by omega) (x.l.length : Int) (by omega)
  have hnu := HK.out.num k hk1 hk2
  obtain ⟨bK, uK, hle, _, hbh, hbl, hiK⟩ := HK.out.len k hk1 hk2
  rw [hk] at c0 ⊢
  rw [← hln]
  have kI0 : (0 : Int) < (k : Int) := by omega
  have kI1 : (k : Int) < 25 := by omega
  have hen := numF_enters (k : Int)
  have hnk := fun W' => (numF_ok (k : Int) x.n v W' h3 h4).mono (R' := fun e w' => e = .returned (.bool (numOK (k : Int) x.n v)) ∧ w' = W') (fun e w' q => ⟨q.1, q.2.symm⟩)
  have hlk : ∀ W', Below W.heap.size W W' → Calls Try.prog 71 #[.int .i64 (x.l.length : Int), .pointer (some ⟨bK, 0, none⟩)] W' fun e w' => e = .returned (.bool (withinB (x.l.length : Int) (bndOf (k : Int)))) ∧ w' = W' := fun W' hk' =>
    (count1_ok _ W' (hbl.keep (hk'.block _ (by omega))) (hiK.below hk' hhi) (bndOf_ne _)).mono fun e w' q => ⟨q.1, q.2.symm⟩
  have HEN := Lib.hid hen
  have HNK := Lib.hid hnk
  have HLK := Lib.hid hlk
  clear hen hnk hlk hln hk hiK hbl hs
  generalize numF (k : Int) = gf at *
  have hKs := HK.out.size
  obtain ⟨W1, hW1⟩ : ∃ X, W.alloc (.cells K 87) = X := ⟨_, rfl⟩
  have hB1 : Below W.heap.size W W1 := by rw [← hW1]; exact (Below.refl _ W).alloc (Nat.le_refl _) _
  have hbK : Blk W1 W.heap.size 87 K := by rw [← hW1]; exact Blk.new _ _ _
  have q0 : W1.cell? ⟨W.heap.size, k * 2, none⟩ = some (.func (.func gf) #[] #[]) := by rw [hbK.cell]; exact hnu
  have q1 : W1.cell? ⟨W.heap.size, k * 2 + 1, none⟩ = some (.func (.func 71) #[] #[.pointer (some ⟨bK, 0, none⟩)]) := by rw [hbK.cell]; exact hle
  have lK := hbK.lt
  replace z0 := belC hB1 z0
  replace z1 := belC hB1 z1
  replace z2 := belC hB1 z2
  replace z3 := belC hB1 z3
  replace c0 := belC hB1 c0
  replace c1 := belC hB1 c1
  replace c2 := belC hB1 c2
  replace p0 := belC hB1 p0
  replace v0 := belC hB1 v0
  replace lb : bv < W1.heap.size := lt_of_cell z0
  replace lp : gp < W1.heap.size := lt_of_cell p0
  replace lv : gv < W1.heap.size := lt_of_cell v0
  replace ln : b < W1.heap.size := lt_of_cell c0
  have HB1 := Lib.hid hB1
  clear hB1 hbK hnu HK hKs
  rcases hq with ⟨ha, rfl⟩ | ⟨ha, hb⟩
  all_goals try simp only [Nat.zero_mul, Nat.add_zero, Int.ofNat_zero] at *
  all_goals
    go_enter Try.func54, Try.ntmps54
    go_upto_region 1 with fail
    try rw [hW1]
    clear hW1
    go_upto_region 5 with fail
    obtain ⟨W3, hW3⟩ : ∃ X, (W1.alloc (.cells #[.int .i64 (k : Int), .int .i64 x.n, .slice Al x.l.length cl] 47)).alloc (.cells #[.func (.func gf) #[] #[], .func (.func 71) #[] #[.pointer (some ⟨bK, 0, none⟩)]] 86) = X := ⟨_, rfl⟩
    have hB3 : Below W1.heap.size W1 W3 := by rw [← hW3]; exact ((Below.refl _ W1).alloc (Nat.le_refl _) _).alloc (by simp) _
    have hb7 : Blk W3 W1.heap.size 47 #[.int .i64 (k : Int), .int .i64 x.n, .slice Al x.l.length cl] := by rw [← hW3]; exact (Blk.new _ _ _).alloc _
    have hb8 : Blk W3 (W1.heap.size + 1) 86 #[.func (.func gf) #[] #[], .func (.func 71) #[] #[.pointer (some ⟨bK, 0, none⟩)]] := by rw [← hW3]; exact blkN (by simp) _ _
    replace z2 := belC hB3 z2
    replace z3 := belC hB3 z3
    replace v0 := belC hB3 v0
    have n0 := hb7.cell 0
    have n1 := hb7.cell 1
    have n2 := hb7.cell 2
    have s0 := hb8.cell 0
    have s1 := hb8.cell 1
    simp at n0 n1 n2 s0 s1
    have hBB := HB1.out.trans (hB3.mono HB1.out.size)
    have HBB := Lib.hid hBB
    have hN3 := fun n => HNK.out (W3.drewN n)
    have hL3 := fun n => HLK.out (W3.drewN n) (hBB.trans (Below.drewN' _ n))
    have hen := HEN.out
    obtain ⟨lb2, hlb⟩ : ∃ b, withinB (x.l.length : Int) (bndOf (k : Int)) = b := ⟨_, rfl⟩
    rw [hlb] at hL3
    have HLB := Lib.hid hlb
    clear hlb
    have HL3 := Lib.hid hL3
    try rw [hW3]
    clear hW3 hB3 hb7 hb8 hBB HNK HLK HEN hL3 z0 z1 c0 c1 c2 p0 q0 q1 ln lp
    obtain ⟨g7, hg7⟩ : ∃ g, W1.heap.size = g := ⟨_, rfl⟩
    rw [hg7] at n0 n1 n2 s0 s1 ⊢
    clear hg7
  all_goals cases hnm : numOK (k : Int) x.n v
  all_goals rw [hnm] at hN3
  all_goals have HN3 := Lib.hid hN3
  all_goals have HNM := Lib.hid hnm
  all_goals clear hN3 hnm
  all_goals go_quiet ((first | exact Calls.quiet_of_same (HN3.out _) | exact Calls.quiet_of_same (HL3.out _)))
  all_goals go_wp2
  all_goals go_ret
  all_goals exact ⟨ret_bool (by rw [HLB.out, HNM.out]; first | rfl | simp), HBB.out.trans (Below.drewN' _ _)⟩
end Go.Proofs.Ytleihdakmibmhaa
