/- Depth and Parent. -/
import Derived.Test.YtleihdakmibmhaaFi
import Derived.Deep.Cut
namespace Go.Proofs.Ytleihdakmibmhaa
open Go.RowKit Go.Shelf
attribute [local go_sem] Oper.semAt_some

set_option maxRecDepth 100000 in
set_option maxHeartbeats 3200000 in
theorem Depth_ok {F : Fd} {v : Value} (node : Int) (w : World) (h : FunI w 0 w.heap.size v F) :
    Calls Try.prog 15 #[v, .int .i64 node] w fun e w' => e = .returned (.tuple #[.int .i64 (depthF F node).1, .int .i64 (depthF F node).2]) ∧ Below w.heap.size w w' := by
  obtain ⟨A, c, rfl⟩ := h.form
  have hmf : ∀ (fn : Fn) (first cap : Array Value) (w : World), (Instr.makeFunc fn first cap).run Try.prog w = .ok (.func fn first cap) w := fun _ _ _ _ => rfl
  obtain ⟨W3, hW3⟩ : ∃ X, (w.alloc (.cells #[.int .i64 F.p, .slice A F.ns.length c] 24)).alloc (.cells #[.int .i64 0] 27) = X := ⟨_, rfl⟩
  have hB3 : Below w.heap.size w W3 := by rw [← hW3]; exact ((Below.refl _ w).alloc (Nat.le_refl _) _).alloc (by simp) _
  have he3 : Blk W3 (w.heap.size + 1) 27 #[.int .i64 0] := by rw [← hW3]; exact blkN (by simp) _ _
  have hex := (examine_at h hB3).mono
    (R' := fun e w' => ((∃ st bv gp gv A c, placesF F = .ok st ∧ e = .returned (.pointer (some ⟨bv, 0, none⟩)) ∧ Hid (∃ Wb, ViewS Wb bv gp gv F A c st w')) ∨ (∃ k : Nat, placesF F = .bad k ∧ e = .panicked [wrongP (k : Int)])) ∧
      w'.cell? ⟨w.heap.size + 1, 0, none⟩ = some (.int .i64 0) ∧ w'.frozen? ⟨w.heap.size + 1, 0, none⟩ = false ∧ Hid (Below w.heap.size w w' ∧ Blk w' (w.heap.size + 1) 27 #[.int .i64 0]))
    (fun e w' q => by
      obtain ⟨q1, q2⟩ := q
      have k2 := he3.keep (q2.block _ he3.lt)
      refine ⟨?_, by simpa using k2.cell 0, k2.frozen 0, Lib.hid ⟨hB3.trans (q2.mono hB3.size), k2⟩⟩
      rcases q1 with ⟨st, bv, gp, gv, A, c, h1, h2, h3⟩ | ⟨k, h1, h2⟩
      · exact .inl ⟨st, bv, gp, gv, A, c, h1, h2, Lib.hid ⟨_, h3⟩⟩
      · exact .inr ⟨k, h1, h2⟩)
  have HL3 := Lib.hid he3.lt
  rw [← hW3] at hex
  have HEX := Lib.hid hex
  clear hex hB3 he3 h
  have HW3 := Lib.hid hW3
  clear hW3
  cases hpl : placesF F with
  | bad k =>
    have hd : depthF F node = (0, 60) := by unfold depthF; rw [hpl]
    have HD := Lib.hid hd
    rw [hpl] at HEX
    clear hpl hd
    go_enter_defers Try.func15, Try.ntmps15
    go_wp2_with (go_at_call 31; (with_reducible refine HEX.out.mono ?_); rintro e w' ⟨(⟨st, bv, gp, gv, A', c', hp, _⟩ | ⟨k', hp, rfl⟩), e0, fe, hb⟩; (· cases hp))
    obtain ⟨hB, k2⟩ := hb.out
    refine leaves_cons (f := 33) (args := #[.pointer (some ⟨w.heap.size + 1, 0, none⟩)]) (by simp) (by simp [go_sem]) ?_
    refine (catch_Depth _ 0 (k' : Int) [] _ e0 fe).mono ?_
    rintro e u' w'' ⟨rfl, rfl, hw''⟩
    have y2 := (k2.drew.set 0 (.int .i64 60)).cell 0
    rw [← hw''] at y2
    simp at y2
    simp only [settle, List.dropWhile]
    simp only [Leaves]
    exact ⟨.tuple #[.int .i64 0, .int .i64 60], by simp [results, Try.results15, go_sem, y2], by rw [HD.out], by rw [hw'']; exact hB.drew.setCell (by simp) _⟩
  | ok st =>
    have hn := places_len hpl
    rw [hpl] at HEX
    go_enter_defers Try.func15, Try.ntmps15
    go_upto_region 3 with (go_at_call 31; (with_reducible refine HEX.out.mono ?_); rintro e w' ⟨(⟨st', bv, gp, gv, A', c', hp, rfl, hV⟩ | ⟨k', hp, _⟩), e0, fe, hb⟩; rotate_left; (· cases hp))
    simp only [Out.ok.injEq] at hp
    subst hp
    obtain ⟨hB, k2⟩ := hb.out
    obtain ⟨Wb, hVV⟩ := hV.out
    have hs1 := hB.size
    have hhs := (has_ok hVV hn node).mono
      (R' := fun e w2 => e = .returned (.bool (hasB node F.ns.length)) ∧ w2.cell? ⟨w.heap.size + 1, 0, none⟩ = some (.int .i64 0) ∧ w2.frozen? ⟨w.heap.size + 1, 0, none⟩ = false ∧ Hid (Below w.heap.size w w2 ∧ Blk w2 (w.heap.size + 1) 27 #[.int .i64 0] ∧ ∃ Wb, ViewS Wb bv gp gv F A' c' st w2))
      (fun e w2 q => by
        have k3 := k2.keep (q.2.block _ k2.lt)
        exact ⟨q.1, by simpa using k3.cell 0, k3.frozen 0, Lib.hid ⟨hB.trans (q.2.mono hs1), k3, _, hVV.below q.2⟩⟩)
    have HH := Lib.hid hhs
    have HPL := Lib.hid hpl
    clear hhs hb hB hV hVV k2 hs1 HEX hpl
    cases hb : hasB node F.ns.length
    · rw [hb] at HH
      have hd : depthF F node = (0, 4) := by unfold depthF; rw [HPL.out]; simp [hb]
      have HD := Lib.hid hd
      clear hb hd
      go_wp2_with (go_at_call 34; (with_reducible refine HH.out.mono ?_); rintro e w2 ⟨rfl, e0, fe, hb⟩)
      obtain ⟨hB, k2, _⟩ := hb.out
      have x2 := k2.set 0 (.int .i64 4)
      refine leaves_cons (f := 33) (args := #[.pointer (some ⟨w.heap.size + 1, 0, none⟩)]) (by simp) (by simp [go_sem]) ?_
      refine (idle_Depth _ 4 _ (by simpa using x2.cell 0) (x2.frozen 0)).mono ?_
      rintro e u' w'' ⟨rfl, rfl, hw''⟩
      have y2 := (x2.drew.set 0 (.int .i64 4)).cell 0
      rw [← hw''] at y2
      simp at y2
      simp only [settle, Leaves]
      exact ⟨.tuple #[.int .i64 0, .int .i64 4], by simp [results, Try.results15, go_sem, y2], by rw [HD.out], by rw [hw'']; exact (hB.setCell (p := ⟨w.heap.size + 1, 0, none⟩) (by simp) (.int .i64 4)).drew.setCell (by simp) _⟩
    · rw [hb] at HH
      have hr : 0 ≤ node ∧ node < F.ns.length := of_decide_eq_true hb
      obtain ⟨n, rfl⟩ : ∃ n : Nat, node = (n : Int) := ⟨node.toNat, by omega⟩
      have hnl : n < F.ns.length := by omega
      obtain ⟨x, hx⟩ : ∃ x, F.ns[n]? = some x := ⟨_, List.getElem?_eq_getElem hnl⟩
      have n0 : (0 : Int) ≤ (n : Int) := hr.1
      have n1 : (n : Int) < (F.ns.length : Int) := hr.2
      clear hr
      go_upto_region 5 with (go_at_call 34; (with_reducible refine HH.out.mono ?_); rintro e w2 ⟨rfl, e0, fe, hb⟩)
      obtain ⟨hB, k2, Wc, hV⟩ := hb.out
      obtain ⟨z0, z1, z2, z3⟩ := hV.cells
      obtain ⟨b, o, s, pp, vv, _, _, _, _, _, _, _, hp, hv, p0, v0, _⟩ := hV.at_ hx
      have hasT : hasB (n : Int) F.ns.length = true := decide_eq_true ⟨n0, n1⟩
      have hd : depthF F (n : Int) = (vv, 0) := by unfold depthF; rw [HPL.out]; simp only [hasT, if_true, Int.toNat_natCast]; rw [List.getD_eq_getElem?_getD, hv]; rfl
      have HD := Lib.hid hd
      have HB := Lib.hid (And.intro hB k2)
      clear hB k2 hV hp hv hd hx p0 hb HH HPL hasT
      go_wp2_with fail
      obtain ⟨hB, k2⟩ := HB.out
      have x2 := k2.set 0 (.int .i64 0)
      refine leaves_cons (f := 33) (args := #[.pointer (some ⟨w.heap.size + 1, 0, none⟩)]) (by simp) (by simp [go_sem]) ?_
      refine (idle_Depth _ 0 _ (by simpa using x2.cell 0) (x2.frozen 0)).mono ?_
      rintro e u' w'' ⟨rfl, rfl, hw''⟩
      have y2 := (x2.drew.set 0 (.int .i64 0)).cell 0
      rw [← hw''] at y2
      simp at y2
      simp only [settle, Leaves]
      exact ⟨.tuple #[.int .i64 vv, .int .i64 0], by simp [results, Try.results15, go_sem, y2], by rw [HD.out], by rw [hw'']; exact (hB.setCell (p := ⟨w.heap.size + 1, 0, none⟩) (by simp) (.int .i64 0)).drew.setCell (by simp) _⟩

set_option maxRecDepth 100000 in
set_option maxHeartbeats 3200000 in
theorem Parent_ok {F : Fd} {v : Value} (node : Int) (w : World) (h : FunI w 0 w.heap.size v F) :
    Calls Try.prog 17 #[v, .int .i64 node] w fun e w' => e = .returned (.tuple #[.int .i64 (parentF F node).1, .int .i64 (parentF F node).2]) ∧ Below w.heap.size w w' := by
  obtain ⟨A, c, rfl⟩ := h.form
  have hmf : ∀ (fn : Fn) (first cap : Array Value) (w : World), (Instr.makeFunc fn first cap).run Try.prog w = .ok (.func fn first cap) w := fun _ _ _ _ => rfl
  obtain ⟨W3, hW3⟩ : ∃ X, (w.alloc (.cells #[.int .i64 F.p, .slice A F.ns.length c] 24)).alloc (.cells #[.int .i64 0] 27) = X := ⟨_, rfl⟩
  have hB3 : Below w.heap.size w W3 := by rw [← hW3]; exact ((Below.refl _ w).alloc (Nat.le_refl _) _).alloc (by simp) _
  have he3 : Blk W3 (w.heap.size + 1) 27 #[.int .i64 0] := by rw [← hW3]; exact blkN (by simp) _ _
  have hex := (examine_at h hB3).mono
    (R' := fun e w' => ((∃ st bv gp gv A c, placesF F = .ok st ∧ e = .returned (.pointer (some ⟨bv, 0, none⟩)) ∧ Hid (∃ Wb, ViewS Wb bv gp gv F A c st w')) ∨ (∃ k : Nat, placesF F = .bad k ∧ e = .panicked [wrongP (k : Int)])) ∧
      w'.cell? ⟨w.heap.size + 1, 0, none⟩ = some (.int .i64 0) ∧ w'.frozen? ⟨w.heap.size + 1, 0, none⟩ = false ∧ Hid (Below w.heap.size w w' ∧ Blk w' (w.heap.size + 1) 27 #[.int .i64 0]))
    (fun e w' q => by
      obtain ⟨q1, q2⟩ := q
      have k2 := he3.keep (q2.block _ he3.lt)
      refine ⟨?_, by simpa using k2.cell 0, k2.frozen 0, Lib.hid ⟨hB3.trans (q2.mono hB3.size), k2⟩⟩
      rcases q1 with ⟨st, bv, gp, gv, A, c, h1, h2, h3⟩ | ⟨k, h1, h2⟩
      · exact .inl ⟨st, bv, gp, gv, A, c, h1, h2, Lib.hid ⟨_, h3⟩⟩
      · exact .inr ⟨k, h1, h2⟩)
  have HL3 := Lib.hid he3.lt
  rw [← hW3] at hex
  have HEX := Lib.hid hex
  clear hex hB3 he3 h
  have HW3 := Lib.hid hW3
  clear hW3
  cases hpl : placesF F with
  | bad k =>
    have hd : parentF F node = (0, 60) := by unfold parentF; rw [hpl]
    have HD := Lib.hid hd
    rw [hpl] at HEX
    clear hpl hd
    go_enter_defers Try.func17, Try.ntmps17
    go_wp2_with (go_at_call 31; (with_reducible refine HEX.out.mono ?_); rintro e w' ⟨(⟨st, bv, gp, gv, A', c', hp, _⟩ | ⟨k', hp, rfl⟩), e0, fe, hb⟩; (· cases hp))
    obtain ⟨hB, k2⟩ := hb.out
    refine leaves_cons (f := 35) (args := #[.pointer (some ⟨w.heap.size + 1, 0, none⟩)]) (by simp) (by simp [go_sem]) ?_
    refine (catch_Parent _ 0 (k' : Int) [] _ e0 fe).mono ?_
    rintro e u' w'' ⟨rfl, rfl, hw''⟩
    have y2 := (k2.drew.set 0 (.int .i64 60)).cell 0
    rw [← hw''] at y2
    simp at y2
    simp only [settle, List.dropWhile]
    simp only [Leaves]
    exact ⟨.tuple #[.int .i64 0, .int .i64 60], by simp [results, Try.results17, go_sem, y2], by rw [HD.out], by rw [hw'']; exact hB.drew.setCell (by simp) _⟩
  | ok st =>
    have hn := places_len hpl
    rw [hpl] at HEX
    go_enter_defers Try.func17, Try.ntmps17
    go_upto_region 3 with (go_at_call 31; (with_reducible refine HEX.out.mono ?_); rintro e w' ⟨(⟨st', bv, gp, gv, A', c', hp, rfl, hV⟩ | ⟨k', hp, _⟩), e0, fe, hb⟩; rotate_left; (· cases hp))
    simp only [Out.ok.injEq] at hp
    subst hp
    obtain ⟨hB, k2⟩ := hb.out
    obtain ⟨Wb, hVV⟩ := hV.out
    have hs1 := hB.size
    have hhs := (has_ok hVV hn node).mono
      (R' := fun e w2 => e = .returned (.bool (hasB node F.ns.length)) ∧ w2.cell? ⟨w.heap.size + 1, 0, none⟩ = some (.int .i64 0) ∧ w2.frozen? ⟨w.heap.size + 1, 0, none⟩ = false ∧ Hid (Below w.heap.size w w2 ∧ Blk w2 (w.heap.size + 1) 27 #[.int .i64 0] ∧ ∃ Wb, ViewS Wb bv gp gv F A' c' st w2))
      (fun e w2 q => by
        have k3 := k2.keep (q.2.block _ k2.lt)
        exact ⟨q.1, by simpa using k3.cell 0, k3.frozen 0, Lib.hid ⟨hB.trans (q.2.mono hs1), k3, _, hVV.below q.2⟩⟩)
    have HH := Lib.hid hhs
    have HPL := Lib.hid hpl
    clear hhs hb hB hV hVV k2 hs1 HEX hpl
    cases hb : hasB node F.ns.length
    · rw [hb] at HH
      have hd : parentF F node = (0, 4) := by unfold parentF; rw [HPL.out]; simp [hb]
      have HD := Lib.hid hd
      clear hb hd
      go_wp2_with (go_at_call 34; (with_reducible refine HH.out.mono ?_); rintro e w2 ⟨rfl, e0, fe, hb⟩)
      obtain ⟨hB, k2, _⟩ := hb.out
      have x2 := k2.set 0 (.int .i64 4)
      refine leaves_cons (f := 35) (args := #[.pointer (some ⟨w.heap.size + 1, 0, none⟩)]) (by simp) (by simp [go_sem]) ?_
      refine (idle_Parent _ 4 _ (by simpa using x2.cell 0) (x2.frozen 0)).mono ?_
      rintro e u' w'' ⟨rfl, rfl, hw''⟩
      have y2 := (x2.drew.set 0 (.int .i64 4)).cell 0
      rw [← hw''] at y2
      simp at y2
      simp only [settle, Leaves]
      exact ⟨.tuple #[.int .i64 0, .int .i64 4], by simp [results, Try.results17, go_sem, y2], by rw [HD.out], by rw [hw'']; exact (hB.setCell (p := ⟨w.heap.size + 1, 0, none⟩) (by simp) (.int .i64 4)).drew.setCell (by simp) _⟩
    · rw [hb] at HH
      have hr : 0 ≤ node ∧ node < F.ns.length := of_decide_eq_true hb
      obtain ⟨n, rfl⟩ : ∃ n : Nat, node = (n : Int) := ⟨node.toNat, by omega⟩
      have hnl : n < F.ns.length := by omega
      obtain ⟨x, hx⟩ : ∃ x, F.ns[n]? = some x := ⟨_, List.getElem?_eq_getElem hnl⟩
      have n0 : (0 : Int) ≤ (n : Int) := hr.1
      have n1 : (n : Int) < (F.ns.length : Int) := hr.2
      clear hr
      go_upto_region 5 with (go_at_call 34; (with_reducible refine HH.out.mono ?_); rintro e w2 ⟨rfl, e0, fe, hb⟩)
      obtain ⟨hB, k2, Wc, hV⟩ := hb.out
      obtain ⟨z0, z1, z2, z3⟩ := hV.cells
      obtain ⟨b, o, s, pp, vv, _, _, _, _, _, _, _, hp, hv, p0, v0, _⟩ := hV.at_ hx
      have hasT : hasB (n : Int) F.ns.length = true := decide_eq_true ⟨n0, n1⟩
      have hd : parentF F (n : Int) = if pp = -1 then (0, 5) else (pp, 0) := by unfold parentF; rw [HPL.out]; simp only [hasT, if_true, Int.toNat_natCast]; rw [List.getD_eq_getElem?_getD, hp]; rfl
      have HB := Lib.hid (And.intro hB k2)
      by_cases hpp : pp = -1
      · rw [if_pos hpp] at hd
        subst hpp
        have HD := Lib.hid hd
        clear hB k2 hV hp hv hd hx v0 hb HH HPL hasT
        go_wp2_with fail
        obtain ⟨hB, k2⟩ := HB.out
        have x2 := k2.set 0 (.int .i64 5)
        refine leaves_cons (f := 35) (args := #[.pointer (some ⟨w.heap.size + 1, 0, none⟩)]) (by simp) (by simp [go_sem]) ?_
        refine (idle_Parent _ 5 _ (by simpa using x2.cell 0) (x2.frozen 0)).mono ?_
        rintro e u' w'' ⟨rfl, rfl, hw''⟩
        have y2 := (x2.drew.set 0 (.int .i64 5)).cell 0
        rw [← hw''] at y2
        simp at y2
        simp only [settle, Leaves]
        exact ⟨.tuple #[.int .i64 0, .int .i64 5], by simp [results, Try.results17, go_sem, y2], by rw [HD.out], by rw [hw'']; exact (hB.setCell (p := ⟨w.heap.size + 1, 0, none⟩) (by simp) (.int .i64 5)).drew.setCell (by simp) _⟩
      · rw [if_neg hpp] at hd
        have HD := Lib.hid hd
        have hpb : (pp == -1) = false := by simp [hpp]
        clear hB k2 hV hp hv hd hx v0 hb HH HPL hasT hpp
        go_wp2_with fail
        obtain ⟨hB, k2⟩ := HB.out
        have x2 := k2.set 0 (.int .i64 0)
        refine leaves_cons (f := 35) (args := #[.pointer (some ⟨w.heap.size + 1, 0, none⟩)]) (by simp) (by simp [go_sem]) ?_
        refine (idle_Parent _ 0 _ (by simpa using x2.cell 0) (x2.frozen 0)).mono ?_
        rintro e u' w'' ⟨rfl, rfl, hw''⟩
        have y2 := (x2.drew.set 0 (.int .i64 0)).cell 0
        rw [← hw''] at y2
        simp at y2
        simp only [settle, Leaves]
        exact ⟨.tuple #[.int .i64 pp, .int .i64 0], by simp [results, Try.results17, go_sem, y2], by rw [HD.out], by rw [hw'']; exact (hB.setCell (p := ⟨w.heap.size + 1, 0, none⟩) (by simp) (.int .i64 0)).drew.setCell (by simp) _⟩
end Go.Proofs.Ytleihdakmibmhaa
