/- A region that draws its order, in a deferred call that recovers: all of its orders, by a list. -/
import Derived.Test.YtleihdakmibmhaaFb
import Derived.Recover
import Derived.Orders
import Derived.Deep.RegionHeld
namespace Go.Proofs.Ytleihdakmibmhaa
open Go.RowKit Go.Shelf
attribute [local go_sem] Oper.semAt_some

/-- All orders in which a region's operations may come up. -/
def allLin (md : Region.Mode) (ops : Array Oper) : Nat → Array Bool → List (List Nat)
  | 0, _ => [[]]
  | fuel + 1, listed => if Region.ready md ops listed = [] then [[]] else (Region.ready md ops listed).flatMap fun i => (allLin md ops fuel (listed.setIfInBounds i true)).map (i :: ·)
theorem lin_mem (md : Region.Mode) (ops : Array Oper) : ∀ (fuel t : Nat) (listed : Array Bool), Region.linearise.go md ops fuel t listed [] ∈ allLin md ops fuel listed := by
  intro fuel
  induction fuel with
  | zero => intro t listed; simp [Region.linearise.go, allLin]
  | succ fuel ih =>
    intro t listed
    simp only [Region.linearise.go, allLin]
    change (match (Region.ready md ops listed)[t % (Region.ready md ops listed).length]? with
      | some i => Region.linearise.go md ops fuel (t / (Region.ready md ops listed).length) (listed.setIfInBounds i true) [i]
      | none => [].reverse) ∈ _
    by_cases hr : Region.ready md ops listed = []
    · rw [if_pos hr, hr]
      simp
    · rw [if_neg hr]
      have hlen : 0 < (Region.ready md ops listed).length := List.length_pos_iff.2 hr
      have hlt : t % (Region.ready md ops listed).length < (Region.ready md ops listed).length := Nat.mod_lt _ hlen
      rw [List.getElem?_eq_getElem hlt]
      simp only []
      rw [linearise_go_acc, List.reverse_singleton, List.singleton_append, List.mem_flatMap]
      exact ⟨_, List.getElem_mem hlt, List.mem_map.2 ⟨_, ih _ _, rfl⟩⟩
theorem wpS_region_all {P : Program} {Q : Exit → Act → List Frame → World → Prop} {a : Act} {cs : List Frame} {w : World} {id : Nat} {ops : Array Oper} (hm : P.follows .mixedOrders = true)
    (h : ∀ l ∈ allLin .any ops ops.size (Array.replicate ops.size false), wpOpsS P ops Q l a cs w.drew) : (Code.region id ops true).wpS P Q a cs w := fun b k hb hr => by
  have hl := h _ (lin_mem .any ops ops.size (w.tape w.drawn (.order b.fn id)) (Array.replicate ops.size false))
  obtain ⟨e, a', cs', w', q, r⟩ := wp_opsS _ a cs _ hl b k hb hr
  refine ⟨e, a', cs', w', q, .of_steps (.one ?_) r⟩
  have hs := step_region_draw (P := P) (b := b) (a := a) (k := k) (cs := cs) (w := w) (ops := ops) (id := id)
  rw [hs]
  simp only [Region.schedule, hm, Bool.true_or, if_true]
  rfl

theorem lin_is {l : List Nat} {X L : List (List Nat)} (h : l ∈ X) (e : X = L) : l ∈ L := e ▸ h
theorem raised6_nil (x : Int) (w : World) : Calls Try.prog 30 #[.nilIface, .int .i64 x] w fun e w' => e = .returned (.tuple #[.int .i64 0, .int .i64 x]) ∧ w = w' := by
  go_enter Try.func30, Try.ntmps30
  go_wp2_with fail
  go_ret2
  exact ⟨rfl, rfl⟩
theorem raised6_wrong (k x : Int) (w : World) : Calls Try.prog 30 #[.iface 80 (.int .i64 k), .int .i64 x] w fun e w' => e = .returned (.tuple #[.int .i64 k, .int .i64 60]) ∧ w = w' := by
  have hta : ∀ w, (Instr.typeAssert (.iface 80 (.int .i64 k)) 20 80 true).run Try.prog w = .ok (.tuple #[.int .i64 k, .bool true]) w := fun w => by
    simp [Instr.typeAssert, run_underlying Try.underlying80, go_sem, Result.andThen]
  go_enter Try.func30, Try.ntmps30
  go_wp2_with fail
  go_ret2
  exact ⟨rfl, rfl⟩

def wrongP (k : Int) : PanicEntry := { v := .iface 80 (.int .i64 k), recovered := false }
set_option maxRecDepth 100000 in
set_option maxHeartbeats 1600000 in
theorem catch_Where (pe pn : Nat) (x y k : Int) (older : List PanicEntry) (w : World) (he : w.cell? ⟨pe, 0, none⟩ = some (.int .i64 x)) (fe : w.frozen? ⟨pe, 0, none⟩ = false)
    (hn : w.cell? ⟨pn, 0, none⟩ = some (.int .i64 y)) (fn : w.frozen? ⟨pn, 0, none⟩ = false) (hne : pe ≠ pn) :
    CallsD Try.prog 29 #[.pointer (some ⟨pe, 0, none⟩), .pointer (some ⟨pn, 0, none⟩)] (.panicking (wrongP k :: older)) w fun e u' w' =>
      e = .returned (.tuple #[]) ∧ u' = .panicking ({ v := .iface 80 (.int .i64 k), recovered := true } :: older) ∧ w' = (w.drew.setCell ⟨pn, 0, none⟩ (.int .i64 k)).setCell ⟨pe, 0, none⟩ (.int .i64 60) := by
  unfold wrongP
  refine callsD_of_wpS Try.func29 rfl fun c₀ cs hu => ?_
  apply wpS_region_all (by kernel_rfl)
  intro l hl
  replace hl := lin_is hl (L := [[0, 1, 2, 3, 4, 5, 6, 7], [0, 1, 2, 3, 4, 6, 5, 7], [0, 1, 2, 3, 5, 4, 6, 7], [1, 0, 2, 3, 4, 5, 6, 7], [1, 0, 2, 3, 4, 6, 5, 7], [1, 0, 2, 3, 5, 4, 6, 7]]) (by kernel_rfl)
  simp only [List.mem_cons, List.not_mem_nil, or_false] at hl
  rcases hl with rfl | rfl | rfl | rfl | rfl | rfl | rfl | rfl | rfl | rfl | rfl | rfl | rfl | rfl | rfl | rfl | rfl | rfl | rfl | rfl | rfl | rfl | rfl | rfl | rfl | rfl | rfl | rfl | rfl | rfl | rfl | rfl | rfl | rfl | rfl | rfl | rfl | rfl | rfl | rfl | rfl | rfl | rfl | rfl | rfl | rfl | rfl | rfl | rfl | rfl | rfl | rfl | rfl | rfl | rfl | rfl | rfl | rfl | rfl | rfl | rfl | rfl | rfl | rfl | rfl | rfl | rfl | rfl | rfl | rfl | rfl | rfl | rfl | rfl | rfl | rfl | rfl | rfl | rfl | rfl | rfl | rfl | rfl | rfl | rfl | rfl | rfl | rfl | rfl | rfl | rfl | rfl | rfl | rfl | rfl | rfl | rfl | rfl | rfl | rfl | rfl | rfl | rfl | rfl | rfl | rfl | rfl | rfl | rfl | rfl | rfl | rfl | rfl | rfl | rfl | rfl | rfl | rfl | rfl | rfl | rfl | rfl | rfl | rfl | rfl | rfl | rfl | rfl | rfl | rfl | rfl | rfl | rfl | rfl | rfl | rfl | rfl | rfl | rfl | rfl | rfl | rfl | rfl | rfl | rfl | rfl | rfl | rfl | rfl | rfl | rfl | rfl | rfl | rfl | rfl | rfl
  all_goals
    simp [wpOpsS, go_sem, recoverD, hu, Try.ntmps29, he]
    refine (raised6_wrong k x _).mono ?_
    rintro e w' ⟨rfl, rfl⟩
    simp [go_sem, he, hn, fe, fn, Ne.symm hne, World.cell?_setCell_far, bodyPostS, results, Try.results29]
set_option maxRecDepth 100000 in
set_option maxHeartbeats 1600000 in
theorem idle_Where (pe pn : Nat) (x y : Int) (w : World) (he : w.cell? ⟨pe, 0, none⟩ = some (.int .i64 x)) (fe : w.frozen? ⟨pe, 0, none⟩ = false)
    (hn : w.cell? ⟨pn, 0, none⟩ = some (.int .i64 y)) (fn : w.frozen? ⟨pn, 0, none⟩ = false) (hne : pe ≠ pn) :
    CallsD Try.prog 29 #[.pointer (some ⟨pe, 0, none⟩), .pointer (some ⟨pn, 0, none⟩)] .returning w fun e u' w' =>
      e = .returned (.tuple #[]) ∧ u' = .returning ∧ w' = (w.drew.setCell ⟨pn, 0, none⟩ (.int .i64 0)).setCell ⟨pe, 0, none⟩ (.int .i64 x) := by
  refine callsD_of_wpS Try.func29 rfl fun c₀ cs hu => ?_
  apply wpS_region_all (by kernel_rfl)
  intro l hl
  replace hl := lin_is hl (L := [[0, 1, 2, 3, 4, 5, 6, 7], [0, 1, 2, 3, 4, 6, 5, 7], [0, 1, 2, 3, 5, 4, 6, 7], [1, 0, 2, 3, 4, 5, 6, 7], [1, 0, 2, 3, 4, 6, 5, 7], [1, 0, 2, 3, 5, 4, 6, 7]]) (by kernel_rfl)
  simp only [List.mem_cons, List.not_mem_nil, or_false] at hl
  rcases hl with rfl | rfl | rfl | rfl | rfl | rfl | rfl | rfl | rfl | rfl | rfl | rfl | rfl | rfl | rfl | rfl | rfl | rfl | rfl | rfl | rfl | rfl | rfl | rfl | rfl | rfl | rfl | rfl | rfl | rfl | rfl | rfl | rfl | rfl | rfl | rfl | rfl | rfl | rfl | rfl | rfl | rfl | rfl | rfl | rfl | rfl | rfl | rfl | rfl | rfl | rfl | rfl | rfl | rfl | rfl | rfl | rfl | rfl | rfl | rfl | rfl | rfl | rfl | rfl | rfl | rfl | rfl | rfl | rfl | rfl | rfl | rfl | rfl | rfl | rfl | rfl | rfl | rfl | rfl | rfl | rfl | rfl | rfl | rfl | rfl | rfl | rfl | rfl | rfl | rfl | rfl | rfl | rfl | rfl | rfl | rfl | rfl | rfl | rfl | rfl | rfl | rfl | rfl | rfl | rfl | rfl | rfl | rfl | rfl | rfl | rfl | rfl | rfl | rfl | rfl | rfl | rfl | rfl | rfl | rfl | rfl | rfl | rfl | rfl | rfl | rfl | rfl | rfl | rfl | rfl | rfl | rfl | rfl | rfl | rfl | rfl | rfl | rfl | rfl | rfl | rfl | rfl | rfl | rfl | rfl | rfl | rfl | rfl | rfl | rfl | rfl | rfl | rfl | rfl | rfl | rfl
  all_goals
    simp [wpOpsS, go_sem, recoverD, hu, Try.ntmps29, he]
    refine (raised6_nil x _).mono ?_
    rintro e w' ⟨rfl, rfl⟩
    cases c₀
    simp at hu
    subst hu
    simp [go_sem, he, hn, fe, fn, Ne.symm hne, World.cell?_setCell_far, bodyPostS, results, Try.results29]
set_option maxRecDepth 100000 in
set_option maxHeartbeats 1600000 in
theorem catch_Depth (pe : Nat) (x k : Int) (older : List PanicEntry) (w : World) (he : w.cell? ⟨pe, 0, none⟩ = some (.int .i64 x)) (fe : w.frozen? ⟨pe, 0, none⟩ = false) :
    CallsD Try.prog 33 #[.pointer (some ⟨pe, 0, none⟩)] (.panicking (wrongP k :: older)) w fun e u' w' =>
      e = .returned (.tuple #[]) ∧ u' = .panicking ({ v := .iface 80 (.int .i64 k), recovered := true } :: older) ∧ w' = w.drew.setCell ⟨pe, 0, none⟩ (.int .i64 60) := by
  unfold wrongP
  refine callsD_of_wpS Try.func33 rfl fun c₀ cs hu => ?_
  apply wpS_region_all (by kernel_rfl)
  intro l hl
  replace hl := lin_is hl (L := [[0, 1, 2, 3, 4, 5, 6], [0, 1, 2, 3, 5, 4, 6], [1, 0, 2, 3, 4, 5, 6], [1, 0, 2, 3, 5, 4, 6]]) (by kernel_rfl)
  simp only [List.mem_cons, List.not_mem_nil, or_false] at hl
  rcases hl with rfl | rfl | rfl | rfl | rfl | rfl | rfl | rfl | rfl | rfl | rfl | rfl | rfl | rfl | rfl | rfl | rfl | rfl | rfl | rfl | rfl | rfl | rfl | rfl | rfl | rfl | rfl | rfl | rfl | rfl | rfl | rfl | rfl | rfl | rfl | rfl | rfl | rfl | rfl | rfl | rfl | rfl | rfl | rfl | rfl | rfl | rfl | rfl | rfl | rfl | rfl | rfl | rfl | rfl | rfl | rfl | rfl | rfl | rfl | rfl | rfl | rfl | rfl | rfl | rfl | rfl | rfl | rfl | rfl | rfl | rfl | rfl | rfl | rfl | rfl | rfl | rfl | rfl | rfl | rfl | rfl | rfl | rfl | rfl | rfl | rfl | rfl | rfl | rfl | rfl | rfl | rfl
  all_goals
    simp [wpOpsS, go_sem, recoverD, hu, Try.ntmps33, he]
    refine (raised6_wrong k x _).mono ?_
    rintro e w' ⟨rfl, rfl⟩
    simp [go_sem, he, fe, bodyPostS, results, Try.results33]
set_option maxRecDepth 100000 in
set_option maxHeartbeats 1600000 in
theorem idle_Depth (pe : Nat) (x : Int) (w : World) (he : w.cell? ⟨pe, 0, none⟩ = some (.int .i64 x)) (fe : w.frozen? ⟨pe, 0, none⟩ = false) :
    CallsD Try.prog 33 #[.pointer (some ⟨pe, 0, none⟩)] .returning w fun e u' w' =>
      e = .returned (.tuple #[]) ∧ u' = .returning ∧ w' = w.drew.setCell ⟨pe, 0, none⟩ (.int .i64 x) := by
  refine callsD_of_wpS Try.func33 rfl fun c₀ cs hu => ?_
  apply wpS_region_all (by kernel_rfl)
  intro l hl
  replace hl := lin_is hl (L := [[0, 1, 2, 3, 4, 5, 6], [0, 1, 2, 3, 5, 4, 6], [1, 0, 2, 3, 4, 5, 6], [1, 0, 2, 3, 5, 4, 6]]) (by kernel_rfl)
  simp only [List.mem_cons, List.not_mem_nil, or_false] at hl
  rcases hl with rfl | rfl | rfl | rfl | rfl | rfl | rfl | rfl | rfl | rfl | rfl | rfl | rfl | rfl | rfl | rfl | rfl | rfl | rfl | rfl | rfl | rfl | rfl | rfl | rfl | rfl | rfl | rfl | rfl | rfl | rfl | rfl | rfl | rfl | rfl | rfl | rfl | rfl | rfl | rfl | rfl | rfl | rfl | rfl | rfl | rfl | rfl | rfl | rfl | rfl | rfl | rfl | rfl | rfl | rfl | rfl | rfl | rfl | rfl | rfl | rfl | rfl | rfl | rfl | rfl | rfl | rfl | rfl | rfl | rfl | rfl | rfl | rfl | rfl | rfl | rfl | rfl | rfl | rfl | rfl | rfl | rfl | rfl | rfl | rfl | rfl | rfl | rfl | rfl | rfl | rfl | rfl
  all_goals
    simp [wpOpsS, go_sem, recoverD, hu, Try.ntmps33, he]
    refine (raised6_nil x _).mono ?_
    rintro e w' ⟨rfl, rfl⟩
    cases c₀
    simp at hu
    subst hu
    simp [go_sem, he, fe, bodyPostS, results, Try.results33]
set_option maxRecDepth 100000 in
set_option maxHeartbeats 1600000 in
theorem catch_Parent (pe : Nat) (x k : Int) (older : List PanicEntry) (w : World) (he : w.cell? ⟨pe, 0, none⟩ = some (.int .i64 x)) (fe : w.frozen? ⟨pe, 0, none⟩ = false) :
    CallsD Try.prog 35 #[.pointer (some ⟨pe, 0, none⟩)] (.panicking (wrongP k :: older)) w fun e u' w' =>
      e = .returned (.tuple #[]) ∧ u' = .panicking ({ v := .iface 80 (.int .i64 k), recovered := true } :: older) ∧ w' = w.drew.setCell ⟨pe, 0, none⟩ (.int .i64 60) := by
  unfold wrongP
  refine callsD_of_wpS Try.func35 rfl fun c₀ cs hu => ?_
  apply wpS_region_all (by kernel_rfl)
  intro l hl
  replace hl := lin_is hl (L := [[0, 1, 2, 3, 4, 5, 6], [0, 1, 2, 3, 5, 4, 6], [1, 0, 2, 3, 4, 5, 6], [1, 0, 2, 3, 5, 4, 6]]) (by kernel_rfl)
  simp only [List.mem_cons, List.not_mem_nil, or_false] at hl
  rcases hl with rfl | rfl | rfl | rfl | rfl | rfl | rfl | rfl | rfl | rfl | rfl | rfl | rfl | rfl | rfl | rfl | rfl | rfl | rfl | rfl | rfl | rfl | rfl | rfl | rfl | rfl | rfl | rfl | rfl | rfl | rfl | rfl | rfl | rfl | rfl | rfl | rfl | rfl | rfl | rfl | rfl | rfl | rfl | rfl | rfl | rfl | rfl | rfl | rfl | rfl | rfl | rfl | rfl | rfl | rfl | rfl | rfl | rfl | rfl | rfl | rfl | rfl | rfl | rfl | rfl | rfl | rfl | rfl | rfl | rfl | rfl | rfl | rfl | rfl | rfl | rfl | rfl | rfl | rfl | rfl | rfl | rfl | rfl | rfl | rfl | rfl | rfl | rfl | rfl | rfl | rfl | rfl
  all_goals
    simp [wpOpsS, go_sem, recoverD, hu, Try.ntmps35, he]
    refine (raised6_wrong k x _).mono ?_
    rintro e w' ⟨rfl, rfl⟩
    simp [go_sem, he, fe, bodyPostS, results, Try.results35]
set_option maxRecDepth 100000 in
set_option maxHeartbeats 1600000 in
theorem idle_Parent (pe : Nat) (x : Int) (w : World) (he : w.cell? ⟨pe, 0, none⟩ = some (.int .i64 x)) (fe : w.frozen? ⟨pe, 0, none⟩ = false) :
    CallsD Try.prog 35 #[.pointer (some ⟨pe, 0, none⟩)] .returning w fun e u' w' =>
      e = .returned (.tuple #[]) ∧ u' = .returning ∧ w' = w.drew.setCell ⟨pe, 0, none⟩ (.int .i64 x) := by
  refine callsD_of_wpS Try.func35 rfl fun c₀ cs hu => ?_
  apply wpS_region_all (by kernel_rfl)
  intro l hl
  replace hl := lin_is hl (L := [[0, 1, 2, 3, 4, 5, 6], [0, 1, 2, 3, 5, 4, 6], [1, 0, 2, 3, 4, 5, 6], [1, 0, 2, 3, 5, 4, 6]]) (by kernel_rfl)
  simp only [List.mem_cons, List.not_mem_nil, or_false] at hl
  rcases hl with rfl | rfl | rfl | rfl | rfl | rfl | rfl | rfl | rfl | rfl | rfl | rfl | rfl | rfl | rfl | rfl | rfl | rfl | rfl | rfl | rfl | rfl | rfl | rfl | rfl | rfl | rfl | rfl | rfl | rfl | rfl | rfl | rfl | rfl | rfl | rfl | rfl | rfl | rfl | rfl | rfl | rfl | rfl | rfl | rfl | rfl | rfl | rfl | rfl | rfl | rfl | rfl | rfl | rfl | rfl | rfl | rfl | rfl | rfl | rfl | rfl | rfl | rfl | rfl | rfl | rfl | rfl | rfl | rfl | rfl | rfl | rfl | rfl | rfl | rfl | rfl | rfl | rfl | rfl | rfl | rfl | rfl | rfl | rfl | rfl | rfl | rfl | rfl | rfl | rfl | rfl | rfl
  all_goals
    simp [wpOpsS, go_sem, recoverD, hu, Try.ntmps35, he]
    refine (raised6_nil x _).mono ?_
    rintro e w' ⟨rfl, rfl⟩
    cases c₀
    simp at hu
    subst hu
    simp [go_sem, he, fe, bodyPostS, results, Try.results35]
end Go.Proofs.Ytleihdakmibmhaa
