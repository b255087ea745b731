/- raised, and the functions that recover. -/
import Derived.Test.YthfmbeecpjeegaaWh
namespace Go.Proofs.Ythfmbeecpjeegaa
open Go.RowKit Go.Shelf
attribute [local go_sem] Oper.semAt_some

set_option maxRecDepth 100000 in
set_option maxHeartbeats 800000 in
theorem raised_nil (w : World) : Calls Try.prog 57 #[.nilIface] w fun e w' => e = .returned (.int .i64 0) ∧ w = w' := by
  go_enter Try.func57, Try.ntmps57
  go_wp2_with fail
  go_ret
  exact ⟨rfl, rfl⟩

set_option maxRecDepth 100000 in
set_option maxHeartbeats 800000 in
theorem raised_flaw (k : Int) (w : World) : Calls Try.prog 57 #[.iface 92 (.int .i64 k)] w fun e w' => e = .returned (.int .i64 k) ∧ w = w' := by
  have hta : ∀ w, (Instr.typeAssert (.iface 92 (.int .i64 k)) 20 92 true).run Try.prog w = .ok (.tuple #[.int .i64 k, .bool true]) w := fun w => by
    simp [Instr.typeAssert, run_underlying Try.underlying92, go_sem, Result.andThen]
  go_enter Try.func57, Try.ntmps57
  go_wp2_with fail
  go_ret
  exact ⟨rfl, rfl⟩


set_option maxRecDepth 100000 in
set_option maxHeartbeats 1600000 in
theorem catch_Check (p : Nat) (x : Value) (k : Int) (older : List PanicEntry) (w : World) (hp : w.cell? ⟨p, 0, none⟩ = some x) (fp : w.frozen? ⟨p, 0, none⟩ = false) :
    CallsD Try.prog 56 #[.pointer (some ⟨p, 0, none⟩)] (.panicking ({ v := .iface 92 (.int .i64 k), recovered := false } :: older)) w fun e u' w' =>
      e = .returned (.tuple #[]) ∧ u' = .panicking ({ v := .iface 92 (.int .i64 k), recovered := true } :: older) ∧ w' = w.setCell ⟨p, 0, none⟩ (.int .i64 k) := by
  refine callsD_of_wpS Try.func56 rfl fun c₀ cs hu => ?_
  apply wpS_region
  simp [wpOpsS, go_sem, recoverD, hu, Try.ntmps56]
  refine (raised_flaw k w).mono ?_
  rintro e w' ⟨rfl, rfl⟩
  simp [go_sem, hp, fp, bodyPostS, results, Try.results56]

set_option maxRecDepth 100000 in
set_option maxHeartbeats 1600000 in
theorem idle_Check (p : Nat) (x : Value) (w : World) (hp : w.cell? ⟨p, 0, none⟩ = some x) (fp : w.frozen? ⟨p, 0, none⟩ = false) :
    CallsD Try.prog 56 #[.pointer (some ⟨p, 0, none⟩)] .returning w fun e u' w' =>
      e = .returned (.tuple #[]) ∧ u' = .returning ∧ w' = w.setCell ⟨p, 0, none⟩ (.int .i64 0) := by
  refine callsD_of_wpS Try.func56 rfl fun c₀ cs hu => ?_
  apply wpS_region
  simp [wpOpsS, go_sem, recoverD, hu, Try.ntmps56]
  refine (raised_nil w).mono ?_
  rintro e w' ⟨rfl, rfl⟩
  cases c₀
  simp_all [go_sem, bodyPostS, results, Try.results56]


set_option maxRecDepth 100000 in
set_option maxHeartbeats 1600000 in
theorem catch_Make (p : Nat) (x : Value) (k : Int) (older : List PanicEntry) (w : World) (hp : w.cell? ⟨p, 0, none⟩ = some x) (fp : w.frozen? ⟨p, 0, none⟩ = false) :
    CallsD Try.prog 69 #[.pointer (some ⟨p, 0, none⟩)] (.panicking ({ v := .iface 92 (.int .i64 k), recovered := false } :: older)) w fun e u' w' =>
      e = .returned (.tuple #[]) ∧ u' = .panicking ({ v := .iface 92 (.int .i64 k), recovered := true } :: older) ∧ w' = w.setCell ⟨p, 0, none⟩ (.int .i64 k) := by
  refine callsD_of_wpS Try.func69 rfl fun c₀ cs hu => ?_
  apply wpS_region
  simp [wpOpsS, go_sem, recoverD, hu, Try.ntmps69]
  refine (raised_flaw k w).mono ?_
  rintro e w' ⟨rfl, rfl⟩
  simp [go_sem, hp, fp, bodyPostS, results, Try.results69]

set_option maxRecDepth 100000 in
set_option maxHeartbeats 1600000 in
theorem idle_Make (p : Nat) (x : Value) (w : World) (hp : w.cell? ⟨p, 0, none⟩ = some x) (fp : w.frozen? ⟨p, 0, none⟩ = false) :
    CallsD Try.prog 69 #[.pointer (some ⟨p, 0, none⟩)] .returning w fun e u' w' =>
      e = .returned (.tuple #[]) ∧ u' = .returning ∧ w' = w.setCell ⟨p, 0, none⟩ (.int .i64 0) := by
  refine callsD_of_wpS Try.func69 rfl fun c₀ cs hu => ?_
  apply wpS_region
  simp [wpOpsS, go_sem, recoverD, hu, Try.ntmps69]
  refine (raised_nil w).mono ?_
  rintro e w' ⟨rfl, rfl⟩
  cases c₀
  simp_all [go_sem, bodyPostS, results, Try.results69]


set_option maxRecDepth 100000 in
set_option maxHeartbeats 1600000 in
theorem catch_Add (p : Nat) (x : Value) (k : Int) (older : List PanicEntry) (w : World) (hp : w.cell? ⟨p, 0, none⟩ = some x) (fp : w.frozen? ⟨p, 0, none⟩ = false) :
    CallsD Try.prog 70 #[.pointer (some ⟨p, 0, none⟩)] (.panicking ({ v := .iface 92 (.int .i64 k), recovered := false } :: older)) w fun e u' w' =>
      e = .returned (.tuple #[]) ∧ u' = .panicking ({ v := .iface 92 (.int .i64 k), recovered := true } :: older) ∧ w' = w.setCell ⟨p, 0, none⟩ (.int .i64 k) := by
  refine callsD_of_wpS Try.func70 rfl fun c₀ cs hu => ?_
  apply wpS_region
  simp [wpOpsS, go_sem, recoverD, hu, Try.ntmps70]
  refine (raised_flaw k w).mono ?_
  rintro e w' ⟨rfl, rfl⟩
  simp [go_sem, hp, fp, bodyPostS, results, Try.results70]

set_option maxRecDepth 100000 in
set_option maxHeartbeats 1600000 in
theorem idle_Add (p : Nat) (x : Value) (w : World) (hp : w.cell? ⟨p, 0, none⟩ = some x) (fp : w.frozen? ⟨p, 0, none⟩ = false) :
    CallsD Try.prog 70 #[.pointer (some ⟨p, 0, none⟩)] .returning w fun e u' w' =>
      e = .returned (.tuple #[]) ∧ u' = .returning ∧ w' = w.setCell ⟨p, 0, none⟩ (.int .i64 0) := by
  refine callsD_of_wpS Try.func70 rfl fun c₀ cs hu => ?_
  apply wpS_region
  simp [wpOpsS, go_sem, recoverD, hu, Try.ntmps70]
  refine (raised_nil w).mono ?_
  rintro e w' ⟨rfl, rfl⟩
  cases c₀
  simp_all [go_sem, bodyPostS, results, Try.results70]


set_option maxRecDepth 100000 in
set_option maxHeartbeats 1600000 in
theorem catch_Sub (p : Nat) (x : Value) (k : Int) (older : List PanicEntry) (w : World) (hp : w.cell? ⟨p, 0, none⟩ = some x) (fp : w.frozen? ⟨p, 0, none⟩ = false) :
    CallsD Try.prog 73 #[.pointer (some ⟨p, 0, none⟩)] (.panicking ({ v := .iface 92 (.int .i64 k), recovered := false } :: older)) w fun e u' w' =>
      e = .returned (.tuple #[]) ∧ u' = .panicking ({ v := .iface 92 (.int .i64 k), recovered := true } :: older) ∧ w' = w.setCell ⟨p, 0, none⟩ (.int .i64 k) := by
  refine callsD_of_wpS Try.func73 rfl fun c₀ cs hu => ?_
  apply wpS_region
  simp [wpOpsS, go_sem, recoverD, hu, Try.ntmps73]
  refine (raised_flaw k w).mono ?_
  rintro e w' ⟨rfl, rfl⟩
  simp [go_sem, hp, fp, bodyPostS, results, Try.results73]

set_option maxRecDepth 100000 in
set_option maxHeartbeats 1600000 in
theorem idle_Sub (p : Nat) (x : Value) (w : World) (hp : w.cell? ⟨p, 0, none⟩ = some x) (fp : w.frozen? ⟨p, 0, none⟩ = false) :
    CallsD Try.prog 73 #[.pointer (some ⟨p, 0, none⟩)] .returning w fun e u' w' =>
      e = .returned (.tuple #[]) ∧ u' = .returning ∧ w' = w.setCell ⟨p, 0, none⟩ (.int .i64 0) := by
  refine callsD_of_wpS Try.func73 rfl fun c₀ cs hu => ?_
  apply wpS_region
  simp [wpOpsS, go_sem, recoverD, hu, Try.ntmps73]
  refine (raised_nil w).mono ?_
  rintro e w' ⟨rfl, rfl⟩
  cases c₀
  simp_all [go_sem, bodyPostS, results, Try.results73]


set_option maxRecDepth 100000 in
set_option maxHeartbeats 1600000 in
theorem catch_Eq (p : Nat) (x : Value) (k : Int) (older : List PanicEntry) (w : World) (hp : w.cell? ⟨p, 0, none⟩ = some x) (fp : w.frozen? ⟨p, 0, none⟩ = false) :
    CallsD Try.prog 75 #[.pointer (some ⟨p, 0, none⟩)] (.panicking ({ v := .iface 92 (.int .i64 k), recovered := false } :: older)) w fun e u' w' =>
      e = .returned (.tuple #[]) ∧ u' = .panicking ({ v := .iface 92 (.int .i64 k), recovered := true } :: older) ∧ w' = w.setCell ⟨p, 0, none⟩ (.int .i64 k) := by
  refine callsD_of_wpS Try.func75 rfl fun c₀ cs hu => ?_
  apply wpS_region
  simp [wpOpsS, go_sem, recoverD, hu, Try.ntmps75]
  refine (raised_flaw k w).mono ?_
  rintro e w' ⟨rfl, rfl⟩
  simp [go_sem, hp, fp, bodyPostS, results, Try.results75]

set_option maxRecDepth 100000 in
set_option maxHeartbeats 1600000 in
theorem idle_Eq (p : Nat) (x : Value) (w : World) (hp : w.cell? ⟨p, 0, none⟩ = some x) (fp : w.frozen? ⟨p, 0, none⟩ = false) :
    CallsD Try.prog 75 #[.pointer (some ⟨p, 0, none⟩)] .returning w fun e u' w' =>
      e = .returned (.tuple #[]) ∧ u' = .returning ∧ w' = w.setCell ⟨p, 0, none⟩ (.int .i64 0) := by
  refine callsD_of_wpS Try.func75 rfl fun c₀ cs hu => ?_
  apply wpS_region
  simp [wpOpsS, go_sem, recoverD, hu, Try.ntmps75]
  refine (raised_nil w).mono ?_
  rintro e w' ⟨rfl, rfl⟩
  cases c₀
  simp_all [go_sem, bodyPostS, results, Try.results75]


set_option maxRecDepth 100000 in
set_option maxHeartbeats 1600000 in
theorem catch_Less (p : Nat) (x : Value) (k : Int) (older : List PanicEntry) (w : World) (hp : w.cell? ⟨p, 0, none⟩ = some x) (fp : w.frozen? ⟨p, 0, none⟩ = false) :
    CallsD Try.prog 77 #[.pointer (some ⟨p, 0, none⟩)] (.panicking ({ v := .iface 92 (.int .i64 k), recovered := false } :: older)) w fun e u' w' =>
      e = .returned (.tuple #[]) ∧ u' = .panicking ({ v := .iface 92 (.int .i64 k), recovered := true } :: older) ∧ w' = w.setCell ⟨p, 0, none⟩ (.int .i64 k) := by
  refine callsD_of_wpS Try.func77 rfl fun c₀ cs hu => ?_
  apply wpS_region
  simp [wpOpsS, go_sem, recoverD, hu, Try.ntmps77]
  refine (raised_flaw k w).mono ?_
  rintro e w' ⟨rfl, rfl⟩
  simp [go_sem, hp, fp, bodyPostS, results, Try.results77]

set_option maxRecDepth 100000 in
set_option maxHeartbeats 1600000 in
theorem idle_Less (p : Nat) (x : Value) (w : World) (hp : w.cell? ⟨p, 0, none⟩ = some x) (fp : w.frozen? ⟨p, 0, none⟩ = false) :
    CallsD Try.prog 77 #[.pointer (some ⟨p, 0, none⟩)] .returning w fun e u' w' =>
      e = .returned (.tuple #[]) ∧ u' = .returning ∧ w' = w.setCell ⟨p, 0, none⟩ (.int .i64 0) := by
  refine callsD_of_wpS Try.func77 rfl fun c₀ cs hu => ?_
  apply wpS_region
  simp [wpOpsS, go_sem, recoverD, hu, Try.ntmps77]
  refine (raised_nil w).mono ?_
  rintro e w' ⟨rfl, rfl⟩
  cases c₀
  simp_all [go_sem, bodyPostS, results, Try.results77]


set_option maxRecDepth 100000 in
set_option maxHeartbeats 1600000 in
theorem catch_First (p : Nat) (x : Value) (k : Int) (older : List PanicEntry) (w : World) (hp : w.cell? ⟨p, 0, none⟩ = some x) (fp : w.frozen? ⟨p, 0, none⟩ = false) :
    CallsD Try.prog 80 #[.pointer (some ⟨p, 0, none⟩)] (.panicking ({ v := .iface 92 (.int .i64 k), recovered := false } :: older)) w fun e u' w' =>
      e = .returned (.tuple #[]) ∧ u' = .panicking ({ v := .iface 92 (.int .i64 k), recovered := true } :: older) ∧ w' = w.setCell ⟨p, 0, none⟩ (.int .i64 k) := by
  refine callsD_of_wpS Try.func80 rfl fun c₀ cs hu => ?_
  apply wpS_region
  simp [wpOpsS, go_sem, recoverD, hu, Try.ntmps80]
  refine (raised_flaw k w).mono ?_
  rintro e w' ⟨rfl, rfl⟩
  simp [go_sem, hp, fp, bodyPostS, results, Try.results80]

set_option maxRecDepth 100000 in
set_option maxHeartbeats 1600000 in
theorem idle_First (p : Nat) (x : Value) (w : World) (hp : w.cell? ⟨p, 0, none⟩ = some x) (fp : w.frozen? ⟨p, 0, none⟩ = false) :
    CallsD Try.prog 80 #[.pointer (some ⟨p, 0, none⟩)] .returning w fun e u' w' =>
      e = .returned (.tuple #[]) ∧ u' = .returning ∧ w' = w.setCell ⟨p, 0, none⟩ (.int .i64 0) := by
  refine callsD_of_wpS Try.func80 rfl fun c₀ cs hu => ?_
  apply wpS_region
  simp [wpOpsS, go_sem, recoverD, hu, Try.ntmps80]
  refine (raised_nil w).mono ?_
  rintro e w' ⟨rfl, rfl⟩
  cases c₀
  simp_all [go_sem, bodyPostS, results, Try.results80]


set_option maxRecDepth 100000 in
set_option maxHeartbeats 1600000 in
theorem catch_Second (p : Nat) (x : Value) (k : Int) (older : List PanicEntry) (w : World) (hp : w.cell? ⟨p, 0, none⟩ = some x) (fp : w.frozen? ⟨p, 0, none⟩ = false) :
    CallsD Try.prog 82 #[.pointer (some ⟨p, 0, none⟩)] (.panicking ({ v := .iface 92 (.int .i64 k), recovered := false } :: older)) w fun e u' w' =>
      e = .returned (.tuple #[]) ∧ u' = .panicking ({ v := .iface 92 (.int .i64 k), recovered := true } :: older) ∧ w' = w.setCell ⟨p, 0, none⟩ (.int .i64 k) := by
  refine callsD_of_wpS Try.func82 rfl fun c₀ cs hu => ?_
  apply wpS_region
  simp [wpOpsS, go_sem, recoverD, hu, Try.ntmps82]
  refine (raised_flaw k w).mono ?_
  rintro e w' ⟨rfl, rfl⟩
  simp [go_sem, hp, fp, bodyPostS, results, Try.results82]

set_option maxRecDepth 100000 in
set_option maxHeartbeats 1600000 in
theorem idle_Second (p : Nat) (x : Value) (w : World) (hp : w.cell? ⟨p, 0, none⟩ = some x) (fp : w.frozen? ⟨p, 0, none⟩ = false) :
    CallsD Try.prog 82 #[.pointer (some ⟨p, 0, none⟩)] .returning w fun e u' w' =>
      e = .returned (.tuple #[]) ∧ u' = .returning ∧ w' = w.setCell ⟨p, 0, none⟩ (.int .i64 0) := by
  refine callsD_of_wpS Try.func82 rfl fun c₀ cs hu => ?_
  apply wpS_region
  simp [wpOpsS, go_sem, recoverD, hu, Try.ntmps82]
  refine (raised_nil w).mono ?_
  rintro e w' ⟨rfl, rfl⟩
  cases c₀
  simp_all [go_sem, bodyPostS, results, Try.results82]


set_option maxRecDepth 100000 in
set_option maxHeartbeats 1600000 in
theorem catch_Truth (p : Nat) (x : Value) (k : Int) (older : List PanicEntry) (w : World) (hp : w.cell? ⟨p, 0, none⟩ = some x) (fp : w.frozen? ⟨p, 0, none⟩ = false) :
    CallsD Try.prog 83 #[.pointer (some ⟨p, 0, none⟩)] (.panicking ({ v := .iface 92 (.int .i64 k), recovered := false } :: older)) w fun e u' w' =>
      e = .returned (.tuple #[]) ∧ u' = .panicking ({ v := .iface 92 (.int .i64 k), recovered := true } :: older) ∧ w' = w.setCell ⟨p, 0, none⟩ (.int .i64 k) := by
  refine callsD_of_wpS Try.func83 rfl fun c₀ cs hu => ?_
  apply wpS_region
  simp [wpOpsS, go_sem, recoverD, hu, Try.ntmps83]
  refine (raised_flaw k w).mono ?_
  rintro e w' ⟨rfl, rfl⟩
  simp [go_sem, hp, fp, bodyPostS, results, Try.results83]

set_option maxRecDepth 100000 in
set_option maxHeartbeats 1600000 in
theorem idle_Truth (p : Nat) (x : Value) (w : World) (hp : w.cell? ⟨p, 0, none⟩ = some x) (fp : w.frozen? ⟨p, 0, none⟩ = false) :
    CallsD Try.prog 83 #[.pointer (some ⟨p, 0, none⟩)] .returning w fun e u' w' =>
      e = .returned (.tuple #[]) ∧ u' = .returning ∧ w' = w.setCell ⟨p, 0, none⟩ (.int .i64 0) := by
  refine callsD_of_wpS Try.func83 rfl fun c₀ cs hu => ?_
  apply wpS_region
  simp [wpOpsS, go_sem, recoverD, hu, Try.ntmps83]
  refine (raised_nil w).mono ?_
  rintro e w' ⟨rfl, rfl⟩
  cases c₀
  simp_all [go_sem, bodyPostS, results, Try.results83]

end Go.Proofs.Ythfmbeecpjeegaa
