/- raised, and the functions that recover. -/
import Derived.Test.YtmfcecfcfihgaaaWh
namespace Go.Proofs.Ytmfcecfcfihgaaa
open Go.RowKit Go.Shelf
attribute [local go_sem] Oper.semAt_some

set_option maxRecDepth 100000 in
set_option maxHeartbeats 800000 in
theorem raised_nil (w : World) : Calls Try.prog 121 #[.nilIface] w fun e w' => e = .returned (.int .i64 0) ∧ w = w' := by
  go_enter Try.func121, Try.ntmps121
  go_wp2_with fail
  go_ret
  exact ⟨rfl, rfl⟩

set_option maxRecDepth 100000 in
set_option maxHeartbeats 800000 in
theorem raised_flaw (k : Int) (w : World) : Calls Try.prog 121 #[.iface 190 (.int .i64 k)] w fun e w' => e = .returned (.int .i64 k) ∧ w = w' := by
  have hta : ∀ w, (Instr.typeAssert (.iface 190 (.int .i64 k)) 20 190 true).run Try.prog w = .ok (.tuple #[.int .i64 k, .bool true]) w := fun w => by
    simp [Instr.typeAssert, run_underlying Try.underlying190, go_sem, Result.andThen]
  go_enter Try.func121, Try.ntmps121
  go_wp2_with fail
  go_ret
  exact ⟨rfl, rfl⟩


set_option maxRecDepth 100000 in
set_option maxHeartbeats 1600000 in
theorem catch_Check (p : Nat) (x : Value) (k : Int) (older : List PanicEntry) (w : World) (hp : w.cell? ⟨p, 0, none⟩ = some x) (fp : w.frozen? ⟨p, 0, none⟩ = false) :
    CallsD Try.prog 120 #[.pointer (some ⟨p, 0, none⟩)] (.panicking ({ v := .iface 190 (.int .i64 k), recovered := false } :: older)) w fun e u' w' =>
      e = .returned (.tuple #[]) ∧ u' = .panicking ({ v := .iface 190 (.int .i64 k), recovered := true } :: older) ∧ w' = w.setCell ⟨p, 0, none⟩ (.int .i64 k) := by
  refine callsD_of_wpS Try.func120 rfl fun c₀ cs hu => ?_
  apply wpS_region
  simp [wpOpsS, go_sem, recoverD, hu, Try.ntmps120]
  refine (raised_flaw k w).mono ?_
  rintro e w' ⟨rfl, rfl⟩
  simp [go_sem, hp, fp, bodyPostS, results, Try.results120]

set_option maxRecDepth 100000 in
set_option maxHeartbeats 1600000 in
theorem idle_Check (p : Nat) (x : Value) (w : World) (hp : w.cell? ⟨p, 0, none⟩ = some x) (fp : w.frozen? ⟨p, 0, none⟩ = false) :
    CallsD Try.prog 120 #[.pointer (some ⟨p, 0, none⟩)] .returning w fun e u' w' =>
      e = .returned (.tuple #[]) ∧ u' = .returning ∧ w' = w.setCell ⟨p, 0, none⟩ (.int .i64 0) := by
  refine callsD_of_wpS Try.func120 rfl fun c₀ cs hu => ?_
  apply wpS_region
  simp [wpOpsS, go_sem, recoverD, hu, Try.ntmps120]
  refine (raised_nil w).mono ?_
  rintro e w' ⟨rfl, rfl⟩
  cases c₀
  simp_all [go_sem, bodyPostS, results, Try.results120]


set_option maxRecDepth 100000 in
set_option maxHeartbeats 1600000 in
theorem catch_Make (p : Nat) (x : Value) (k : Int) (older : List PanicEntry) (w : World) (hp : w.cell? ⟨p, 0, none⟩ = some x) (fp : w.frozen? ⟨p, 0, none⟩ = false) :
    CallsD Try.prog 162 #[.pointer (some ⟨p, 0, none⟩)] (.panicking ({ v := .iface 190 (.int .i64 k), recovered := false } :: older)) w fun e u' w' =>
      e = .returned (.tuple #[]) ∧ u' = .panicking ({ v := .iface 190 (.int .i64 k), recovered := true } :: older) ∧ w' = w.setCell ⟨p, 0, none⟩ (.int .i64 k) := by
  refine callsD_of_wpS Try.func162 rfl fun c₀ cs hu => ?_
  apply wpS_region
  simp [wpOpsS, go_sem, recoverD, hu, Try.ntmps162]
  refine (raised_flaw k w).mono ?_
  rintro e w' ⟨rfl, rfl⟩
  simp [go_sem, hp, fp, bodyPostS, results, Try.results162]

set_option maxRecDepth 100000 in
set_option maxHeartbeats 1600000 in
theorem idle_Make (p : Nat) (x : Value) (w : World) (hp : w.cell? ⟨p, 0, none⟩ = some x) (fp : w.frozen? ⟨p, 0, none⟩ = false) :
    CallsD Try.prog 162 #[.pointer (some ⟨p, 0, none⟩)] .returning w fun e u' w' =>
      e = .returned (.tuple #[]) ∧ u' = .returning ∧ w' = w.setCell ⟨p, 0, none⟩ (.int .i64 0) := by
  refine callsD_of_wpS Try.func162 rfl fun c₀ cs hu => ?_
  apply wpS_region
  simp [wpOpsS, go_sem, recoverD, hu, Try.ntmps162]
  refine (raised_nil w).mono ?_
  rintro e w' ⟨rfl, rfl⟩
  cases c₀
  simp_all [go_sem, bodyPostS, results, Try.results162]


set_option maxRecDepth 100000 in
set_option maxHeartbeats 1600000 in
theorem catch_Add (p : Nat) (x : Value) (k : Int) (older : List PanicEntry) (w : World) (hp : w.cell? ⟨p, 0, none⟩ = some x) (fp : w.frozen? ⟨p, 0, none⟩ = false) :
    CallsD Try.prog 125 #[.pointer (some ⟨p, 0, none⟩)] (.panicking ({ v := .iface 190 (.int .i64 k), recovered := false } :: older)) w fun e u' w' =>
      e = .returned (.tuple #[]) ∧ u' = .panicking ({ v := .iface 190 (.int .i64 k), recovered := true } :: older) ∧ w' = w.setCell ⟨p, 0, none⟩ (.int .i64 k) := by
  refine callsD_of_wpS Try.func125 rfl fun c₀ cs hu => ?_
  apply wpS_region
  simp [wpOpsS, go_sem, recoverD, hu, Try.ntmps125]
  refine (raised_flaw k w).mono ?_
  rintro e w' ⟨rfl, rfl⟩
  simp [go_sem, hp, fp, bodyPostS, results, Try.results125]

set_option maxRecDepth 100000 in
set_option maxHeartbeats 1600000 in
theorem idle_Add (p : Nat) (x : Value) (w : World) (hp : w.cell? ⟨p, 0, none⟩ = some x) (fp : w.frozen? ⟨p, 0, none⟩ = false) :
    CallsD Try.prog 125 #[.pointer (some ⟨p, 0, none⟩)] .returning w fun e u' w' =>
      e = .returned (.tuple #[]) ∧ u' = .returning ∧ w' = w.setCell ⟨p, 0, none⟩ (.int .i64 0) := by
  refine callsD_of_wpS Try.func125 rfl fun c₀ cs hu => ?_
  apply wpS_region
  simp [wpOpsS, go_sem, recoverD, hu, Try.ntmps125]
  refine (raised_nil w).mono ?_
  rintro e w' ⟨rfl, rfl⟩
  cases c₀
  simp_all [go_sem, bodyPostS, results, Try.results125]


set_option maxRecDepth 100000 in
set_option maxHeartbeats 1600000 in
theorem catch_Sub (p : Nat) (x : Value) (k : Int) (older : List PanicEntry) (w : World) (hp : w.cell? ⟨p, 0, none⟩ = some x) (fp : w.frozen? ⟨p, 0, none⟩ = false) :
    CallsD Try.prog 128 #[.pointer (some ⟨p, 0, none⟩)] (.panicking ({ v := .iface 190 (.int .i64 k), recovered := false } :: older)) w fun e u' w' =>
      e = .returned (.tuple #[]) ∧ u' = .panicking ({ v := .iface 190 (.int .i64 k), recovered := true } :: older) ∧ w' = w.setCell ⟨p, 0, none⟩ (.int .i64 k) := by
  refine callsD_of_wpS Try.func128 rfl fun c₀ cs hu => ?_
  apply wpS_region
  simp [wpOpsS, go_sem, recoverD, hu, Try.ntmps128]
  refine (raised_flaw k w).mono ?_
  rintro e w' ⟨rfl, rfl⟩
  simp [go_sem, hp, fp, bodyPostS, results, Try.results128]

set_option maxRecDepth 100000 in
set_option maxHeartbeats 1600000 in
theorem idle_Sub (p : Nat) (x : Value) (w : World) (hp : w.cell? ⟨p, 0, none⟩ = some x) (fp : w.frozen? ⟨p, 0, none⟩ = false) :
    CallsD Try.prog 128 #[.pointer (some ⟨p, 0, none⟩)] .returning w fun e u' w' =>
      e = .returned (.tuple #[]) ∧ u' = .returning ∧ w' = w.setCell ⟨p, 0, none⟩ (.int .i64 0) := by
  refine callsD_of_wpS Try.func128 rfl fun c₀ cs hu => ?_
  apply wpS_region
  simp [wpOpsS, go_sem, recoverD, hu, Try.ntmps128]
  refine (raised_nil w).mono ?_
  rintro e w' ⟨rfl, rfl⟩
  cases c₀
  simp_all [go_sem, bodyPostS, results, Try.results128]


set_option maxRecDepth 100000 in
set_option maxHeartbeats 1600000 in
theorem catch_Eq (p : Nat) (x : Value) (k : Int) (older : List PanicEntry) (w : World) (hp : w.cell? ⟨p, 0, none⟩ = some x) (fp : w.frozen? ⟨p, 0, none⟩ = false) :
    CallsD Try.prog 134 #[.pointer (some ⟨p, 0, none⟩)] (.panicking ({ v := .iface 190 (.int .i64 k), recovered := false } :: older)) w fun e u' w' =>
      e = .returned (.tuple #[]) ∧ u' = .panicking ({ v := .iface 190 (.int .i64 k), recovered := true } :: older) ∧ w' = w.setCell ⟨p, 0, none⟩ (.int .i64 k) := by
  refine callsD_of_wpS Try.func134 rfl fun c₀ cs hu => ?_
  apply wpS_region
  simp [wpOpsS, go_sem, recoverD, hu, Try.ntmps134]
  refine (raised_flaw k w).mono ?_
  rintro e w' ⟨rfl, rfl⟩
  simp [go_sem, hp, fp, bodyPostS, results, Try.results134]

set_option maxRecDepth 100000 in
set_option maxHeartbeats 1600000 in
theorem idle_Eq (p : Nat) (x : Value) (w : World) (hp : w.cell? ⟨p, 0, none⟩ = some x) (fp : w.frozen? ⟨p, 0, none⟩ = false) :
    CallsD Try.prog 134 #[.pointer (some ⟨p, 0, none⟩)] .returning w fun e u' w' =>
      e = .returned (.tuple #[]) ∧ u' = .returning ∧ w' = w.setCell ⟨p, 0, none⟩ (.int .i64 0) := by
  refine callsD_of_wpS Try.func134 rfl fun c₀ cs hu => ?_
  apply wpS_region
  simp [wpOpsS, go_sem, recoverD, hu, Try.ntmps134]
  refine (raised_nil w).mono ?_
  rintro e w' ⟨rfl, rfl⟩
  cases c₀
  simp_all [go_sem, bodyPostS, results, Try.results134]


set_option maxRecDepth 100000 in
set_option maxHeartbeats 1600000 in
theorem catch_Less (p : Nat) (x : Value) (k : Int) (older : List PanicEntry) (w : World) (hp : w.cell? ⟨p, 0, none⟩ = some x) (fp : w.frozen? ⟨p, 0, none⟩ = false) :
    CallsD Try.prog 130 #[.pointer (some ⟨p, 0, none⟩)] (.panicking ({ v := .iface 190 (.int .i64 k), recovered := false } :: older)) w fun e u' w' =>
      e = .returned (.tuple #[]) ∧ u' = .panicking ({ v := .iface 190 (.int .i64 k), recovered := true } :: older) ∧ w' = w.setCell ⟨p, 0, none⟩ (.int .i64 k) := by
  refine callsD_of_wpS Try.func130 rfl fun c₀ cs hu => ?_
  apply wpS_region
  simp [wpOpsS, go_sem, recoverD, hu, Try.ntmps130]
  refine (raised_flaw k w).mono ?_
  rintro e w' ⟨rfl, rfl⟩
  simp [go_sem, hp, fp, bodyPostS, results, Try.results130]

set_option maxRecDepth 100000 in
set_option maxHeartbeats 1600000 in
theorem idle_Less (p : Nat) (x : Value) (w : World) (hp : w.cell? ⟨p, 0, none⟩ = some x) (fp : w.frozen? ⟨p, 0, none⟩ = false) :
    CallsD Try.prog 130 #[.pointer (some ⟨p, 0, none⟩)] .returning w fun e u' w' =>
      e = .returned (.tuple #[]) ∧ u' = .returning ∧ w' = w.setCell ⟨p, 0, none⟩ (.int .i64 0) := by
  refine callsD_of_wpS Try.func130 rfl fun c₀ cs hu => ?_
  apply wpS_region
  simp [wpOpsS, go_sem, recoverD, hu, Try.ntmps130]
  refine (raised_nil w).mono ?_
  rintro e w' ⟨rfl, rfl⟩
  cases c₀
  simp_all [go_sem, bodyPostS, results, Try.results130]


set_option maxRecDepth 100000 in
set_option maxHeartbeats 1600000 in
theorem catch_First (p : Nat) (x : Value) (k : Int) (older : List PanicEntry) (w : World) (hp : w.cell? ⟨p, 0, none⟩ = some x) (fp : w.frozen? ⟨p, 0, none⟩ = false) :
    CallsD Try.prog 136 #[.pointer (some ⟨p, 0, none⟩)] (.panicking ({ v := .iface 190 (.int .i64 k), recovered := false } :: older)) w fun e u' w' =>
      e = .returned (.tuple #[]) ∧ u' = .panicking ({ v := .iface 190 (.int .i64 k), recovered := true } :: older) ∧ w' = w.setCell ⟨p, 0, none⟩ (.int .i64 k) := by
  refine callsD_of_wpS Try.func136 rfl fun c₀ cs hu => ?_
  apply wpS_region
  simp [wpOpsS, go_sem, recoverD, hu, Try.ntmps136]
  refine (raised_flaw k w).mono ?_
  rintro e w' ⟨rfl, rfl⟩
  simp [go_sem, hp, fp, bodyPostS, results, Try.results136]

set_option maxRecDepth 100000 in
set_option maxHeartbeats 1600000 in
theorem idle_First (p : Nat) (x : Value) (w : World) (hp : w.cell? ⟨p, 0, none⟩ = some x) (fp : w.frozen? ⟨p, 0, none⟩ = false) :
    CallsD Try.prog 136 #[.pointer (some ⟨p, 0, none⟩)] .returning w fun e u' w' =>
      e = .returned (.tuple #[]) ∧ u' = .returning ∧ w' = w.setCell ⟨p, 0, none⟩ (.int .i64 0) := by
  refine callsD_of_wpS Try.func136 rfl fun c₀ cs hu => ?_
  apply wpS_region
  simp [wpOpsS, go_sem, recoverD, hu, Try.ntmps136]
  refine (raised_nil w).mono ?_
  rintro e w' ⟨rfl, rfl⟩
  cases c₀
  simp_all [go_sem, bodyPostS, results, Try.results136]


set_option maxRecDepth 100000 in
set_option maxHeartbeats 1600000 in
theorem catch_Truth (p : Nat) (x : Value) (k : Int) (older : List PanicEntry) (w : World) (hp : w.cell? ⟨p, 0, none⟩ = some x) (fp : w.frozen? ⟨p, 0, none⟩ = false) :
    CallsD Try.prog 138 #[.pointer (some ⟨p, 0, none⟩)] (.panicking ({ v := .iface 190 (.int .i64 k), recovered := false } :: older)) w fun e u' w' =>
      e = .returned (.tuple #[]) ∧ u' = .panicking ({ v := .iface 190 (.int .i64 k), recovered := true } :: older) ∧ w' = w.setCell ⟨p, 0, none⟩ (.int .i64 k) := by
  refine callsD_of_wpS Try.func138 rfl fun c₀ cs hu => ?_
  apply wpS_region
  simp [wpOpsS, go_sem, recoverD, hu, Try.ntmps138]
  refine (raised_flaw k w).mono ?_
  rintro e w' ⟨rfl, rfl⟩
  simp [go_sem, hp, fp, bodyPostS, results, Try.results138]

set_option maxRecDepth 100000 in
set_option maxHeartbeats 1600000 in
theorem idle_Truth (p : Nat) (x : Value) (w : World) (hp : w.cell? ⟨p, 0, none⟩ = some x) (fp : w.frozen? ⟨p, 0, none⟩ = false) :
    CallsD Try.prog 138 #[.pointer (some ⟨p, 0, none⟩)] .returning w fun e u' w' =>
      e = .returned (.tuple #[]) ∧ u' = .returning ∧ w' = w.setCell ⟨p, 0, none⟩ (.int .i64 0) := by
  refine callsD_of_wpS Try.func138 rfl fun c₀ cs hu => ?_
  apply wpS_region
  simp [wpOpsS, go_sem, recoverD, hu, Try.ntmps138]
  refine (raised_nil w).mono ?_
  rintro e w' ⟨rfl, rfl⟩
  cases c₀
  simp_all [go_sem, bodyPostS, results, Try.results138]

end Go.Proofs.Ytmfcecfcfihgaaa
