/- The chapter's rows: works. -/
import Derived.Test.YtbojbhjaeekjpaaW
namespace Go.Proofs.Ytbojbhjaeekjpaa
open Go.RowKit Go.Shelf
attribute [local go_sem] Oper.semAt_some

def h1 : List Acc := [⟨2, 1, 0, 7, true⟩]
def h2 : List Acc := [⟨2, 1, 0, 7, true⟩, ⟨1, 1, 7, 7, true⟩]
def h3 : List Acc := [⟨2, 1, 0, 7, true⟩, ⟨1, 1, 7, 7, true⟩, ⟨3, 1, 7, 9, true⟩]
def h4 : List Acc := [⟨2, 1, 0, 7, true⟩, ⟨1, 1, 7, 7, true⟩, ⟨3, 1, 7, 9, true⟩, ⟨3, 1, 9, 9, false⟩]
def h5 : List Acc := [⟨2, 1, 0, 7, true⟩, ⟨1, 1, 7, 7, true⟩, ⟨3, 1, 7, 9, true⟩, ⟨3, 1, 9, 9, false⟩, ⟨4, 1, 9, 8, true⟩]
def h6 : List Acc := [⟨2, 1, 0, 7, true⟩, ⟨1, 1, 7, 7, true⟩, ⟨3, 1, 7, 9, true⟩, ⟨3, 1, 9, 9, false⟩, ⟨4, 1, 9, 8, true⟩, ⟨1, 1, 8, 8, true⟩]

section
variable {F : Nat → Prop} {w0 w w' : World} {b : Nat} {s s' : St}
theorem k1 (h : WS F w0 w b ⟨3, [], []⟩) : Calls Try.prog 15 #[.pointer (some ⟨b, 0, none⟩), .int .i64 2] w fun e w' => e = .returned (.tuple #[.int .i64 0, .int .i64 0]) ∧ WS F w0 w' b ⟨3, [0, 0], []⟩ := Alloc_do 2 h
theorem k2 (h : WS F w0 w b ⟨3, [0, 0], []⟩) : Calls Try.prog 15 #[.pointer (some ⟨b, 0, none⟩), .int .i64 2] w fun e w' => e = .returned (.tuple #[.int .i64 0, .int .i64 6]) ∧ WS F w0 w' b ⟨3, [0, 0], []⟩ := Alloc_do 2 h
theorem k3 (h : WS F w0 w b ⟨3, [0, 0], []⟩) : Calls Try.prog 15 #[.pointer (some ⟨b, 0, none⟩), .int .i64 0] w fun e w' => e = .returned (.tuple #[.int .i64 2, .int .i64 0]) ∧ WS F w0 w' b ⟨3, [0, 0], []⟩ := Alloc_do 0 h
theorem k4 (h : WS F w0 w b ⟨3, [0, 0], []⟩) : Calls Try.prog 15 #[.pointer (some ⟨b, 0, none⟩), .int .i64 (-1)] w fun e w' => e = .returned (.tuple #[.int .i64 0, .int .i64 2]) ∧ WS F w0 w' b ⟨3, [0, 0], []⟩ := Alloc_do (-1) h
theorem k5 (h : WS F w0 w b ⟨3, [0, 0], []⟩) : Calls Try.prog 16 #[.pointer (some ⟨b, 0, none⟩), .int .i64 1, .int .u64 7] w fun e w' => e = .returned (.int .i64 0) ∧ WS F w0 w' b ⟨3, [0, 7], h1⟩ := Store_do 1 7 h (by decide)
theorem k6 (h : WS F w0 w b ⟨3, [0, 7], h1⟩) : Calls Try.prog 22 #[.pointer (some ⟨b, 0, none⟩), .int .i64 1] w fun e w' => e = .returned (.tuple #[.int .u64 7, .int .i64 0]) ∧ WS F w0 w' b ⟨3, [0, 7], h2⟩ := Load_do 1 h (by decide)
theorem k7 (h : WS F w0 w b ⟨3, [0, 7], h2⟩) : Calls Try.prog 22 #[.pointer (some ⟨b, 0, none⟩), .int .i64 2] w fun e w' => e = .returned (.tuple #[.int .u64 0, .int .i64 4]) ∧ WS F w0 w' b ⟨3, [0, 7], h2⟩ := Load_do 2 h (by decide)
theorem k8 (h : WS F w0 w b ⟨3, [0, 7], h2⟩) : Calls Try.prog 23 #[.pointer (some ⟨b, 0, none⟩), .int .i64 1, .int .u64 7, .int .u64 9] w fun e w' => e = .returned (.tuple #[.int .u64 7, .bool true, .int .i64 0]) ∧ WS F w0 w' b ⟨3, [0, 9], h3⟩ := Swap_do 1 7 9 h (by decide)
theorem k9 (h : WS F w0 w b ⟨3, [0, 9], h3⟩) : Calls Try.prog 23 #[.pointer (some ⟨b, 0, none⟩), .int .i64 1, .int .u64 7, .int .u64 8] w fun e w' => e = .returned (.tuple #[.int .u64 9, .bool false, .int .i64 0]) ∧ WS F w0 w' b ⟨3, [0, 9], h4⟩ := Swap_do 1 7 8 h (by decide)
theorem wrap8 : IntKind.u64.wrap (9 + 18446744073709551615) = 8 := by decide +kernel
theorem k10 (h : WS F w0 w b ⟨3, [0, 9], h4⟩) : Calls Try.prog 24 #[.pointer (some ⟨b, 0, none⟩), .int .i64 1, .int .u64 18446744073709551615] w fun e w' => e = .returned (.tuple #[.int .u64 9, .int .i64 0]) ∧ WS F w0 w' b ⟨3, [0, 8], h5⟩ := by
  have := Add_do 1 18446744073709551615 h (by decide)
  have e : doSt ⟨3, [0, 9], h4⟩ 4 1 18446744073709551615 0 = (⟨3, [0, 8], h5⟩, ⟨4, 1, 9, 8, true⟩, 0) := by
    unfold doSt accOf newOf
    rw [if_pos (by decide)]
    have e1 : St.at_ ⟨3, [0, 9], h4⟩ (Int.toNat 1) = 9 := rfl
    simp only [e1, wrap8]
    rfl
  rw [e] at this
  exact this
theorem k11 (h : WS F w0 w b ⟨3, [0, 8], h5⟩) : Calls Try.prog 22 #[.pointer (some ⟨b, 0, none⟩), .int .i64 1] w fun e w' => e = .returned (.tuple #[.int .u64 8, .int .i64 0]) ∧ WS F w0 w' b ⟨3, [0, 8], h6⟩ := Load_do 1 h (by decide)
theorem k12 (h : WS F w0 w b s) : Calls Try.prog 10 #[.int .i64 0] w fun e w' => e = .returned (.tuple #[.pointer none, .int .i64 2]) ∧ WS F w0 w' b s := (New_err 0 w (by decide)).mono fun _ _ ⟨he, hB⟩ => ⟨he, h.below hB⟩
theorem k13 (h : WS F w0 w b s) : Calls Try.prog 10 #[.int .i64 65537] w fun e w' => e = .returned (.tuple #[.pointer none, .int .i64 2]) ∧ WS F w0 w' b s := (New_err 65537 w (by decide)).mono fun _ _ ⟨he, hB⟩ => ⟨he, h.below hB⟩
end
end Go.Proofs.Ytbojbhjaeekjpaa
