/- Log. -/
import Derived.Test.YtbojbhjaeekjpaaJ
namespace Go.Proofs.Ytbojbhjaeekjpaa
open Go.RowKit Go.Shelf

theorem Snap60.keep {h : List Acc} {bs : Nat} {A : Option Addr} {c B : Nat} {w w' : World} (hs : Snap60 h bs A c w) (hb : B ≤ bs) (ho : ∀ i, (Value.slice A (ring h).length c).ownBlock = some i → B ≤ i)
    (hk : ∀ k, B ≤ k → k < w.heap.size → w'.heap[k]? = w.heap[k]?) : Snap60 h bs A c w' :=
  ⟨hs.blk.keep (hk bs hb hs.blk.lt), hs.row.keep fun k hk' => hk k (ho k hk') (hs.row.lt k hk')⟩
theorem Snap60.below {h : List Acc} {bs : Nat} {A : Option Addr} {c : Nat} {w w' : World} (hs : Snap60 h bs A c w) (hk : Below w.heap.size w w') : Snap60 h bs A c w' :=
  ⟨hs.blk.keep (hk.block bs hs.blk.lt), hs.row.keep fun k hk' => hk.block k (hs.row.lt k hk')⟩

def LogPost (h : List Acc) (w : World) (e : Ending) (w' : World) : Prop :=
  ∃ bs A c, e = .returned (.func (.func 37) #[] #[.pointer (some ⟨bs, 0, none⟩)]) ∧ Snap60 h bs A c w' ∧ w.heap.size ≤ bs ∧ (∀ i, (Value.slice A (ring h).length c).ownBlock = some i → w.heap.size ≤ i) ∧ Below w.heap.size w w'

theorem cells_one (h : List Acc) : ∀ u ∈ h.flatMap Acc.cells, u.oneCell' = true := by
  intro u hu
  obtain ⟨x, _, hx⟩ := List.mem_flatMap.1 hu
  simp [Acc.cells] at hx
  rcases hx with rfl | rfl | rfl | rfl | rfl <;> rfl

theorem log_end {h : List Acc} {w w1 : World} {A : Option Addr} {c : Nat} (hr : Row w1 52 5 (.slice A (ring h).length c) (ring h).length ((ring h).flatMap Acc.cells))
    (ho : ∀ i, (Value.slice A (ring h).length c).ownBlock = some i → w.heap.size ≤ i) (hB : Below w.heap.size w w1) :
    LogPost h w (.returned (.func (.func 37) #[] #[.pointer (some ⟨w1.heap.size, 0, none⟩)])) (w1.alloc (.cells #[.int .u64 (h.length : Int), .slice A (ring h).length c] 60)) :=
  ⟨_, A, c, rfl, ⟨Blk.new w1 _ _, hr.alloc _⟩, hB.size, ho, hB.alloc hB.size _⟩

set_option maxRecDepth 100000 in
set_option maxHeartbeats 800000 in
theorem Log_are {F : Nat → Prop} {b : Nat} {s : St} (w : World) (h : Are F w b s) : Calls Try.prog 17 #[.pointer (some ⟨b, 0, none⟩)] w (LogPost s.hist w) := by
  have he := exists_are h
  obtain ⟨vl, vc, h⟩ := h
  have hsn := snapshot_any b s.hist.length (ring s.hist).length vl vc _ _ w h.blk h.last (cells_one _) (by rw [ring_length]; omega)
  go_enter Try.func17, Try.ntmps17
  go_wp2_with (first
    | (go_at_call 31; refine he.mono ?_; rintro e w' ⟨rfl, rfl⟩)
    | (go_at_call 36; refine hsn.mono ?_; rintro e w1 ⟨A, c, rfl, hr, ho, hB⟩))
  go_ret
  exact log_end hr ho hB

set_option maxHeartbeats 400000 in
theorem Log_void (v : Value) (w : World) (h : Void w v) : Calls Try.prog 17 #[v] w fun e w' => e = .returned (.func (.func 35) #[] #[]) ∧ w = w' := by
  go_enter Try.func17, Try.ntmps17
  go_wp2_with (go_at_call 31; refine (exists_void _ _ h).mono ?_; rintro e w' ⟨rfl, rfl⟩)
  go_ret
  exact ⟨rfl, rfl⟩

set_option maxHeartbeats 400000 in
theorem log1_seqs : Seqs Try.prog 35 #[] encAcc [] (fun _ => True) := by
  intro n l J Jx W hJ hJx hS hY h0
  refine callsIn_wide.2 ?_
  show Calls Try.prog 35 #[.func (.yield l) #[] #[]] W _
  go_enter Try.func35, Try.ntmps35
  go_wp2
  go_end0
  exact ⟨⟨_, rfl⟩, .inl h0⟩
end Go.Proofs.Ytbojbhjaeekjpaa
