/- Log and the iterators. -/
import Derived.Test.YtbojbhjaeekjpaaS
import Derived.Test.YtbojbhjaeekjpaaR
import Derived.Shelf.Abstract
import Derived.Shelf.RegionOpen
import Derived.OwnWalkIn
import Derived.TacticsInMore
import Derived.LoopNIn
import Derived.LoopIn
namespace Go.Proofs.Ytbojbhjaeekjpaa
open Go.RowKit Go.Shelf
attribute [local go_sem] Oper.semAt_some

/-- What Log tells: the accesses that are remembered, each behind its number. -/
def logList (h : List Acc) : List (Nat × Acc) := (h.zipIdx.map fun p => (p.2, p.1)).drop (h.length - 1024)
def encAcc (p : Nat × Acc) : Array Value := #[.int .u64 (p.1 : Int), p.2.val]

theorem logList_length (h : List Acc) : (logList h).length = min 1024 h.length := by simp [logList]; omega
theorem logList_get (h : List Acc) (i : Nat) (x : Acc) (hx : h[i]? = some x) (ho : h.length - 1024 ≤ i) : (logList h)[i - (h.length - 1024)]? = some (i, x) := by
  have hi : i < h.length := (List.getElem?_eq_some_iff.1 hx).1
  unfold logList
  rw [List.getElem?_drop, show h.length - 1024 + (i - (h.length - 1024)) = i from by omega]
  simp [List.getElem?_zipIdx, hx]
theorem logList_parts (h : List Acc) (i : Nat) (x : Acc) (hx : h[i]? = some x) (ho : h.length - 1024 ≤ i) :
    logList h = (logList h).take (i - (h.length - 1024)) ++ (i, x) :: (logList h).drop (i + 1 - (h.length - 1024)) ∧ (logList h).take (i + 1 - (h.length - 1024)) = (logList h).take (i - (h.length - 1024)) ++ [(i, x)] := by
  have hg := logList_get h i x hx ho
  obtain ⟨hlt, hge⟩ := List.getElem?_eq_some_iff.1 hg
  have e : i + 1 - (h.length - 1024) = i - (h.length - 1024) + 1 := by omega
  rw [e]
  refine ⟨?_, ?_⟩
  · conv => lhs; rw [← List.take_append_drop (i - (h.length - 1024)) (logList h)]
    rw [List.drop_eq_getElem_cons hlt, hge]
  · rw [List.take_succ_eq_append_getElem hlt, hge]

theorem flatMap_get (r : List Acc) (x : Acc) : ∀ m, r[m]? = some x →
    (r.flatMap Acc.cells)[m * 5]? = some (.int .i64 x.op) ∧ (r.flatMap Acc.cells)[m * 5 + 1]? = some (.int .i64 x.at_) ∧ (r.flatMap Acc.cells)[m * 5 + 2]? = some (.int .u64 x.old) ∧
    (r.flatMap Acc.cells)[m * 5 + 3]? = some (.int .u64 x.new) ∧ (r.flatMap Acc.cells)[m * 5 + 4]? = some (.bool x.did) := by
  induction r with
  | nil => intro m hm; simp at hm
  | cons y r ih =>
    intro m hm
    cases m with
    | zero =>
      simp at hm; subst hm
      simp [Acc.cells]
    | succ m =>
      have := ih m (by simpa using hm)
      have hc : (Acc.cells y).length = 5 := rfl
      have e : (m + 1) * 5 = m * 5 + 5 := by omega
      rw [List.flatMap_cons, e]
      refine ⟨?_, ?_, ?_, ?_, ?_⟩
      · rw [List.getElem?_append_right (by omega), hc, show m * 5 + 5 - 5 = m * 5 from by omega]; exact this.1
      · rw [List.getElem?_append_right (by omega), hc, show m * 5 + 5 + 1 - 5 = m * 5 + 1 from by omega]; exact this.2.1
      · rw [List.getElem?_append_right (by omega), hc, show m * 5 + 5 + 2 - 5 = m * 5 + 2 from by omega]; exact this.2.2.1
      · rw [List.getElem?_append_right (by omega), hc, show m * 5 + 5 + 3 - 5 = m * 5 + 3 from by omega]; exact this.2.2.2.1
      · rw [List.getElem?_append_right (by omega), hc, show m * 5 + 5 + 4 - 5 = m * 5 + 4 from by omega]; exact this.2.2.2.2

/-- A log's copy in memory: block bs holds the count and the slice; the box B, if any, points to it. -/
structure Snap60 (h : List Acc) (bs : Nat) (A : Option Addr) (c : Nat) (W : World) : Prop where
  blk : Blk W bs 60 #[.int .u64 (h.length : Int), .slice A (ring h).length c]
  row : Row W 52 5 (.slice A (ring h).length c) (ring h).length ((ring h).flatMap Acc.cells)
structure Snap46 (h : List Acc) (B bs : Nat) (A : Option Addr) (c : Nat) (W : World) : Prop where
  box : Blk W B 95 #[.pointer (some ⟨bs, 0, none⟩)]
  snap : Snap60 h bs A c W

set_option maxRecDepth 100000 in
set_option maxHeartbeats 3200000 in
theorem accesses1_seqs (h : List Acc) (B bs : Nat) (A : Option Addr) (c : Nat) (hc : h.length < 1000000000) :
    Seqs Try.prog 46 #[.pointer (some ⟨B, 0, none⟩)] encAcc (logList h) (Snap46 h B bs A c) := by
  intro n l J Jx W hJ hJx hS hY h0
  refine callsIn_wide.2 ?_
  have hs := hS _ _ h0
  have hlen := ring_length h
  have hl1 : (ring h).length ≤ h.length := by omega
  have hl2 : ((ring h).length : Int) ≤ (h.length : Int) := by omega
  have hstart : (h.length : Int) - ((ring h).length : Int) = ((h.length - 1024 : Nat) : Int) := by omega
  have c0 := hs.box.cell 0
  have d0 := hs.snap.blk.cell 0
  have d1 := hs.snap.blk.cell 1
  simp at c0 d0 d1
  have hcI : (h.length : Int) < 1000000000 := by omega
  have hm0 : (0 : Int) ≤ (h.length : Int) := by omega
  have hr0 : (0 : Int) ≤ ((ring h).length : Int) := by omega
  have Hs := Lib.hid hstart
  have Hl := Lib.hid hlen
  clear hlen hstart
  show Calls Try.prog 46 #[.func (.yield l) #[] #[], .pointer (some ⟨B, 0, none⟩)] W _
  go_enter Try.func46, Try.ntmps46
  go_wp2_with fail
  go_quiet (fail)
  go_wp2_with fail
  have h0' : J [] (W.drewN nq) := hJ [] W _ none h0 ⟨rfl, rfl, rfl, Nat.le_refl _, fun _ _ _ => rfl⟩ (fun r e => by cases e)
  clear c0 d0 d1 h0
  refine (wpIn_wide (n := 5)).1 ?_
  gi_loopw [4] (fun p wr => ∃ i : Nat, h.length - 1024 ≤ i ∧ i ≤ h.length ∧ p = .int .u64 (i : Int) ∧ J ((logList h).take (i - (h.length - 1024))) wr) (fun p _ => h.length - (intOf p).toNat)
  case atStart => exact ⟨h.length - 1024, Nat.le_refl _, Nat.sub_le _ _, by rw [Hs.out], by simpa using h0'⟩
  case round =>
    obtain ⟨i, ho, hi, rfl, hJs⟩ := hrel
    have hs := hS _ _ hJs
    have c0 := hs.box.cell 0
    have d0 := hs.snap.blk.cell 0
    have d1 := hs.snap.blk.cell 1
    simp at c0 d0 d1
    by_cases hlt : i < h.length
    · obtain ⟨x, hx⟩ : ∃ x, h[i]? = some x := ⟨_, List.getElem?_eq_getElem hlt⟩
      have hrg : (ring h)[i % 1024]? = some x := (ring_get h i hlt (by omega)).trans hx
      have hk : i % 1024 < (ring h).length := (List.getElem?_eq_some_iff.1 hrg).1
      obtain ⟨g, cap, cur, hv, hg, _⟩ := hs.snap.row.addr (by omega)
      simp only [Value.slice.injEq, true_and] at hv
      obtain ⟨rfl, rfl⟩ := hv
      obtain ⟨q0, q1, q2, q3, q4⟩ := flatMap_get (ring h) x (i % 1024) hrg
      have v0 := (hs.snap.row.cells rfl (i % 1024 * 5) (by omega)).1.trans q0
      have v1 := (hs.snap.row.cells rfl (i % 1024 * 5 + 1) (by omega)).1.trans q1
      have v2 := (hs.snap.row.cells rfl (i % 1024 * 5 + 2) (by omega)).1.trans q2
      have v3 := (hs.snap.row.cells rfl (i % 1024 * 5 + 3) (by omega)).1.trans q3
      have v4 := (hs.snap.row.cells rfl (i % 1024 * 5 + 4) (by omega)).1.trans q4
      have hp := logList_parts h i x hx ho
      obtain ⟨fn, tmps, assign, body, hy, hR⟩ := yield_depth 4 (hY _ (i, x) _ wr hp.1 hJs)
      have hi0 : (0 : Int) ≤ (i : Int) := by omega
      have hlt' : (i : Int) < (h.length : Int) := by omega
      have hkI : (i : Int) % 1024 < ((ring h).length : Int) := by omega
      have Hp := Lib.hid hp
      clear hp q0 q1 q2 q3 q4 hrg hx
      simp only [encAcc, Acc.val] at hy
      gi_wp2
      refine hR.mono ?_
      rintro e W3 (⟨rfl, hJ3, _⟩ | ⟨rfl, hJx3, _⟩)
      · gi_wp2
        go_roundw
        case rel => exact ⟨i + 1, by omega, by omega, by go_num, by rw [Hp.out.2]; exact hJ3⟩
        case measure => simp [intOf]; omega
      · gi_wp2
        refine bodyPost_ret (results_none rfl _ _ _) rfl ?_
        exact ⟨⟨_, rfl⟩, .inr ⟨_, ⟨_, by rw [List.append_assoc]; exact Hp.out.1.symm⟩, hJx3⟩⟩
    · gi_wp2
      go_end0
      have hie : i = h.length := by omega
      subst hie
      exact ⟨⟨_, rfl⟩, .inl (by rw [List.take_of_length_le (by rw [logList_length]; omega)] at hJs; exact hJs)⟩
end Go.Proofs.Ytbojbhjaeekjpaa
