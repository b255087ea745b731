/- SpinPlays: any call. -/
import Derived.Test.YthiaaapcbiameaaDoorKb
import Derived.Test.YthiaaapcbiameaaDoorKa7
import Derived.Test.YthiaaapcbiameaaDoorKa8
namespace Go.Proofs.YthiaaapcbiameaaDoor
open Go.RowKit Go.Shelf
attribute [local go_sem] Oper.semAt_some
set_option maxRecDepth 100000 in
set_option maxHeartbeats 3200000 in
theorem act3_8m {w : World} {b : Nat} {s : St} {v : Value} (x : ActD) (h : Sd b s s v w) (hx : x.what = 8) (hm : x.at_ = 9223372036854775807) :
    Calls Tryd.prog 10 #[.pointer (some ⟨b, 0, none⟩), v, x.val] w (ActPost b s w) := by
  obtain ⟨xw, xa, xn⟩ := x
  simp only at hx hm ⊢
  subst hx
  subst hm
  obtain ⟨A0, c0, A0', c0', rfl⟩ := h.ref.form
  have M5 := Mid.startG (x := ⟨8, 9223372036854775807, xn⟩) h #[.slice A0 s.cs.length c0, .int .i64 s.most, .slice A0' s.hist.length c0'] #[.slice A0 s.cs.length c0, .int .i64 s.most, .slice A0' s.hist.length c0'] #[.bool true]
  have v0 := M5.rs.cell 0
  have v1 := M5.rs.cell 1
  have v2 := M5.rs.cell 2
  have v3 := M5.rb.cell 0
  simp only [List.getElem?_toArray, List.getElem?_cons_zero, List.getElem?_cons_succ] at v0 v1 v2 v3
  have hfin := M5.post
  unfold ActD.val
  simp only
  clear M5
  go_enter Tryd.func10, Tryd.ntmps10
  go_wp2_with fail
  exact bodyPost_ret (v := .tuple #[(.agg #[.slice A0 s.cs.length c0, .int .i64 s.most, .slice A0' s.hist.length c0']), .bool true]) (by simp [results, Tryd.results10, go_sem, v0, v1, v2, v3]) rfl hfin

/-- What a call leaves of the state. -/
def actSt (s : St) (x : ActD) : St :=
  if x.what = 0 then (allocSt s 1).1 else if x.what = 1 ∨ x.what = 2 ∨ x.what = 3 then (doSt s 3 x.at_ 0 1).1 else if x.what = 4 ∨ x.what = 5 then (doSt s 3 x.at_ 1 0).1
  else if x.what = 6 then (doSt s 1 x.at_ 0 0).1 else if x.what = 7 then (triesSt x.at_ x.n.toNat s).1
  else if x.what = 8 then (if x.at_ = 9223372036854775807 then s else (statesSt s x.at_ (x.at_ + 1)).1) else if x.what = 9 then (doSt s 2 x.at_ (IntKind.u64.wrap x.n) 0).1 else s
theorem statesSt_hist (s : St) (j0 j1 : Int) : (statesSt s j0 j1).1.hist.length ≤ s.hist.length + 2 := by
  unfold statesSt
  split
  · have h1 := doSt_hist s 1 j0 0 0
    have h2 := doSt_hist (doSt s 1 j0 0 0).1 1 j1 0 0
    simp only; omega
  · simp
theorem allocSt_hist (s : St) (n : Int) : (allocSt s n).1.hist = s.hist := by
  unfold allocSt
  split
  · rfl
  · split <;> rfl
theorem actSt_hist (s : St) (x : ActD) (h7 : x.what = 7 → x.n ≤ 20) : (actSt s x).hist.length ≤ s.hist.length + 20 := by
  unfold actSt
  split
  · rw [allocSt_hist]; omega
  · split
    · have := doSt_hist s 3 x.at_ 0 1; omega
    · split
      · have := doSt_hist s 3 x.at_ 1 0; omega
      · split
        · have := doSt_hist s 1 x.at_ 0 0; omega
        · split
          · rename_i h
            have := triesSt_hist x.at_ x.n.toNat s
            have := h7 h
            omega
          · split
            · split
              · omega
              · have := statesSt_hist s x.at_ (x.at_ + 1); omega
            · split
              · have := doSt_hist s 2 x.at_ (IntKind.u64.wrap x.n) 0; omega
              · omega
theorem act3_ok {w : World} {b : Nat} {s : St} {v : Value} (x : ActD) (h : Sd b s s v w) (hh : s.hist.length < 1000000) (h7 : x.what = 7 → x.n ≤ 20) (hl : -9223372036854775808 ≤ x.at_) (hu : x.at_ ≤ 9223372036854775807) :
    Calls Tryd.prog 10 #[.pointer (some ⟨b, 0, none⟩), v, x.val] w (ActPost b (actSt s x) w) := by
  unfold actSt
  by_cases h0 : x.what = 0
  · rw [if_pos h0]; exact act3_0 x h h0
  rw [if_neg h0]
  by_cases h1 : x.what = 1 ∨ x.what = 2 ∨ x.what = 3
  · rw [if_pos h1]
    rcases h1 with e | e | e
    · exact act3_1 x h e (by omega)
    · exact act3_2 x h e (by omega)
    · exact act3_3 x h e (by omega)
  rw [if_neg h1]
  by_cases h4 : x.what = 4 ∨ x.what = 5
  · rw [if_pos h4]
    rcases h4 with e | e
    · exact act3_4 x h e (by omega)
    · exact act3_5 x h e (by omega)
  rw [if_neg h4]
  by_cases h6 : x.what = 6
  · rw [if_pos h6]; exact act3_6 x h h6 (by omega)
  rw [if_neg h6]
  by_cases e7 : x.what = 7
  · rw [if_pos e7]; exact act3_7 x h e7 hh (by have := h7 e7; omega)
  rw [if_neg e7]
  by_cases h8 : x.what = 8
  · rw [if_pos h8]
    by_cases hm : x.at_ = 9223372036854775807
    · rw [if_pos hm]; exact act3_8m x h h8 hm
    · rw [if_neg hm]; exact act3_8 x h h8 hh (by omega) hl
  rw [if_neg h8]
  by_cases h9 : x.what = 9
  · rw [if_pos h9]; exact act3_9 x h h9 (by omega)
  · rw [if_neg h9]; exact act3_d x h (by omega)
end Go.Proofs.YthiaaapcbiameaaDoor
