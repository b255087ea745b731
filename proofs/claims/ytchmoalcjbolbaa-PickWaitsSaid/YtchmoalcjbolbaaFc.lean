/- PickFair, walked. -/
import Derived.Test.YtchmoalcjbolbaaFb
import Derived.Test.YtchmoalcjbolbaaW
namespace Go.Proofs.Ytchmoalcjbolbaa
open Go.RowKit Go.Shelf Go.Sort
attribute [local go_sem] Oper.semAt_some

theorem Fair_any (wd : Int) (v : Value) (l : List Tn) (w : World) (hl : Turns w v l) (hsm : Small l) : Calls Try.prog 18 #[.int .i64 wd, v] w (FairPost wd l w) := by
  by_cases h : wd < 1
  · obtain ⟨A, c, rfl, _, _⟩ := hl.form
    refine (Fair_neg wd A l.length c w h).mono ?_
    rintro e w' ⟨rfl, hb⟩
    exact ⟨by rw [fairOf_bad wd (.inl h)], hb⟩
  · exact Fair_ok wd v l w hl hsm (by omega)

set_option maxRecDepth 100000 in
set_option maxHeartbeats 3200000 in
theorem fairWalk (wd : Int) (v : Value) (l : List Tn) (w : World) (hl : Turns w v l) : Calls Try.prog 4 #[.int .i64 wd, v] w (WPost w) := by
  obtain ⟨A, c, rfl, hc1, hc2⟩ := hl.form
  have hf := few_ok _ l w hl
  go_enter Try.func4, Try.ntmps4
  go_wp2_with (go_at_call 14; refine hf.mono ?_; rintro e w1 ⟨⟨b, rfl, hb⟩, rfl⟩; cases b)
  · refine (works_at _).mono ?_
    rintro e w5 ⟨rfl, hb5⟩
    go_wp2_with fail
    go_ret
    exact ⟨rfl, hb5⟩
  · obtain ⟨h25, h12⟩ := hb trivial
    have hsm : Small l := ⟨by omega, fun x hx => by have := h12 x hx; omega⟩
    refine (Check_ok _ l _ hl (by omega)).mono ?_
    rintro e w2 ⟨rfl, hb2⟩
    have hl2 := hl.below hb2
    go_wp2_with (first
      | (go_at_call 16; refine (refCheck_ok _ l _ hl2).mono ?_; rintro e w3 ⟨rfl, hb3⟩; have hl3 := hl2.below hb3)
      | (go_at_call 17; refine (num_ok _ _).mono ?_; rintro e w4 ⟨rfl, rfl⟩)
      | (go_at_call 18; refine (Fair_any wd _ l _ hl3 hsm).mono ?_; rintro e w5 ⟨rfl, hb5⟩; have hl5 := hl3.below hb5)
      | (go_at_call 19; refine (refFair_ok wd _ l _ hl5).mono ?_; rintro e w6 ⟨rfl, hb6⟩)
      | (go_at_call 8; refine (works_at _).mono ?_; rintro e w7 ⟨rfl, hb7⟩))
    go_ret
    have s2 := hb2.size
    have s3 := hb3.size
    have s5 := hb5.size
    have s6 := hb6.size
    exact ⟨rfl, hb2.trans ((hb3.mono (by omega)).trans ((hb5.mono (by omega)).trans ((hb6.mono (by omega)).trans (hb7.mono (by omega)))))⟩
end Go.Proofs.Ytchmoalcjbolbaa
