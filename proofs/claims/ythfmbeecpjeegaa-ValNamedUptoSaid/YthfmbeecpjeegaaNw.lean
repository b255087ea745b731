/- Wrap; the law's own closure. -/
import Derived.Test.YthfmbeecpjeegaaEg
import Derived.Test.YthfmbeecpjeegaaMb
import Derived.Test.YthfmbeecpjeegaaUf
namespace Go.Proofs.Ythfmbeecpjeegaa
open Go.RowKit Go.Shelf
attribute [local go_sem] Oper.semAt_some

set_option maxRecDepth 100000 in
set_option maxHeartbeats 3200000 in
theorem Wrap_ok {hi : Nat} {u s : Value} {T : V} {l : List V} (n : Int) (hn : W64 n) (w : World) (h : In w 0 hi u T) (hs : Ls w 0 hi s l) (hh : hi ≤ w.heap.size) (hl : l.length ≤ 1000) :
    Calls Try.prog 34 #[.int .i64 n, u, s] w (MadeP w (makeV (.mk 10 n (T :: l))).1 (makeV (.mk 10 n (T :: l))).2) := by
  obtain ⟨i0, hi0, hz0, hz1, hz2⟩ := info_parts valInfo
  obtain ⟨A, ca, rfl, _, _, _⟩ := h.val
  obtain ⟨D, d, rfl, hd1, hd2⟩ := hs.form
  obtain ⟨zs, henz, hz⟩ := hs.enc
  have hS : ∀ W', Below w.heap.size w W' → (l.length ≠ 0 → ∃ p, D = some p ∧ ∀ j y, zs[j]? = some y → W'.cell? (p.add j) = some y) := by
    intro W' hb hne
    obtain ⟨pb, po, hp, hpb, hc⟩ := hz hne
    refine ⟨_, hp, fun j y hy => ?_⟩
    rw [Addr.add_lit]
    exact (cell_same (p := ⟨pb, po + j, none⟩) (hb.block pb (by omega))).trans (hc j y hy)
  have HS := Lib.hid hS
  have HE := Lib.hid henz
  have HO := Lib.hid henz.one_cell
  have HL := Lib.hid henz.len
  have HI := Lib.hid h
  have HH := Lib.hid hh
  obtain ⟨T', err, hp⟩ : ∃ T' err, makeV (.mk 10 n (T :: l)) = (T', err) := ⟨_, _, rfl⟩
  have HP := Lib.hid hp
  rw [hp]
  unfold maxLen at hd2
  clear h hs hz hS henz hh hp
  simp only
  go_enter Try.func34, Try.ntmps34
  go_wp2_with (first
    | (at_builtin
       refine wpList_append_src _ rfl (.tmp 10) (.tmp 11) 23 rfl 25 i0 (.agg #[.int .i64 0, .int .i64 0, .slice none 0 0]) 3 40 Try.underlying23 hi0 hz0 hz1 hz2 rfl (.slice (some ⟨w.heap.size + 1 + 1, 0, none⟩) 1 1) 1 [.int .i64 T.k, .int .i64 T.n, .slice A T.l.length ca] rfl (Row.made_at ((w.alloc _).alloc _) _ (by simp) 25 3 1 #[.int .i64 T.k, .int .i64 T.n, .slice A T.l.length ca] _ rfl (by unfold maxLen; omega) rfl) _ l.length _ zs rfl HL.out (HS.out _ (below3 w _ _ _)) HO.out (by unfold maxLen; omega) (by omega) ?_
       intro v1 w1 hr1 hg1 ho1
       obtain ⟨A1, cc1, rfl, _, _⟩ := hr1.form
       have hb1 : Below (w.heap.size + 1 + 1) ((w.alloc (.cells #[.int .i64 T.k, .int .i64 T.n, .slice A T.l.length ca] 25)).alloc (.cells #[.int .i64 0, .int .i64 0, .slice none 0 0] 25)) w1 := below_grown ((Below.refl _ _).alloc (by simp) _) hg1 (by simp) (own_lit (by omega))
       have hbw : Below w.heap.size w w1 := (below2 w _ _).trans (hb1.mono (by omega))
       have hq0 : Blk ((w.alloc (.cells #[.int .i64 T.k, .int .i64 T.n, .slice A T.l.length ca] 25)).alloc (.cells #[.int .i64 0, .int .i64 0, .slice none 0 0] 25)) (w.heap.size + 1) 25 #[.int .i64 0, .int .i64 0, .slice none 0 0] := (by have := Blk.new (w.alloc (.cells #[.int .i64 T.k, .int .i64 T.n, .slice A T.l.length ca] 25)) 25 #[.int .i64 0, .int .i64 0, .slice none 0 0]; rwa [World.size_alloc] at this)
       have hq := hq0.keep (hb1.block _ (by omega))
       have hls := hr1.ls (l := T :: l) (by simp; omega) (show Enc w1 hi (T :: l) _ from ⟨_, zs, rfl, HI.out.after (hbw.mono HH.out), HE.out.keep (fun b hb => hbw.block b (Nat.lt_of_lt_of_le hb HH.out))⟩) (Nat.le_trans HH.out hbw.size)
       have hM := (Make_ok 10 n (by unfold W64; omega) hn w1 hls (Nat.le_refl _)).mono (fun e w' q => q.res (w := w) hq hbw (by omega))
       rw [HP.out] at hM
       have HM := Lib.hid hM
       clear hr1 hg1 ho1 hb1 hbw hq0 hq hls hM)
    | (go_at_call 24; refine HM.out.mono ?_; rintro e w2 ⟨S, c, rfl, ⟨r0, r1, r2, f0, f1, f2, t0, t1, t2, HF⟩⟩))
  exact bodyPost_ret (v := .tuple #[.agg #[.int .i64 T'.k, .int .i64 T'.n, .slice S T'.l.length c], .int .i64 err]) (by simp [results, Try.results34, go_sem, t0, t1, t2]) rfl HF.out

set_option maxRecDepth 100000 in
set_option maxHeartbeats 1600000 in
theorem of_ok (k n err : Int) (S : Option Addr) (m c : Nat) (w : World) : Calls Try.prog 26 #[.agg #[.int .i64 k, .int .i64 n, .slice S m c], .int .i64 err] w fun e w' => e = .returned (.agg #[.int .i64 k, .int .i64 n, .slice S m c, .int .i64 err]) ∧ Below w.heap.size w w' := by
  go_enter Try.func26, Try.ntmps26
  go_wp2_with fail
  exact bodyPost_ret (v := .agg #[.int .i64 k, .int .i64 n, .slice S m c, .int .i64 err]) (by simp [results, Try.results26, go_sem]) rfl ⟨rfl, below2 w _ _⟩
end Go.Proofs.Ythfmbeecpjeegaa
