/- The values that calls of their own make. -/
import Derived.Test.YtmfcecfcfihgaaaMa
namespace Go.Proofs.Ytmfcecfcfihgaaa
open Go.RowKit Go.Shelf
attribute [local go_sem] Oper.semAt_some

/-- What Make hands back, as a caller that stores it into a cell of its own meets it. -/
structure ResF (w : World) (q : Nat) (T : V) (err : Int) (S : Option Addr) (c : Nat) (w' : World) : Prop where
  r0 : w'.cell? ⟨q, 0, none⟩ = some (.int .i64 0)
  r1 : w'.cell? ⟨q, 1, none⟩ = some (.int .i64 0)
  r2 : w'.cell? ⟨q, 2, none⟩ = some (.slice none 0 0)
  f0 : w'.frozen? ⟨q, 0, none⟩ = false
  f1 : w'.frozen? ⟨q, 1, none⟩ = false
  f2 : w'.frozen? ⟨q, 2, none⟩ = false
  t0 : ((((w').setCell ⟨q, 0, none⟩ (.int .i64 T.k)).setCell ⟨q, 1, none⟩ (.int .i64 T.n)).setCell ⟨q, 2, none⟩ (.slice S T.l.length c)).cell? ⟨q, 0, none⟩ = some (.int .i64 T.k)
  t1 : ((((w').setCell ⟨q, 0, none⟩ (.int .i64 T.k)).setCell ⟨q, 1, none⟩ (.int .i64 T.n)).setCell ⟨q, 2, none⟩ (.slice S T.l.length c)).cell? ⟨q, 1, none⟩ = some (.int .i64 T.n)
  t2 : ((((w').setCell ⟨q, 0, none⟩ (.int .i64 T.k)).setCell ⟨q, 1, none⟩ (.int .i64 T.n)).setCell ⟨q, 2, none⟩ (.slice S T.l.length c)).cell? ⟨q, 2, none⟩ = some (.slice S T.l.length c)
  fin : Hid (MadeP w T err (.returned (.tuple #[.agg #[.int .i64 T.k, .int .i64 T.n, .slice S T.l.length c], .int .i64 err])) ((((w').setCell ⟨q, 0, none⟩ (.int .i64 T.k)).setCell ⟨q, 1, none⟩ (.int .i64 T.n)).setCell ⟨q, 2, none⟩ (.slice S T.l.length c)))
theorem MadeP.res {w W w' : World} {q : Nat} {T : V} {err : Int} {e : Ending} (h : MadeP W T err e w') (hq : Blk W q 36 #[.int .i64 0, .int .i64 0, .slice none 0 0]) (hb : Below w.heap.size w W) (hwq : w.heap.size ≤ q) :
    ∃ S c, e = .returned (.tuple #[.agg #[.int .i64 T.k, .int .i64 T.n, .slice S T.l.length c], .int .i64 err]) ∧ ResF w q T err S c w' := by
  obtain ⟨S, c, rfl, hi, hb'⟩ := h
  have hk := hq.keep (hb'.block _ hq.lt)
  obtain ⟨t0, t1, t2⟩ := set3_cells hk.cells3.1 hk.cells3.2.1 hk.cells3.2.2 (.int .i64 T.k) (.int .i64 T.n) (.slice S T.l.length c)
  exact ⟨S, c, rfl, hk.cells3.1, hk.cells3.2.1, hk.cells3.2.2, hk.frozen _, hk.frozen _, hk.frozen _, t0, t1, t2,
    Lib.hid ⟨S, c, rfl, made_end hi hb hb'.size (hb.trans (hb'.mono hb.size)) (keep_set3 (Keep.refl _ _) ⟨hwq, hq.lt⟩ _ _ _)⟩⟩


set_option maxRecDepth 100000 in
theorem Unit_ok (w : World) : Calls Try.prog 60 #[] w fun e w' => e = .returned (.agg #[.int .i64 1, .int .i64 0, .slice none 0 0]) ∧ Below w.heap.size w w' := by
  go_enter Try.func60, Try.ntmps60
  go_wp2_with fail
  exact bodyPost_ret (v := .agg #[.int .i64 1, .int .i64 0, .slice none 0 0]) (by simp [results, Try.results60, go_sem]) rfl ⟨rfl, (Below.refl _ w).alloc (Nat.le_refl _) _⟩


set_option maxRecDepth 100000 in
theorem Int_ok (n : Int) (w : World) : Calls Try.prog 61 #[.int .i64 n] w fun e w' => e = .returned (.agg #[.int .i64 2, .int .i64 n, .slice none 0 0]) ∧ Below w.heap.size w w' := by
  go_enter Try.func61, Try.ntmps61
  go_wp2_with fail
  exact bodyPost_ret (v := .agg #[.int .i64 2, .int .i64 n, .slice none 0 0]) (by simp [results, Try.results61, go_sem]) rfl ⟨rfl, (Below.refl _ w).alloc (Nat.le_refl _) _⟩


set_option maxRecDepth 100000 in
theorem Never_ok (w : World) : Calls Try.prog 62 #[] w fun e w' => e = .returned (.agg #[.int .i64 8, .int .i64 0, .slice none 0 0]) ∧ Below w.heap.size w w' := by
  go_enter Try.func62, Try.ntmps62
  go_wp2_with fail
  exact bodyPost_ret (v := .agg #[.int .i64 8, .int .i64 0, .slice none 0 0]) (by simp [results, Try.results62, go_sem]) rfl ⟨rfl, (Below.refl _ w).alloc (Nat.le_refl _) _⟩


set_option maxRecDepth 100000 in
theorem refInt_ok (n : Int) (w : World) : Calls Try.prog 78 #[.int .i64 n] w fun e w' => e = .returned (.agg #[.int .i64 2, .int .i64 n, .slice none 0 0]) ∧ Below w.heap.size w w' := by
  go_enter Try.func78, Try.ntmps78
  go_wp2_with fail
  exact bodyPost_ret (v := .agg #[.int .i64 2, .int .i64 n, .slice none 0 0]) (by simp [results, Try.results78, go_sem]) rfl ⟨rfl, (Below.refl _ w).alloc (Nat.le_refl _) _⟩


set_option maxRecDepth 100000 in
set_option maxHeartbeats 1600000 in
theorem Pair_ok {hi : Nat} {u v : Value} {T U : V} (w : World) (h : In w 0 hi u T) (h' : In w 0 hi v U) (hh : hi ≤ w.heap.size) :
    Calls Try.prog 65 #[u, v] w (MadeP w (makeV (.mk 3 0 [T, U])).1 (makeV (.mk 3 0 [T, U])).2) := by
  obtain ⟨A, ca, rfl, _, _, _⟩ := h.val
  obtain ⟨B, cb, rfl, _, _, _⟩ := h'.val
  obtain ⟨W3, hW3⟩ : ∃ W3, ((w.alloc (.cells #[.int .i64 T.k, .int .i64 T.n, .slice A T.l.length ca] 36)).alloc (.cells #[.int .i64 U.k, .int .i64 U.n, .slice B U.l.length cb] 36)).alloc (.cells #[.int .i64 0, .int .i64 0, .slice none 0 0] 36) = W3 := ⟨_, rfl⟩
  have hb3 : Below w.heap.size w W3 := by rw [← hW3]; exact below3 w _ _ _
  have hs3 : W3.heap.size = w.heap.size + 1 + 1 + 1 := by rw [← hW3]; simp
  have hq : Blk W3 (w.heap.size + 1 + 1) 36 #[.int .i64 0, .int .i64 0, .slice none 0 0] := by
    rw [← hW3]
    have := Blk.new ((w.alloc (.cells #[.int .i64 T.k, .int .i64 T.n, .slice A T.l.length ca] 36)).alloc (.cells #[.int .i64 U.k, .int .i64 U.n, .slice B U.l.length cb] 36)) 36 #[.int .i64 0, .int .i64 0, .slice none 0 0]
    rwa [World.size_alloc, World.size_alloc] at this
  have hls := Ls.pair (by omega) 36 (h.after (hb3.mono hh)) (h'.after (hb3.mono hh))
  have hM := (Make_ok 3 0 (by unfold W64; omega) w64_zero _ hls (by simp)).mono fun e w' q => q.res (w := w) (hq.alloc _) (hb3.alloc (by omega) _) (by omega)
  rw [← hW3] at hM
  simp only [World.size_alloc] at hM
  generalize (makeV (.mk 3 0 [T, U])).1 = T' at hM ⊢
  generalize (makeV (.mk 3 0 [T, U])).2 = err at hM ⊢
  clear hls hq hb3 h h' hW3
  go_enter Try.func65, Try.ntmps65
  go_wp2_with (go_at_call 123; refine hM.mono ?_; rintro e w' ⟨S, c, rfl, ⟨r0, r1, r2, f0, f1, f2, t0, t1, t2, HF⟩⟩)
  exact bodyPost_ret (v := .tuple #[.agg #[.int .i64 T'.k, .int .i64 T'.n, .slice S T'.l.length c], .int .i64 err]) (by simp [results, Try.results65, go_sem, t0, t1, t2]) rfl HF.out


set_option maxRecDepth 100000 in
set_option maxHeartbeats 1600000 in
theorem Send_ok {hi : Nat} {u v : Value} {T U : V} (w : World) (h : In w 0 hi u T) (h' : In w 0 hi v U) (hh : hi ≤ w.heap.size) :
    Calls Try.prog 67 #[u, v] w (MadeP w (makeV (.mk 5 0 [T, U])).1 (makeV (.mk 5 0 [T, U])).2) := by
  obtain ⟨A, ca, rfl, _, _, _⟩ := h.val
  obtain ⟨B, cb, rfl, _, _, _⟩ := h'.val
  obtain ⟨W3, hW3⟩ : ∃ W3, ((w.alloc (.cells #[.int .i64 T.k, .int .i64 T.n, .slice A T.l.length ca] 36)).alloc (.cells #[.int .i64 U.k, .int .i64 U.n, .slice B U.l.length cb] 36)).alloc (.cells #[.int .i64 0, .int .i64 0, .slice none 0 0] 36) = W3 := ⟨_, rfl⟩
  have hb3 : Below w.heap.size w W3 := by rw [← hW3]; exact below3 w _ _ _
  have hs3 : W3.heap.size = w.heap.size + 1 + 1 + 1 := by rw [← hW3]; simp
  have hq : Blk W3 (w.heap.size + 1 + 1) 36 #[.int .i64 0, .int .i64 0, .slice none 0 0] := by
    rw [← hW3]
    have := Blk.new ((w.alloc (.cells #[.int .i64 T.k, .int .i64 T.n, .slice A T.l.length ca] 36)).alloc (.cells #[.int .i64 U.k, .int .i64 U.n, .slice B U.l.length cb] 36)) 36 #[.int .i64 0, .int .i64 0, .slice none 0 0]
    rwa [World.size_alloc, World.size_alloc] at this
  have hls := Ls.pair (by omega) 36 (h.after (hb3.mono hh)) (h'.after (hb3.mono hh))
  have hM := (Make_ok 5 0 (by unfold W64; omega) w64_zero _ hls (by simp)).mono fun e w' q => q.res (w := w) (hq.alloc _) (hb3.alloc (by omega) _) (by omega)
  rw [← hW3] at hM
  simp only [World.size_alloc] at hM
  generalize (makeV (.mk 5 0 [T, U])).1 = T' at hM ⊢
  generalize (makeV (.mk 5 0 [T, U])).2 = err at hM ⊢
  clear hls hq hb3 h h' hW3
  go_enter Try.func67, Try.ntmps67
  go_wp2_with (go_at_call 123; refine hM.mono ?_; rintro e w' ⟨S, c, rfl, ⟨r0, r1, r2, f0, f1, f2, t0, t1, t2, HF⟩⟩)
  exact bodyPost_ret (v := .tuple #[.agg #[.int .i64 T'.k, .int .i64 T'.n, .slice S T'.l.length c], .int .i64 err]) (by simp [results, Try.results67, go_sem, t0, t1, t2]) rfl HF.out


set_option maxRecDepth 100000 in
set_option maxHeartbeats 1600000 in
theorem Chan_ok (n : Int) (hn : W64 n) (w : World) : Calls Try.prog 66 #[.int .i64 n] w (MadeP w (makeV (.mk 4 n [])).1 (makeV (.mk 4 n [])).2) := by
  have hM := (Make_ok 4 n (by unfold W64; omega) hn (w.alloc (.cells #[.int .i64 0, .int .i64 0, .slice none 0 0] 36)) (Ls.nil _ 0 0 0 none (by simp [maxLen])) (Nat.zero_le _)).mono fun e w' q => q.res (w := w) (Blk.new w _ _) ((Below.refl _ w).alloc (Nat.le_refl _) _) (Nat.le_refl _)
  generalize (makeV (.mk 4 n [])).1 = T' at hM ⊢
  generalize (makeV (.mk 4 n [])).2 = err at hM ⊢
  clear hn
  go_enter Try.func66, Try.ntmps66
  go_wp2_with (go_at_call 123; refine hM.mono ?_; rintro e w' ⟨S, c, rfl, ⟨r0, r1, r2, f0, f1, f2, t0, t1, t2, HF⟩⟩)
  exact bodyPost_ret (v := .tuple #[.agg #[.int .i64 T'.k, .int .i64 T'.n, .slice S T'.l.length c], .int .i64 err]) (by simp [results, Try.results66, go_sem, t0, t1, t2]) rfl HF.out


set_option maxRecDepth 100000 in
set_option maxHeartbeats 1600000 in
theorem Choose_ok {hi : Nat} {s : Value} {l : List V} (w : World) (h : Ls w 0 hi s l) (hh : hi ≤ w.heap.size) :
    Calls Try.prog 68 #[s] w (MadeP w (makeV (.mk 9 0 l)).1 (makeV (.mk 9 0 l)).2) := by
  obtain ⟨A, ca, rfl, _, _⟩ := h.form
  have hM := (Make_ok 9 0 (by unfold W64; omega) w64_zero (w.alloc (.cells #[.int .i64 0, .int .i64 0, .slice none 0 0] 36)) (h.after ((Below.refl _ w).alloc hh _)) (by simp; omega)).mono fun e w' q => q.res (w := w) (Blk.new w _ _) ((Below.refl _ w).alloc (Nat.le_refl _) _) (Nat.le_refl _)
  generalize (makeV (.mk 9 0 l)).1 = T' at hM ⊢
  generalize (makeV (.mk 9 0 l)).2 = err at hM ⊢
  clear h
  go_enter Try.func68, Try.ntmps68
  go_wp2_with (go_at_call 123; refine hM.mono ?_; rintro e w' ⟨S, c, rfl, ⟨r0, r1, r2, f0, f1, f2, t0, t1, t2, HF⟩⟩)
  exact bodyPost_ret (v := .tuple #[.agg #[.int .i64 T'.k, .int .i64 T'.n, .slice S T'.l.length c], .int .i64 err]) (by simp [results, Try.results68, go_sem, t0, t1, t2]) rfl HF.out


end Go.Proofs.Ytmfcecfcfihgaaa
