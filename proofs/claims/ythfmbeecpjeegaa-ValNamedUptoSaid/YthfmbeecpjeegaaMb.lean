/- The values that calls of their own make. -/
import Derived.Test.YthfmbeecpjeegaaMa
namespace Go.Proofs.Ythfmbeecpjeegaa
open Go.RowKit Go.Shelf
attribute [local go_sem] Oper.semAt_some

/-- What Make hands back, as a caller that stores it into a cell of its own meets it. -/
structure ResF (w : World) (q : Nat) (T : V) (err : Int) (S : Option Addr) (c : Nat) (w' : World) : Prop where
  r0 : w'.cell? ⟨q, 0, none⟩ = some (.int .i64 0)
  r1 : w'.cell? ⟨q, 1, none⟩ = some (.int .i64 0)
  r2 : w'.cell? ⟨q, 2, none⟩ = some (.slice none 0 0)
  f0 : w'.frozen? ⟨q, 0, none⟩ = false
  f1 : w'.frozen? ⟨q, 1, none⟩ = false
  f2 : w'.frozen? ⟨q, 2, none⟩ = false
  t0 : ((((w').setCell ⟨q, 0, none⟩ (.int .i64 T.k)).setCell ⟨q, 1, none⟩ (.int .i64 T.n)).setCell ⟨q, 2, none⟩ (.slice S T.l.length c)).cell? ⟨q, 0, none⟩ = some (.int .i64 T.k)
  t1 : ((((w').setCell ⟨q, 0, none⟩ (.int .i64 T.k)).setCell ⟨q, 1, none⟩ (.int .i64 T.n)).setCell ⟨q, 2, none⟩ (.slice S T.l.length c)).cell? ⟨q, 1, none⟩ = some (.int .i64 T.n)
  t2 : ((((w').setCell ⟨q, 0, none⟩ (.int .i64 T.k)).setCell ⟨q, 1, none⟩ (.int .i64 T.n)).setCell ⟨q, 2, none⟩ (.slice S T.l.length c)).cell? ⟨q, 2, none⟩ = some (.slice S T.l.length c)
  fin : Hid (MadeP w T err (.returned (.tuple #[.agg #[.int .i64 T.k, .int .i64 T.n, .slice S T.l.length c], .int .i64 err])) ((((w').setCell ⟨q, 0, none⟩ (.int .i64 T.k)).setCell ⟨q, 1, none⟩ (.int .i64 T.n)).setCell ⟨q, 2, none⟩ (.slice S T.l.length c)))
theorem MadeP.res {w W w' : World} {q : Nat} {T : V} {err : Int} {e : Ending} (h : MadeP W T err e w') (hq : Blk W q 25 #[.int .i64 0, .int .i64 0, .slice none 0 0]) (hb : Below w.heap.size w W) (hwq : w.heap.size ≤ q) :
    ∃ S c, e = .returned (.tuple #[.agg #[.int .i64 T.k, .int .i64 T.n, .slice S T.l.length c], .int .i64 err]) ∧ ResF w q T err S c w' := by
  obtain ⟨S, c, rfl, hi, hb'⟩ := h
  have hk := hq.keep (hb'.block _ hq.lt)
  obtain ⟨t0, t1, t2⟩ := set3_cells hk.cells3.1 hk.cells3.2.1 hk.cells3.2.2 (.int .i64 T.k) (.int .i64 T.n) (.slice S T.l.length c)
  exact ⟨S, c, rfl, hk.cells3.1, hk.cells3.2.1, hk.cells3.2.2, hk.frozen _, hk.frozen _, hk.frozen _, t0, t1, t2,
    Lib.hid ⟨S, c, rfl, made_end hi hb hb'.size (hb.trans (hb'.mono hb.size)) (keep_set3 (Keep.refl _ _) ⟨hwq, hq.lt⟩ _ _ _)⟩⟩


set_option maxRecDepth 100000 in
theorem Unit_ok (w : World) : Calls Try.prog 37 #[] w fun e w' => e = .returned (.agg #[.int .i64 1, .int .i64 0, .slice none 0 0]) ∧ Below w.heap.size w w' := by
  go_enter Try.func37, Try.ntmps37
  go_wp2_with fail
  exact bodyPost_ret (v := .agg #[.int .i64 1, .int .i64 0, .slice none 0 0]) (by simp [results, Try.results37, go_sem]) rfl ⟨rfl, (Below.refl _ w).alloc (Nat.le_refl _) _⟩


set_option maxRecDepth 100000 in
theorem Int_ok (n : Int) (w : World) : Calls Try.prog 38 #[.int .i64 n] w fun e w' => e = .returned (.agg #[.int .i64 2, .int .i64 n, .slice none 0 0]) ∧ Below w.heap.size w w' := by
  go_enter Try.func38, Try.ntmps38
  go_wp2_with fail
  exact bodyPost_ret (v := .agg #[.int .i64 2, .int .i64 n, .slice none 0 0]) (by simp [results, Try.results38, go_sem]) rfl ⟨rfl, (Below.refl _ w).alloc (Nat.le_refl _) _⟩


set_option maxRecDepth 100000 in
theorem Never_ok (w : World) : Calls Try.prog 40 #[] w fun e w' => e = .returned (.agg #[.int .i64 8, .int .i64 0, .slice none 0 0]) ∧ Below w.heap.size w w' := by
  go_enter Try.func40, Try.ntmps40
  go_wp2_with fail
  exact bodyPost_ret (v := .agg #[.int .i64 8, .int .i64 0, .slice none 0 0]) (by simp [results, Try.results40, go_sem]) rfl ⟨rfl, (Below.refl _ w).alloc (Nat.le_refl _) _⟩


set_option maxRecDepth 100000 in
theorem refInt_ok (n : Int) (w : World) : Calls Try.prog 39 #[.int .i64 n] w fun e w' => e = .returned (.agg #[.int .i64 2, .int .i64 n, .slice none 0 0]) ∧ Below w.heap.size w w' := by
  go_enter Try.func39, Try.ntmps39
  go_wp2_with fail
  exact bodyPost_ret (v := .agg #[.int .i64 2, .int .i64 n, .slice none 0 0]) (by simp [results, Try.results39, go_sem]) rfl ⟨rfl, (Below.refl _ w).alloc (Nat.le_refl _) _⟩


set_option maxRecDepth 100000 in
set_option maxHeartbeats 1600000 in
theorem Pair_ok {hi : Nat} {u v : Value} {T U : V} (w : World) (h : In w 0 hi u T) (h' : In w 0 hi v U) (hh : hi ≤ w.heap.size) :
    Calls Try.prog 27 #[u, v] w (MadeP w (makeV (.mk 3 0 [T, U])).1 (makeV (.mk 3 0 [T, U])).2) := by
  obtain ⟨A, ca, rfl, _, _, _⟩ := h.val
  obtain ⟨B, cb, rfl, _, _, _⟩ := h'.val
  obtain ⟨W3, hW3⟩ : ∃ W3, ((w.alloc (.cells #[.int .i64 T.k, .int .i64 T.n, .slice A T.l.length ca] 25)).alloc (.cells #[.int .i64 U.k, .int .i64 U.n, .slice B U.l.length cb] 25)).alloc (.cells #[.int .i64 0, .int .i64 0, .slice none 0 0] 25) = W3 := ⟨_, rfl⟩
  have hb3 : Below w.heap.size w W3 := by rw [← hW3]; exact below3 w _ _ _
  have hs3 : W3.heap.size = w.heap.size + 1 + 1 + 1 := by rw [← hW3]; simp
  have hq : Blk W3 (w.heap.size + 1 + 1) 25 #[.int .i64 0, .int .i64 0, .slice none 0 0] := by
    rw [← hW3]
    have := Blk.new ((w.alloc (.cells #[.int .i64 T.k, .int .i64 T.n, .slice A T.l.length ca] 25)).alloc (.cells #[.int .i64 U.k, .int .i64 U.n, .slice B U.l.length cb] 25)) 25 #[.int .i64 0, .int .i64 0, .slice none 0 0]
    rwa [World.size_alloc, World.size_alloc] at this
  have hls := Ls.pair (by omega) 25 (h.after (hb3.mono hh)) (h'.after (hb3.mono hh))
  have hM := (Make_ok 3 0 (by unfold W64; omega) w64_zero _ hls (by simp)).mono fun e w' q => q.res (w := w) (hq.alloc _) (hb3.alloc (by omega) _) (by omega)
  rw [← hW3] at hM
  simp only [World.size_alloc] at hM
  generalize (makeV (.mk 3 0 [T, U])).1 = T' at hM ⊢
  generalize (makeV (.mk 3 0 [T, U])).2 = err at hM ⊢
  clear hls hq hb3 h h' hW3
  go_enter Try.func27, Try.ntmps27
  go_wp2_with (go_at_call 24; refine hM.mono ?_; rintro e w' ⟨S, c, rfl, ⟨r0, r1, r2, f0, f1, f2, t0, t1, t2, HF⟩⟩)
  exact bodyPost_ret (v := .tuple #[.agg #[.int .i64 T'.k, .int .i64 T'.n, .slice S T'.l.length c], .int .i64 err]) (by simp [results, Try.results27, go_sem, t0, t1, t2]) rfl HF.out


set_option maxRecDepth 100000 in
set_option maxHeartbeats 1600000 in
theorem Send_ok {hi : Nat} {u v : Value} {T U : V} (w : World) (h : In w 0 hi u T) (h' : In w 0 hi v U) (hh : hi ≤ w.heap.size) :
    Calls Try.prog 30 #[u, v] w (MadeP w (makeV (.mk 5 0 [T, U])).1 (makeV (.mk 5 0 [T, U])).2) := by
  obtain ⟨A, ca, rfl, _, _, _⟩ := h.val
  obtain ⟨B, cb, rfl, _, _, _⟩ := h'.val
  obtain ⟨W3, hW3⟩ : ∃ W3, ((w.alloc (.cells #[.int .i64 T.k, .int .i64 T.n, .slice A T.l.length ca] 25)).alloc (.cells #[.int .i64 U.k, .int .i64 U.n, .slice B U.l.length cb] 25)).alloc (.cells #[.int .i64 0, .int .i64 0, .slice none 0 0] 25) = W3 := ⟨_, rfl⟩
  have hb3 : Below w.heap.size w W3 := by rw [← hW3]; exact below3 w _ _ _
  have hs3 : W3.heap.size = w.heap.size + 1 + 1 + 1 := by rw [← hW3]; simp
  have hq : Blk W3 (w.heap.size + 1 + 1) 25 #[.int .i64 0, .int .i64 0, .slice none 0 0] := by
    rw [← hW3]
    have := Blk.new ((w.alloc (.cells #[.int .i64 T.k, .int .i64 T.n, .slice A T.l.length ca] 25)).alloc (.cells #[.int .i64 U.k, .int .i64 U.n, .slice B U.l.length cb] 25)) 25 #[.int .i64 0, .int .i64 0, .slice none 0 0]
    rwa [World.size_alloc, World.size_alloc] at this
  have hls := Ls.pair (by omega) 25 (h.after (hb3.mono hh)) (h'.after (hb3.mono hh))
  have hM := (Make_ok 5 0 (by unfold W64; omega) w64_zero _ hls (by simp)).mono fun e w' q => q.res (w := w) (hq.alloc _) (hb3.alloc (by omega) _) (by omega)
  rw [← hW3] at hM
  simp only [World.size_alloc] at hM
  generalize (makeV (.mk 5 0 [T, U])).1 = T' at hM ⊢
  generalize (makeV (.mk 5 0 [T, U])).2 = err at hM ⊢
  clear hls hq hb3 h h' hW3
  go_enter Try.func30, Try.ntmps30
  go_wp2_with (go_at_call 24; refine hM.mono ?_; rintro e w' ⟨S, c, rfl, ⟨r0, r1, r2, f0, f1, f2, t0, t1, t2, HF⟩⟩)
  exact bodyPost_ret (v := .tuple #[.agg #[.int .i64 T'.k, .int .i64 T'.n, .slice S T'.l.length c], .int .i64 err]) (by simp [results, Try.results30, go_sem, t0, t1, t2]) rfl HF.out


set_option maxRecDepth 100000 in
set_option maxHeartbeats 1600000 in
theorem Recv_ok {hi : Nat} {u : Value} {T : V} (w : World) (h : In w 0 hi u T) (hh : hi ≤ w.heap.size) :
    Calls Try.prog 31 #[u] w (MadeP w (makeV (.mk 6 0 [T])).1 (makeV (.mk 6 0 [T])).2) := by
  obtain ⟨A, ca, rfl, _, _, _⟩ := h.val
  obtain ⟨W3, hW3⟩ : ∃ W3, (w.alloc (.cells #[.int .i64 T.k, .int .i64 T.n, .slice A T.l.length ca] 25)).alloc (.cells #[.int .i64 0, .int .i64 0, .slice none 0 0] 25) = W3 := ⟨_, rfl⟩
  have hb3 : Below w.heap.size w W3 := by rw [← hW3]; exact below2 w _ _
  have hs3 : W3.heap.size = w.heap.size + 1 + 1 := by rw [← hW3]; simp
  have hq : Blk W3 (w.heap.size + 1) 25 #[.int .i64 0, .int .i64 0, .slice none 0 0] := by
    rw [← hW3]
    have := Blk.new (w.alloc (.cells #[.int .i64 T.k, .int .i64 T.n, .slice A T.l.length ca] 25)) 25 #[.int .i64 0, .int .i64 0, .slice none 0 0]
    rwa [World.size_alloc] at this
  have hls := Ls.one (by omega) 25 (h.after (hb3.mono hh))
  have hM := (Make_ok 6 0 (by unfold W64; omega) w64_zero _ hls (by simp)).mono fun e w' q => q.res (w := w) (hq.alloc _) (hb3.alloc (by omega) _) (by omega)
  rw [← hW3] at hM
  simp only [World.size_alloc] at hM
  generalize (makeV (.mk 6 0 [T])).1 = T' at hM ⊢
  generalize (makeV (.mk 6 0 [T])).2 = err at hM ⊢
  clear hls hq hb3 h hW3
  go_enter Try.func31, Try.ntmps31
  go_wp2_with (go_at_call 24; refine hM.mono ?_; rintro e w' ⟨S, c, rfl, ⟨r0, r1, r2, f0, f1, f2, t0, t1, t2, HF⟩⟩)
  exact bodyPost_ret (v := .tuple #[.agg #[.int .i64 T'.k, .int .i64 T'.n, .slice S T'.l.length c], .int .i64 err]) (by simp [results, Try.results31, go_sem, t0, t1, t2]) rfl HF.out


set_option maxRecDepth 100000 in
set_option maxHeartbeats 1600000 in
theorem Always_ok {hi : Nat} {u : Value} {T : V} (w : World) (h : In w 0 hi u T) (hh : hi ≤ w.heap.size) :
    Calls Try.prog 32 #[u] w (MadeP w (makeV (.mk 7 0 [T])).1 (makeV (.mk 7 0 [T])).2) := by
  obtain ⟨A, ca, rfl, _, _, _⟩ := h.val
  obtain ⟨W3, hW3⟩ : ∃ W3, (w.alloc (.cells #[.int .i64 T.k, .int .i64 T.n, .slice A T.l.length ca] 25)).alloc (.cells #[.int .i64 0, .int .i64 0, .slice none 0 0] 25) = W3 := ⟨_, rfl⟩
  have hb3 : Below w.heap.size w W3 := by rw [← hW3]; exact below2 w _ _
  have hs3 : W3.heap.size = w.heap.size + 1 + 1 := by rw [← hW3]; simp
  have hq : Blk W3 (w.heap.size + 1) 25 #[.int .i64 0, .int .i64 0, .slice none 0 0] := by
    rw [← hW3]
    have := Blk.new (w.alloc (.cells #[.int .i64 T.k, .int .i64 T.n, .slice A T.l.length ca] 25)) 25 #[.int .i64 0, .int .i64 0, .slice none 0 0]
    rwa [World.size_alloc] at this
  have hls := Ls.one (by omega) 25 (h.after (hb3.mono hh))
  have hM := (Make_ok 7 0 (by unfold W64; omega) w64_zero _ hls (by simp)).mono fun e w' q => q.res (w := w) (hq.alloc _) (hb3.alloc (by omega) _) (by omega)
  rw [← hW3] at hM
  simp only [World.size_alloc] at hM
  generalize (makeV (.mk 7 0 [T])).1 = T' at hM ⊢
  generalize (makeV (.mk 7 0 [T])).2 = err at hM ⊢
  clear hls hq hb3 h hW3
  go_enter Try.func32, Try.ntmps32
  go_wp2_with (go_at_call 24; refine hM.mono ?_; rintro e w' ⟨S, c, rfl, ⟨r0, r1, r2, f0, f1, f2, t0, t1, t2, HF⟩⟩)
  exact bodyPost_ret (v := .tuple #[.agg #[.int .i64 T'.k, .int .i64 T'.n, .slice S T'.l.length c], .int .i64 err]) (by simp [results, Try.results32, go_sem, t0, t1, t2]) rfl HF.out


set_option maxRecDepth 100000 in
set_option maxHeartbeats 1600000 in
theorem Chan_ok (n : Int) (hn : W64 n) (w : World) : Calls Try.prog 28 #[.int .i64 n] w (MadeP w (makeV (.mk 4 n [])).1 (makeV (.mk 4 n [])).2) := by
  have hM := (Make_ok 4 n (by unfold W64; omega) hn (w.alloc (.cells #[.int .i64 0, .int .i64 0, .slice none 0 0] 25)) (Ls.nil _ 0 0 0 none (by simp [maxLen])) (Nat.zero_le _)).mono fun e w' q => q.res (w := w) (Blk.new w _ _) ((Below.refl _ w).alloc (Nat.le_refl _) _) (Nat.le_refl _)
  generalize (makeV (.mk 4 n [])).1 = T' at hM ⊢
  generalize (makeV (.mk 4 n [])).2 = err at hM ⊢
  clear hn
  go_enter Try.func28, Try.ntmps28
  go_wp2_with (go_at_call 24; refine hM.mono ?_; rintro e w' ⟨S, c, rfl, ⟨r0, r1, r2, f0, f1, f2, t0, t1, t2, HF⟩⟩)
  exact bodyPost_ret (v := .tuple #[.agg #[.int .i64 T'.k, .int .i64 T'.n, .slice S T'.l.length c], .int .i64 err]) (by simp [results, Try.results28, go_sem, t0, t1, t2]) rfl HF.out


set_option maxRecDepth 100000 in
set_option maxHeartbeats 1600000 in
theorem Cond_ok (n : Int) (hn : W64 n) (w : World) : Calls Try.prog 29 #[.int .i64 n] w (MadeP w (makeV (.mk 13 n [])).1 (makeV (.mk 13 n [])).2) := by
  have hM := (Make_ok 13 n (by unfold W64; omega) hn (w.alloc (.cells #[.int .i64 0, .int .i64 0, .slice none 0 0] 25)) (Ls.nil _ 0 0 0 none (by simp [maxLen])) (Nat.zero_le _)).mono fun e w' q => q.res (w := w) (Blk.new w _ _) ((Below.refl _ w).alloc (Nat.le_refl _) _) (Nat.le_refl _)
  generalize (makeV (.mk 13 n [])).1 = T' at hM ⊢
  generalize (makeV (.mk 13 n [])).2 = err at hM ⊢
  clear hn
  go_enter Try.func29, Try.ntmps29
  go_wp2_with (go_at_call 24; refine hM.mono ?_; rintro e w' ⟨S, c, rfl, ⟨r0, r1, r2, f0, f1, f2, t0, t1, t2, HF⟩⟩)
  exact bodyPost_ret (v := .tuple #[.agg #[.int .i64 T'.k, .int .i64 T'.n, .slice S T'.l.length c], .int .i64 err]) (by simp [results, Try.results29, go_sem, t0, t1, t2]) rfl HF.out


set_option maxRecDepth 100000 in
set_option maxHeartbeats 1600000 in
theorem Choose_ok {hi : Nat} {s : Value} {l : List V} (w : World) (h : Ls w 0 hi s l) (hh : hi ≤ w.heap.size) :
    Calls Try.prog 33 #[s] w (MadeP w (makeV (.mk 9 0 l)).1 (makeV (.mk 9 0 l)).2) := by
  obtain ⟨A, ca, rfl, _, _⟩ := h.form
  have hM := (Make_ok 9 0 (by unfold W64; omega) w64_zero (w.alloc (.cells #[.int .i64 0, .int .i64 0, .slice none 0 0] 25)) (h.after ((Below.refl _ w).alloc hh _)) (by simp; omega)).mono fun e w' q => q.res (w := w) (Blk.new w _ _) ((Below.refl _ w).alloc (Nat.le_refl _) _) (Nat.le_refl _)
  generalize (makeV (.mk 9 0 l)).1 = T' at hM ⊢
  generalize (makeV (.mk 9 0 l)).2 = err at hM ⊢
  clear h
  go_enter Try.func33, Try.ntmps33
  go_wp2_with (go_at_call 24; refine hM.mono ?_; rintro e w' ⟨S, c, rfl, ⟨r0, r1, r2, f0, f1, f2, t0, t1, t2, HF⟩⟩)
  exact bodyPost_ret (v := .tuple #[.agg #[.int .i64 T'.k, .int .i64 T'.n, .slice S T'.l.length c], .int .i64 err]) (by simp [results, Try.results33, go_sem, t0, t1, t2]) rfl HF.out


set_option maxRecDepth 100000 in
set_option maxHeartbeats 1600000 in
theorem Guard_ok {hi : Nat} {s : Value} {l : List V} (n : Int) (hn : W64 n) (w : World) (h : Ls w 0 hi s l) (hh : hi ≤ w.heap.size) :
    Calls Try.prog 35 #[.int .i64 n, s] w (MadeP w (makeV (.mk 11 n l)).1 (makeV (.mk 11 n l)).2) := by
  obtain ⟨A, ca, rfl, _, _⟩ := h.form
  have hM := (Make_ok 11 n (by unfold W64; omega) hn (w.alloc (.cells #[.int .i64 0, .int .i64 0, .slice none 0 0] 25)) (h.after ((Below.refl _ w).alloc hh _)) (by simp; omega)).mono fun e w' q => q.res (w := w) (Blk.new w _ _) ((Below.refl _ w).alloc (Nat.le_refl _) _) (Nat.le_refl _)
  generalize (makeV (.mk 11 n l)).1 = T' at hM ⊢
  generalize (makeV (.mk 11 n l)).2 = err at hM ⊢
  clear h hn
  go_enter Try.func35, Try.ntmps35
  go_wp2_with (go_at_call 24; refine hM.mono ?_; rintro e w' ⟨S, c, rfl, ⟨r0, r1, r2, f0, f1, f2, t0, t1, t2, HF⟩⟩)
  exact bodyPost_ret (v := .tuple #[.agg #[.int .i64 T'.k, .int .i64 T'.n, .slice S T'.l.length c], .int .i64 err]) (by simp [results, Try.results35, go_sem, t0, t1, t2]) rfl HF.out


set_option maxRecDepth 100000 in
set_option maxHeartbeats 1600000 in
theorem Nack_ok {hi : Nat} {s : Value} {l : List V} (n : Int) (hn : W64 n) (w : World) (h : Ls w 0 hi s l) (hh : hi ≤ w.heap.size) :
    Calls Try.prog 36 #[.int .i64 n, s] w (MadeP w (makeV (.mk 12 n l)).1 (makeV (.mk 12 n l)).2) := by
  obtain ⟨A, ca, rfl, _, _⟩ := h.form
  have hM := (Make_ok 12 n (by unfold W64; omega) hn (w.alloc (.cells #[.int .i64 0, .int .i64 0, .slice none 0 0] 25)) (h.after ((Below.refl _ w).alloc hh _)) (by simp; omega)).mono fun e w' q => q.res (w := w) (Blk.new w _ _) ((Below.refl _ w).alloc (Nat.le_refl _) _) (Nat.le_refl _)
  generalize (makeV (.mk 12 n l)).1 = T' at hM ⊢
  generalize (makeV (.mk 12 n l)).2 = err at hM ⊢
  clear h hn
  go_enter Try.func36, Try.ntmps36
  go_wp2_with (go_at_call 24; refine hM.mono ?_; rintro e w' ⟨S, c, rfl, ⟨r0, r1, r2, f0, f1, f2, t0, t1, t2, HF⟩⟩)
  exact bodyPost_ret (v := .tuple #[.agg #[.int .i64 T'.k, .int .i64 T'.n, .slice S T'.l.length c], .int .i64 err]) (by simp [results, Try.results36, go_sem, t0, t1, t2]) rfl HF.out

end Go.Proofs.Ythfmbeecpjeegaa
