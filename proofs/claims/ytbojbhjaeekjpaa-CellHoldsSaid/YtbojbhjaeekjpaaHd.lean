/- The law CellHolds: its walk. -/
import Derived.Test.YtbojbhjaeekjpaaHr
namespace Go.Proofs.Ytbojbhjaeekjpaa
open Go.RowKit Go.Shelf
attribute [local go_sem] Oper.semAt_some

theorem quiet_left {P : Program} {f : FuncId} {args : Array Value} {w : World} {n : Nat} {v : Value} (h : Calls P f args (w.drewN n) fun e w' => e = .returned v ∧ w.drewN n = w') :
    Calls P f args (w.drewN n) fun e w' => e = .returned v ∧ ∃ k, w' = w.drewN k := h.mono fun _ _ ⟨he, hm⟩ => ⟨he, n, hm.symm⟩

/-- Between two rounds over the log. -/
structure RI (W0 : World) (gh N m : Nat) (pre : List (Nat × Acc)) (W : World) : Prop where
  keep : Keep (fun k => k = gh ∨ k = N) W0 W
  num : Blk W N 3 #[.int .i64 (pre.length : Int)]
  has : Row W 38 1 (.slice (some ⟨gh, 0, none⟩) m m) m ((hasOf m (pre.map (·.2))).map (Value.int .u64))
theorem RI.own (W0 : World) (gh N m : Nat) : OwnFrom W0.heap.size (RI W0 gh N m) := fun s X Y row hs hg hr => by
  have cells : ∀ k (t : TypeId) (cs : Array Value), Blk X k t cs → Y.heap[k]? = X.heap[k]? := fun k t cs hb => hg.block k hb.lt (fun e => by
    obtain ⟨_, o, ho, hc⟩ := hr _ e.symm
    rw [show X.heap[k]? = some (Obj.cells cs t (0, 0)) from hb] at ho
    cases ho; cases hc)
  refine ⟨hs.keep.grown hg (fun k e => .inr (hr k e).1), hs.num.keep (cells _ _ _ hs.num), hs.has.keep (fun k hk => ?_)⟩
  rcases hs.has.2 with ⟨h0, _⟩ | ⟨g, cap, cur, hv, hb, _⟩
  · cases h0
  · rw [hv] at hk
    simp [Value.ownBlock] at hk
    subst hk
    exact cells _ _ _ hb
theorem RI.alloc {W0 W : World} {gh N m : Nat} {pre : List (Nat × Acc)} (h : RI W0 gh N m pre W) (o : Obj) : RI W0 gh N m pre (W.alloc o) := ⟨h.keep.alloc o, h.num.alloc o, h.has.alloc o⟩
theorem RI.next {W0 W : World} {gh N m jj : Nat} {pre : List (Nat × Acc)} {p : Nat × Acc} (h : RI W0 gh N m pre W) (hj : p.2.at_ = (jj : Int)) (hne : gh ≠ N) :
    RI W0 gh N m (pre ++ [p]) ((W.setCell ⟨gh, jj, none⟩ (.int .u64 p.2.new)).setCell ⟨N, 0, none⟩ (.int .i64 ((pre.length : Int) + 1))) := by
  refine ⟨(h.keep.setCell (p := ⟨gh, jj, none⟩) (.inl (.inl rfl)) _).setCell (p := ⟨N, 0, none⟩) (.inl (.inr rfl)) _, ?_, ?_⟩
  · have := (h.num.far (p := ⟨gh, jj, none⟩) (fun e => hne e.symm) (.int .u64 p.2.new)).set 0 (.int .i64 ((pre.length : Int) + 1))
    simpa using this
  · have := (h.has.stored rfl jj (.int .u64 p.2.new)).far (p := ⟨N, 0, none⟩) (by simp [Value.ownBlock]; omega) (.int .i64 ((pre.length : Int) + 1))
    rw [List.map_append, List.map_singleton, hasOf_snoc, hj, List.map_set]
    exact this
theorem since2 {B gh N jj : Nat} {W : World} {v0 v1 : Value} (h1 : gh < B) (h2 : N < B) : Since B W ((W.setCell ⟨gh, jj, none⟩ v0).setCell ⟨N, 0, none⟩ v1) :=
  ((Since.refl B W).setCell (p := ⟨gh, jj, none⟩) h1 _).setCell (p := ⟨N, 0, none⟩) h2 _

theorem since2d {B gh N jj : Nat} {W : World} {v0 v1 : Value} (n : Nat) (h1 : gh < B) (h2 : N < B) : Since B W (((W.drewN n).setCell ⟨gh, jj, none⟩ v0).setCell ⟨N, 0, none⟩ v1) :=
  (Since.trans (Y := W.drewN n) ⟨Nat.le_refl _, fun _ _ _ => rfl⟩ (since2 h1 h2))
theorem RI.drewN {W0 W : World} {gh N m : Nat} {pre : List (Nat × Acc)} (h : RI W0 gh N m pre W) (n : Nat) : RI W0 gh N m pre (W.drewN n) := ⟨h.keep.drewN n, h.num.drewN n, h.has.drewN n⟩

theorem set_getD_self (l : List Int) (k : Nat) : l.set k (l.getD k 0) = l := by
  apply List.ext_getElem?
  intro i
  by_cases h : k < l.length
  · rw [List.getElem?_set]
    split
    · rename_i e
      subst e
      simp [h]
    · rfl
  · rw [List.set_eq_of_length_le (by omega)]
theorem load_st {s : St} {k : Nat} (hk : k < s.cs.length) : (doSt s 1 (k : Int) 0 0).1.cs = s.cs ∧ (doSt s 1 (k : Int) 0 0).1.hist.length = s.hist.length + 1 ∧ (doSt s 1 (k : Int) 0 0).2.1.old = s.cs.getD k 0 ∧ (doSt s 1 (k : Int) 0 0).2.2 = 0 := by
  have : inSt s (k : Int) = true := by simp [inSt]; omega
  unfold doSt
  rw [if_pos this]
  refine ⟨?_, by simp [St.step], by simp [accOf, St.at_], rfl⟩
  simp only [St.step, accOf, newOf, Int.toNat_natCast, St.at_]
  exact set_getD_self _ _
theorem log_all {h : List Acc} (hl : h.length ≤ 1024) : (logList h).map (·.2) = h := by
  have e : logList h = h.zipIdx.map fun p => (p.2, p.1) := by
    unfold logList
    rw [show h.length - 1024 = 0 from by omega]; rfl
  rw [e]
  simp [List.map_map, Function.comp_def]

theorem good_do {m : Nat} {s : St} {asked : List Int} (h : Good m s asked) (op : Int) (j : Nat) (x y : Int) (hj : j < m) (hin : inSt s (j : Int) = true) : Good m (doSt s op (j : Int) x y).1 (asked ++ [x]) := by
  unfold doSt
  rw [if_pos hin]
  exact h.step op j x y hj
theorem do_load (s : St) (j x y : Int) : (doSt s 1 j 0 0).1 = (doSt s 1 j x y).1 := by unfold doSt; split <;> rfl
theorem do_store (s : St) (j x y : Int) : (doSt s 2 j x 0).1 = (doSt s 2 j x y).1 := by unfold doSt; split <;> rfl
theorem do_add (s : St) (j x y : Int) : (doSt s 4 j x 0).1 = (doSt s 4 j x y).1 := by unfold doSt; split <;> rfl
theorem do_did {s : St} {j : Nat} (x y : Int) (hin : inSt s (j : Int) = true) : (doSt s 3 (j : Int) x y).2.1.did = (s.at_ j == x) := by
  unfold doSt
  rw [if_pos hin]
  rfl
theorem do_hist {s : St} {j : Nat} (op x y : Int) (hin : inSt s (j : Int) = true) : (doSt s op (j : Int) x y).1.hist.length = s.hist.length + 1 := by
  unfold doSt
  rw [if_pos hin]
  simp [St.step]

theorem cnt_of {w0 wr : World} {base a b n : Nat} {s : St} {asked : List Int} {va : Value} (h : Hinv w0 base a b wr s asked va) (hn : s.hist.length = n + 1) :
    Calls Try.prog 18 #[.pointer (some ⟨b, 0, none⟩)] wr fun e w' => e = .returned (.int .u64 ((n : Int) + 1)) ∧ wr = w' := by
  have := Count_are h.are
  rw [hn] at this
  exact this

theorem tmod_lt (m : Nat) (a : Int) (h1 : 1 ≤ m) (h2 : m ≤ 200) : -200 < a.tmod (m : Int) ∧ a.tmod (m : Int) < 200 := by
  have e1 := Int.tmod_lt_of_pos a (show (0 : Int) < (m : Int) by omega)
  have e2 := Int.lt_tmod_of_pos a (show (0 : Int) < (m : Int) by omega)
  omega
theorem idx_of (m : Nat) (a : Int) (h1 : 1 ≤ m) : ∃ j : Nat, (a.tmod (m : Int) + (m : Int)).tmod (m : Int) = (j : Int) ∧ j < m := by
  have e2 := Int.lt_tmod_of_pos a (show (0 : Int) < (m : Int) by omega)
  have e3 := Int.tmod_nonneg (m : Int) (show (0 : Int) ≤ a.tmod (m : Int) + (m : Int) by omega)
  have e4 := Int.tmod_lt_of_pos (a.tmod (m : Int) + (m : Int)) (show (0 : Int) < (m : Int) by omega)
  exact ⟨((a.tmod (m : Int) + (m : Int)).tmod (m : Int)).toNat, by omega, by omega⟩

set_option maxRecDepth 100000 in
set_option maxHeartbeats 6400000 in
theorem holds_good (m : Nat) (A : Option Addr) (c : Nat) (l : List ActD) (w : World) (h1 : 1 ≤ m) (h2 : m ≤ 200) (h3 : l.length ≤ 60) (ha : ActsArg w (.slice A l.length c) l) :
    Calls Try.prog 7 #[.int .i64 m, .slice A l.length c] w fun e w' => e = .returned (.bool true) ∧ Below w.heap.size w w' := by
  obtain ⟨i0, hi0, hz0, hz1, hz2⟩ := info_parts info38
  refine calls_of_wp_marks 5 Try.func7 rfl ?_
  simp only [Try.ntmps7, List.size_toArray, List.length_cons, List.length_nil, Nat.reduceAdd, Nat.reduceSub, Array.replicate_succ, Array.replicate_zero, List.push_toArray, List.append_toArray, List.nil_append, List.cons_append]
  have g1 : (1 : Int) ≤ (m : Int) := by omega
  have g2 : (m : Int) ≤ 200 := by omega
  have g3 : (l.length : Int) ≤ 60 := by omega
  have b0 : Below w.heap.size w ((w.alloc (.cells #[.int .i64 (m : Int)] 3)).alloc (.cells #[.bool false] 4)) := ((Below.refl _ _).alloc (Nat.le_refl _) _).alloc (by simp) _
  have c0 : Blk ((w.alloc (.cells #[.int .i64 (m : Int)] 3)).alloc (.cells #[.bool false] 4)) w.heap.size 3 #[.int .i64 (m : Int)] := (Blk.new w _ _).alloc _
  have r0 := Blk.new (w.alloc (.cells #[.int .i64 (m : Int)] 3)) 4 #[.bool false]
  rw [World.size_alloc] at r0
  have hsz0 : ((w.alloc (.cells #[.int .i64 (m : Int)] 3)).alloc (.cells #[.bool false] 4)).heap.size = w.heap.size + 2 := by simp
  go_wp2_with fail
  revert b0 c0 r0 hsz0
  generalize (w.alloc (.cells #[.int .i64 (m : Int)] 3)).alloc (.cells #[.bool false] 4) = w0
  intro b0 c0 r0 hsz0
  refine (New_do m _ h1 (by omega)).mono ?_
  rintro e w1 ⟨b, rfl, a1⟩
  have B1 := a1.toBelow
  have c1 := (c0.keep (B1.block _ c0.lt)).cell 0
  simp at c1
  go_wp2_with fail
  have al := Alloc_do (m : Int) a1
  have eal : allocSt ⟨m, [], []⟩ (m : Int) = (⟨m, List.replicate m 0, []⟩, 0, 0) := by
    unfold allocSt
    rw [if_neg (by omega), if_neg (by simp)]
    simp
  rw [eal] at al
  refine al.mono ?_
  rintro e w2 ⟨rfl, a2⟩
  have B2 := a2.toBelow
  clear eal al a1 B1 c1
  have hin : Hinv w0 w0.heap.size w2.heap.size b (w2.alloc (.cells #[.slice none 0 0] 29)) ⟨m, List.replicate m 0, []⟩ [] (.slice none 0 0) :=
    ⟨(a2.are.mono (fun k hk hf => ⟨hf, by omega, by simp [Value.ownBlock]⟩)).alloc _, Blk.new w2 _ _, Row.nil _ _ _, by simp [Value.ownBlock], B2.alloc B2.size _, B2.size, Nat.le_refl _⟩
  go_wp2_with fail
  go_loopw [10] (fun i wr => ∃ (k : Nat) (s : St) (asked : List Int) (va : Value), k ≤ l.length ∧ i = .int .i64 (k : Int) ∧ Good m s asked ∧ asked.length ≤ k ∧ Hinv w0 w0.heap.size w2.heap.size b wr s asked va) (fun i _ => l.length - (intOf i).toNat)
  case atStart => exact ⟨0, _, _, _, Nat.zero_le _, rfl, Good.start m, Nat.le_refl _, hin⟩
  case round =>
    obtain ⟨k, s, asked, va, hk, rfl, hgood, hak, hinv⟩ := hrel
    have ck := c0.keep (hinv.low.block _ c0.lt)
    obtain ⟨Av, cv, rfl, hcv1, hcv2⟩ := hinv.row.form
    by_cases hlt : k < l.length
    · obtain ⟨x, hx⟩ : ∃ x, l[k]? = some x := ⟨_, List.getElem?_eq_getElem hlt⟩
      obtain ⟨A', c', hv, hA⟩ := ha
      obtain ⟨bl, off, rfl, hbl, hcl⟩ := hA (by intro e; rw [e] at hlt; simp at hlt)
      obtain ⟨q0, q1, q2, q3⟩ := hcl k x hx
      have kp : ∀ o, wr.cell? ⟨bl, o, none⟩ = w.cell? ⟨bl, o, none⟩ := fun o => (hinv.low.cell (p := ⟨bl, o, none⟩) (by simp only; omega)).trans (b0.cell (p := ⟨bl, o, none⟩) hbl)
      rw [← kp] at q0 q1 q2 q3
      simp only [Value.slice.injEq] at hv
      obtain ⟨rfl, _, rfl⟩ := hv
      have hlt' : (k : Int) < (l.length : Int) := by omega
      have hk0 : (0 : Int) ≤ (k : Int) := by omega
      obtain ⟨j, hj, hjm⟩ := idx_of m x.at_ h1
      have hm0 : ((m : Int) == 0) = false := by simp; omega
      have hb1 : -200 < x.at_.tmod (m : Int) ∧ x.at_.tmod (m : Int) < 200 := tmod_lt m x.at_ h1 h2
      have hw1 : IntKind.i64.wrap (x.at_.tmod (m : Int) + (m : Int)) = x.at_.tmod (m : Int) + (m : Int) := IntWalk.i64_in _ (by omega)
      have hw2 : IntKind.i64.wrap (x.at_.tmod (m : Int)) = x.at_.tmod (m : Int) := IntWalk.i64_in _ (by omega)
      have ck1 := (ck.alloc (.cells #[.int .i64 x.what, .int .i64 x.at_, .int .u64 x.x, .int .u64 x.y] 40)).cell 0
      have xk := Blk.new wr 40 #[.int .i64 x.what, .int .i64 x.at_, .int .u64 x.x, .int .u64 x.y]
      have hiv := hinv.alloc (.cells #[.int .i64 x.what, .int .i64 x.at_, .int .u64 x.x, .int .u64 x.y] 40)
      simp at ck1
      clear hcl kp hx
      go_wp2_with fail
      go_region
      have xk2 := (Blk.new wr 40 #[.int .i64 x.what, .int .i64 (j : Int), .int .u64 x.x, .int .u64 x.y]).drew
      have hiv2 := (hinv.alloc (.cells #[.int .i64 x.what, .int .i64 (j : Int), .int .u64 x.x, .int .u64 x.y] 40)).drew
      have hws2 := hinv.box (.cells #[.int .i64 x.what, .int .i64 (j : Int), .int .u64 x.x, .int .u64 x.y] 40)
      have hXne : wr.heap.size ≠ w2.heap.size := by have := hinv.av.lt; omega
      have hhl : s.hist.length < 1000000000 := by have := hgood.alen; omega
      have hin1 : inSt s (j : Int) = true := by have := hgood.len; simp [inSt]; omega
      have hal : asked.length ≤ 60 := by omega
      clear hiv xk ck1 q0 q1 q2 q3 hw1 hw2 hb1 hj hm0 hinv ck
      revert xk2 hiv2 hws2
      generalize (wr.alloc (.cells #[.int .i64 x.what, .int .i64 (j : Int), .int .u64 x.x, .int .u64 x.y] 40)).drew = w3
      intro xk2 hiv2 hws2
      have xk0 := xk2.cell 0
      have xk1 := xk2.cell 1
      have xk3 := xk2.cell 2
      have xk4 := xk2.cell 3
      simp at xk0 xk1 xk3 xk4
      by_cases e1 : x.what = 1
      · as_aux_lemma =>
          have t1 : (x.what == 1) = true := by simp [e1]
          clear e1
          go_wp2_with (first
            | (go_at_call 22; refine (Load_do (j : Int) hws2 hhl).mono ?_; rintro e w4 ⟨rfl, hws⟩
               have hi4 := hiv2.nextX hws
               have x4 := xk2.keep (hws.keep.block _ xk2.lt (fun e => e.2 rfl))
               have a4 := hi4.av.cell 0
               have x41 := x4.cell 2
               simp at a4 x41)
            | (at_builtin
               refine wpList_append_row _ rfl _ _ _ rfl 38 38 i0 _ 1 8 Try.underlying29 hi0 hz0 hz1 hz2 rfl (.slice Av asked.length cv) asked.length _ rfl (hi4.row.alloc _) (.slice (some ⟨w4.heap.size, 0, none⟩) 1 1) 1 [.int .u64 x.x] rfl
                 (Row.made_at w4 _ rfl 38 1 1 #[.int .u64 x.x] [.int .u64 x.x] rfl (by simp [maxLen]) (by rfl)) (by simp [Value.oneCell']) (by simp only [maxLen]; omega) (by omega) ?_
               intro v' w5 hown hgrow hat
               obtain ⟨A', c', rfl, hc3, hc4⟩ := hown.form
               have av5 : Blk w5 w2.heap.size 29 _ := (hi4.av.alloc _).keep (hgrow.block _ (by have := hi4.av.lt; simp; omega) (fun e => hi4.row.ne_blk hi4.av (by decide) e.symm))
               have a5 := av5.cell 0
               have f5 := av5.frozen 0
               simp at a5))
          go_roundw
          case rel => exact ⟨k + 1, _, _, _, by omega, by go_num, do_load s j x.x x.y ▸ good_do hgood 1 j x.x x.y hjm hin1, by simp; omega, (hi4.push hown hgrow hat)⟩
          case measure => simp [intOf]; omega
      have t1 : (x.what == 1) = false := by simp [e1]
      clear e1
      by_cases e2 : x.what = 2
      · as_aux_lemma =>
          have t2 : (x.what == 2) = true := by simp [e2]
          clear e2
          go_wp2_with (first
            | (go_at_call 16; refine (Store_do (j : Int) x.x hws2 hhl).mono ?_; rintro e w4 ⟨rfl, hws⟩
               have hi4 := hiv2.nextX hws
               have x4 := xk2.keep (hws.keep.block _ xk2.lt (fun e => e.2 rfl))
               have a4 := hi4.av.cell 0
               have x41 := x4.cell 2
               simp at a4 x41)
            | (at_builtin
               refine wpList_append_row _ rfl _ _ _ rfl 38 38 i0 _ 1 8 Try.underlying29 hi0 hz0 hz1 hz2 rfl (.slice Av asked.length cv) asked.length _ rfl (hi4.row.alloc _) (.slice (some ⟨w4.heap.size, 0, none⟩) 1 1) 1 [.int .u64 x.x] rfl
                 (Row.made_at w4 _ rfl 38 1 1 #[.int .u64 x.x] [.int .u64 x.x] rfl (by simp [maxLen]) (by rfl)) (by simp [Value.oneCell']) (by simp only [maxLen]; omega) (by omega) ?_
               intro v' w5 hown hgrow hat
               obtain ⟨A', c', rfl, hc3, hc4⟩ := hown.form
               have av5 : Blk w5 w2.heap.size 29 _ := (hi4.av.alloc _).keep (hgrow.block _ (by have := hi4.av.lt; simp; omega) (fun e => hi4.row.ne_blk hi4.av (by decide) e.symm))
               have a5 := av5.cell 0
               have f5 := av5.frozen 0
               simp at a5))
          go_roundw
          case rel => exact ⟨k + 1, _, _, _, by omega, by go_num, do_store s j x.x x.y ▸ good_do hgood 2 j x.x x.y hjm hin1, by simp; omega, (hi4.push hown hgrow hat)⟩
          case measure => simp [intOf]; omega
      have t2 : (x.what == 2) = false := by simp [e2]
      clear e2
      by_cases e3 : x.what = 3
      · have t3 : (x.what == 3) = true := by simp [e3]
        clear e3
        have hdid := do_did x.x x.y hin1
        have hsw := Swap_do (j : Int) x.x x.y hws2 hhl
        rw [hdid] at hsw
        clear hdid
        cases hb : (s.at_ j == x.x) <;> rw [hb] at hsw <;> clear hb
        · as_aux_lemma =>
            skip
            go_wp2_with (first
              | (go_at_call 23; refine (hsw).mono ?_; rintro e w4 ⟨rfl, hws⟩
                 have hi4 := hiv2.nextX hws
                 have x4 := xk2.keep (hws.keep.block _ xk2.lt (fun e => e.2 rfl))
                 have a4 := hi4.av.cell 0
                 have x41 := x4.cell 2
                 simp at a4 x41)
              | (at_builtin
                 refine wpList_append_row _ rfl _ _ _ rfl 38 38 i0 _ 1 8 Try.underlying29 hi0 hz0 hz1 hz2 rfl (.slice Av asked.length cv) asked.length _ rfl (hi4.row.alloc _) (.slice (some ⟨w4.heap.size, 0, none⟩) 1 1) 1 [.int .u64 x.x] rfl
                   (Row.made_at w4 _ rfl 38 1 1 #[.int .u64 x.x] [.int .u64 x.x] rfl (by simp [maxLen]) (by rfl)) (by simp [Value.oneCell']) (by simp only [maxLen]; omega) (by omega) ?_
                 intro v' w5 hown hgrow hat
                 obtain ⟨A', c', rfl, hc3, hc4⟩ := hown.form
                 have av5 : Blk w5 w2.heap.size 29 _ := (hi4.av.alloc _).keep (hgrow.block _ (by have := hi4.av.lt; simp; omega) (fun e => hi4.row.ne_blk hi4.av (by decide) e.symm))
                 have a5 := av5.cell 0
                 have f5 := av5.frozen 0
                 simp at a5))
            go_roundw
            case rel => exact ⟨k + 1, _, _, _, by omega, by go_num, good_do hgood 3 j x.x x.y hjm hin1, by simp; omega, (hi4.push hown hgrow hat)⟩
            case measure => simp [intOf]; omega
        · as_aux_lemma =>
            skip
            go_wp2_with (first
              | (go_at_call 23; refine (hsw).mono ?_; rintro e w4 ⟨rfl, hws⟩
                 have hi4 := hiv2.nextX hws
                 have x4 := xk2.keep (hws.keep.block _ xk2.lt (fun e => e.2 rfl))
                 have a4 := hi4.av.cell 0
                 have x41 := x4.cell 2
                 simp at a4 x41)
              | (go_at_call 18; refine (cnt_of (hi4.push hown hgrow hat) (do_hist 3 x.x x.y hin1)).mono ?_; rintro e w' ⟨rfl, rfl⟩)
              | (at_builtin
                 refine wpList_append_row _ rfl _ _ _ rfl 38 38 i0 _ 1 8 Try.underlying29 hi0 hz0 hz1 hz2 rfl (.slice Av asked.length cv) asked.length _ rfl (hi4.row.alloc _) (.slice (some ⟨w4.heap.size, 0, none⟩) 1 1) 1 [.int .u64 x.x] rfl
                   (Row.made_at w4 _ rfl 38 1 1 #[.int .u64 x.x] [.int .u64 x.x] rfl (by simp [maxLen]) (by rfl)) (by simp [Value.oneCell']) (by simp only [maxLen]; omega) (by omega) ?_
                 intro v' w5 hown hgrow hat
                 obtain ⟨A', c', rfl, hc3, hc4⟩ := hown.form
                 have av5 : Blk w5 w2.heap.size 29 _ := (hi4.av.alloc _).keep (hgrow.block _ (by have := hi4.av.lt; simp; omega) (fun e => hi4.row.ne_blk hi4.av (by decide) e.symm))
                 have a5 := av5.cell 0
                 have f5 := av5.frozen 0
                 simp at a5))
            go_roundw
            case rel => exact ⟨k + 1, _, _, _, by omega, by go_num, good_do hgood 3 j x.x x.y hjm hin1, by simp; omega, (hi4.push hown hgrow hat)⟩
            case measure => simp [intOf]; omega
      have t3 : (x.what == 3) = false := by simp [e3]
      clear e3
      by_cases e4 : x.what = 4
      · have t4 : (x.what == 4) = true := by simp [e4]
        clear e4
        have hdid := do_did x.x x.y hin1
        have hsw := Swap_do (j : Int) x.x x.y hws2 hhl
        rw [hdid] at hsw
        clear hdid
        cases hb : (s.at_ j == x.x) <;> rw [hb] at hsw <;> clear hb
        · as_aux_lemma =>
            skip
            go_wp2_with (first
              | (go_at_call 23; refine (hsw).mono ?_; rintro e w4 ⟨rfl, hws⟩
                 have hi4 := hiv2.nextX hws
                 have x4 := xk2.keep (hws.keep.block _ xk2.lt (fun e => e.2 rfl))
                 have a4 := hi4.av.cell 0
                 have x41 := x4.cell 2
                 simp at a4 x41)
              | (at_builtin
                 refine wpList_append_row _ rfl _ _ _ rfl 38 38 i0 _ 1 8 Try.underlying29 hi0 hz0 hz1 hz2 rfl (.slice Av asked.length cv) asked.length _ rfl (hi4.row.alloc _) (.slice (some ⟨w4.heap.size, 0, none⟩) 1 1) 1 [.int .u64 x.x] rfl
                   (Row.made_at w4 _ rfl 38 1 1 #[.int .u64 x.x] [.int .u64 x.x] rfl (by simp [maxLen]) (by rfl)) (by simp [Value.oneCell']) (by simp only [maxLen]; omega) (by omega) ?_
                 intro v' w5 hown hgrow hat
                 obtain ⟨A', c', rfl, hc3, hc4⟩ := hown.form
                 have av5 : Blk w5 w2.heap.size 29 _ := (hi4.av.alloc _).keep (hgrow.block _ (by have := hi4.av.lt; simp; omega) (fun e => hi4.row.ne_blk hi4.av (by decide) e.symm))
                 have a5 := av5.cell 0
                 have f5 := av5.frozen 0
                 simp at a5))
            go_roundw
            case rel => exact ⟨k + 1, _, _, _, by omega, by go_num, good_do hgood 3 j x.x x.y hjm hin1, by simp; omega, (hi4.push hown hgrow hat)⟩
            case measure => simp [intOf]; omega
        · as_aux_lemma =>
            skip
            go_wp2_with (first
              | (go_at_call 23; refine (hsw).mono ?_; rintro e w4 ⟨rfl, hws⟩
                 have hi4 := hiv2.nextX hws
                 have x4 := xk2.keep (hws.keep.block _ xk2.lt (fun e => e.2 rfl))
                 have a4 := hi4.av.cell 0
                 have x41 := x4.cell 2
                 simp at a4 x41)
              | (go_at_call 18; refine (cnt_of (hi4.push hown hgrow hat) (do_hist 3 x.x x.y hin1)).mono ?_; rintro e w' ⟨rfl, rfl⟩)
              | (at_builtin
                 refine wpList_append_row _ rfl _ _ _ rfl 38 38 i0 _ 1 8 Try.underlying29 hi0 hz0 hz1 hz2 rfl (.slice Av asked.length cv) asked.length _ rfl (hi4.row.alloc _) (.slice (some ⟨w4.heap.size, 0, none⟩) 1 1) 1 [.int .u64 x.x] rfl
                   (Row.made_at w4 _ rfl 38 1 1 #[.int .u64 x.x] [.int .u64 x.x] rfl (by simp [maxLen]) (by rfl)) (by simp [Value.oneCell']) (by simp only [maxLen]; omega) (by omega) ?_
                 intro v' w5 hown hgrow hat
                 obtain ⟨A', c', rfl, hc3, hc4⟩ := hown.form
                 have av5 : Blk w5 w2.heap.size 29 _ := (hi4.av.alloc _).keep (hgrow.block _ (by have := hi4.av.lt; simp; omega) (fun e => hi4.row.ne_blk hi4.av (by decide) e.symm))
                 have a5 := av5.cell 0
                 have f5 := av5.frozen 0
                 simp at a5))
            go_roundw
            case rel => exact ⟨k + 1, _, _, _, by omega, by go_num, good_do hgood 3 j x.x x.y hjm hin1, by simp; omega, (hi4.push hown hgrow hat)⟩
            case measure => simp [intOf]; omega
      have t4 : (x.what == 4) = false := by simp [e4]
      clear e4
      by_cases e5 : x.what = 5
      · as_aux_lemma =>
          have t5 : (x.what == 5) = true := by simp [e5]
          clear e5
          go_wp2_with (first
            | (go_at_call 24; refine (Add_do (j : Int) x.x hws2 hhl).mono ?_; rintro e w4 ⟨rfl, hws⟩
               have hi4 := hiv2.nextX hws
               have x4 := xk2.keep (hws.keep.block _ xk2.lt (fun e => e.2 rfl))
               have a4 := hi4.av.cell 0
               have x41 := x4.cell 2
               simp at a4 x41)
            | (at_builtin
               refine wpList_append_row _ rfl _ _ _ rfl 38 38 i0 _ 1 8 Try.underlying29 hi0 hz0 hz1 hz2 rfl (.slice Av asked.length cv) asked.length _ rfl (hi4.row.alloc _) (.slice (some ⟨w4.heap.size, 0, none⟩) 1 1) 1 [.int .u64 x.x] rfl
                 (Row.made_at w4 _ rfl 38 1 1 #[.int .u64 x.x] [.int .u64 x.x] rfl (by simp [maxLen]) (by rfl)) (by simp [Value.oneCell']) (by simp only [maxLen]; omega) (by omega) ?_
               intro v' w5 hown hgrow hat
               obtain ⟨A', c', rfl, hc3, hc4⟩ := hown.form
               have av5 : Blk w5 w2.heap.size 29 _ := (hi4.av.alloc _).keep (hgrow.block _ (by have := hi4.av.lt; simp; omega) (fun e => hi4.row.ne_blk hi4.av (by decide) e.symm))
               have a5 := av5.cell 0
               have f5 := av5.frozen 0
               simp at a5))
          go_roundw
          case rel => exact ⟨k + 1, _, _, _, by omega, by go_num, do_add s j x.x x.y ▸ good_do hgood 4 j x.x x.y hjm hin1, by simp; omega, (hi4.push hown hgrow hat)⟩
          case measure => simp [intOf]; omega
      have t5 : (x.what == 5) = false := by simp [e5]
      clear e5
      go_wp2_with fail
      go_roundw
      case rel => exact ⟨k + 1, _, _, _, by omega, by go_num, hgood, by omega, hiv2⟩
      case measure => simp [intOf]; omega
    · as_aux_lemma =>
        have hke : k = l.length := by omega
        have hgl : asked.length ≤ 60 := by omega
        have hge : ¬ (k : Int) < (l.length : Int) := by omega
        have ck2 := ck.cell 0
        simp at ck2
        have hmk : ∀ W : World, (Instr.makeSlice 29 (.int .i64 (m : Int)) (.int .i64 (m : Int))).run Try.prog W = .ok (.slice (some ⟨W.heap.size, 0, none⟩) m m) (W.alloc (.cells (madeCells #[.int .u64 0] m) 38)) := fun W => by
          have hr := run_make (P := Try.prog) W 29 38 i0 _ Try.underlying29 hi0 hz0 .i64 .i64 m m (by omega) (Int.le_refl _) (by rw [hz2]; omega) (by omega)
          simpa [hz1, Value.cells] using hr
        have hrow := (Row.made_at wr wr.heap.size rfl 38 1 m _ _ (toList_madeCells_one (.int .u64 0) m) (by simp only [maxLen]; omega) (by rw [Nat.mul_one]; exact size_madeCells _ _)).alloc (.cells #[.slice (some ⟨wr.heap.size, 0, none⟩) m m] 29)
        have hH := Blk.new (wr.alloc (.cells (madeCells #[.int .u64 0] m) 38)) 29 #[.slice (some ⟨wr.heap.size, 0, none⟩) m m]
        rw [World.size_alloc] at hH
        have hA := (hinv.alloc (.cells (madeCells #[.int .u64 0] m) 38)).alloc (.cells #[.slice (some ⟨wr.heap.size, 0, none⟩) m m] 29)
        have hAr := ((hinv.are.mono (G := fun k => (w0.heap.size ≤ k ∧ k ≠ w2.heap.size ∧ (Value.slice Av asked.length cv).ownBlock ≠ some k) ∧ k < wr.heap.size) (fun k hk hf => ⟨hf, hk⟩)).alloc (.cells (madeCells #[.int .u64 0] m) 38)).alloc (.cells #[.slice (some ⟨wr.heap.size, 0, none⟩) m m] 29)
        have hszA : ((wr.alloc (.cells (madeCells #[.int .u64 0] m) 38)).alloc (.cells #[.slice (some ⟨wr.heap.size, 0, none⟩) m m] 29)).heap.size = wr.heap.size + 2 := by simp
        have hlowW := hinv.low.size
        have havlt := hinv.av.lt
        have hrlt := hinv.row.lt
        clear ha a2 hin hke
        go_wp2_with fail
        revert hrow hH hA hAr hszA
        generalize (wr.alloc (.cells (madeCells #[.int .u64 0] m) 38)).alloc (.cells #[.slice (some ⟨wr.heap.size, 0, none⟩) m m] 29) = wB
        intro hrow hH hA hAr hszA
        refine (Log_are _ hA.are).mono ?_
        rintro e wC ⟨bs, Al, cl, rfl, hsn, hbs, hro, hBC⟩
        have hnf := eql_nilFunc
        have aC := hA.av.keep (hBC.block _ hA.av.lt)
        have aC0 := aC.cell 0
        simp at aC0
        have hArC := hAr.below hBC
        have rowC := hA.row.keep (fun k hk => hBC.block k (hA.row.lt k hk))
        have hasC := hrow.keep (fun k hk => hBC.block k (hrow.lt k hk))
        have HC := hH.keep (hBC.block _ hH.lt)
        have lowC := hA.low.trans (hBC.mono hA.low.size)
        have ckC := c0.keep (lowC.block _ c0.lt)
        have rC := r0.keep (lowC.block _ r0.lt)
        have hszC := hBC.size
        have hcntC : ∀ n, Calls Try.prog 18 #[.pointer (some ⟨b, 0, none⟩)] (wC.drewN n) fun e w' => e = .returned (.int .u64 (asked.length : Int)) ∧ wC.drewN n = w' := fun n => by
          have := Count_are (hArC.drewN n)
          rw [← hgood.alen] at this
          exact this
        have hwu : IntKind.u64.wrap (asked.length : Int) = (asked.length : Int) := IntWalk.u64_in _ (by omega)
        have Hc := Lib.hid hcntC
        clear hcntC hinv
        go_wp2_with fail
        go_quiet ((first | (go_at_call 12; exact quiet_left (num_any _ _)) | (go_at_call 18; exact quiet_left (Hc.out _))))
        clear hnf hwu
        have aD := aC.drewN nq
        have arD := hArC.drewN nq
        have rowD := rowC.drewN nq
        have hasD := hasC.drewN nq
        have HD := HC.drewN nq
        have lowD := below_drewN lowC nq
        have ckD := ckC.drewN nq
        have rD := rC.drewN nq
        have snD : Snap60 s.hist bs Al cl (wC.drewN nq) := ⟨hsn.blk.drewN nq, hsn.row.drewN nq⟩
        have szD : wC.heap.size = (wC.drewN nq).heap.size := rfl
        clear aC hArC rowC hasC HC lowC ckC rC hsn aC0 Hc hA hAr hrow hH hBC
        revert aD arD rowD hasD HD lowD ckD rD snD szD
        generalize wC.drewN nq = wD
        intro aD arD rowD hasD HD lowD ckD rD snD szD
        go_wp2_with fail
        have ri0 : RI (wD.alloc (.cells #[.int .i64 0] 3)) wr.heap.size wD.heap.size m [] (wD.alloc (.cells #[.int .i64 0] 3)) :=
          ⟨Keep.refl _ _, Blk.new wD _ _, by simp only [hasOf, List.map_nil, List.foldl_nil, List.map_replicate]; exact hasD.alloc _⟩
        have hlog : s.hist.length ≤ 1024 := by have := hgood.alen; omega
        refine wp_range 4 rfl (enters_of Try.func37 (by kernel_rfl) rfl) (log2_seqs s.hist bs Al cl (by omega)) (fun _ => rfl) (RI (wD.alloc (.cells #[.int .i64 0] 3)) wr.heap.size wD.heap.size m) (fun _ _ _ => False)
          (RI.own _ _ _ _) (fun _ _ _ _ _ hs _ _ => hs)
          (fun pre W hi => snD.keep (B := wB.heap.size) hbs hro (fun k e1 e2 => (hi.keep.block k (by simp; omega) (by omega)).trans (Below.heap_alloc _ _ _ e2))) ri0 ?round ?done ?stop
        case stop => exact fun _ _ _ _ _ _ h _ => h.elim
        case round =>
          intro l' pre x rest W hsz hx hi
          obtain ⟨i, z⟩ := x
          obtain ⟨hi1, hz, hpm⟩ := log_at hlog hx
          simp only at hi1 hz
          subst hi1
          have hq : pre.length < s.hist.length := (List.getElem?_eq_some_iff.1 hz).1
          have hqa : pre.length < asked.length := by rw [hgood.alen]; exact hq
          obtain ⟨aq, haq⟩ : ∃ aq, asked[pre.length]? = some aq := ⟨_, List.getElem?_eq_getElem hqa⟩
          obtain ⟨u1, u2, u3, u4, u5⟩ := hgood.each _ z aq hz haq
          obtain ⟨op, zat, old, new, did⟩ := z
          simp only at u1 u2 u3 u4 u5
          obtain ⟨jj, rfl⟩ := Int.eq_ofNat_of_zero_le u1
          have U3 := Lib.hid u3
          have U4 := Lib.hid u4
          have U5 := Lib.hid u5
          have Hz := Lib.hid hz
          have Haq := Lib.hid haq
          have Hpm := Lib.hid hpm
          clear u3 u4 u5 hz haq hpm hx
          simp only [encAcc, Acc.val]
          gi_wp2
          refine ⟨(Since.refl _ _).alloc _, hi.alloc _, ?_⟩
          intro W2 ht hi2
          have hbx := (Blk.new W 52 #[.int .i64 op, .int .i64 (jj : Int), .int .u64 old, .int .u64 new, .bool did]).keep (ht.at_ (Blk.new W _ _) rfl)
          have x0 := hbx.cell 0
          have x1 := hbx.cell 1
          have x2 := hbx.cell 2
          have x3 := hbx.cell 3
          have x4 := hbx.cell 4
          have kp : ∀ k, k < wD.heap.size → k ≠ wr.heap.size → W2.heap[k]? = wD.heap[k]? := fun k e1 e2 => (hi2.keep.block k (by simp; omega) (by omega)).trans (Below.heap_alloc _ _ _ e1)
          have aW := (aD.keep (kp _ aD.lt (by omega))).cell 0
          have rowW := rowD.keep (fun k hk => kp k (rowD.lt k hk) (by have := hrlt k hk; omega))
          have HW := (HD.keep (kp _ HD.lt (by omega))).cell 0
          have ckW := (ckD.keep (kp _ ckD.lt (by omega))).cell 0
          have nW := hi2.num.cell 0
          have fW := hi2.num.frozen 0
          obtain ⟨ga, capa, cura, hva, _⟩ := rowW.addr (by omega)
          simp only [Value.slice.injEq, true_and] at hva
          obtain ⟨rfl, rfl⟩ := hva
          have qa := (rowW.cells rfl pre.length (by omega)).1
          rw [List.getElem?_map, Haq.out] at qa
          have hjl : jj < m := by omega
          have hh1 := (hi2.has.cells rfl jj (by omega)).1
          have hh2 := (hi2.has.cells rfl jj (by omega)).2
          have hho : (hasOf m (pre.map (·.2)))[jj]? = some old := by
            rw [Hpm.out]
            have u3 := U3.out
            simp only [Int.toNat_natCast] at u3
            rw [List.getD_eq_getElem?_getD] at u3
            rw [List.getElem?_eq_getElem (by rw [hasOf_length]; exact hjl)] at u3 ⊢
            simp at u3
            rw [u3]
          rw [List.getElem?_map, hho] at hh1
          simp at x0 x1 x2 x3 x4 aW HW ckW nW qa hh1
          have hq0 : (0 : Int) ≤ (pre.length : Int) := by omega
          have hq60 : (pre.length : Int) ≤ 60 := by omega
          have hqI : (pre.length : Int) < (asked.length : Int) := by omega
          have hj0 : (0 : Int) ≤ (jj : Int) := by omega
          have hjI : (jj : Int) < (m : Int) := by omega
          have hN : wr.heap.size < wD.heap.size := by omega
          clear kp hi ht Hpm Hz Haq U3
          by_cases o3 : op = 3
          · subst o3
            cases hb : (old == aq)
            · as_aux_lemma =>
                have : did = false := by rw [U4.out]; simp [hb]
                subst this
                have hnn : (new != old) = false := by rw [U5.out (.inr rfl)]; simp
                clear U4 U5
                gi_wp2
                simp only [List.append_eq, List.cons_append, List.nil_append]
                refine wpIn_region_round (by kernel_rfl) (by kernel_rfl) (by kernel_rfl) ?_
                repeat (first | go_big_quiet_step (fail) | quiet_step (fail))
                refine wpQuiet_nil ?_
                intro _ hw'
                obtain ⟨nq, hw''⟩ := hw'
                subst hw''
                gi_wp2
                exact ⟨since2d nq (by simp; omega) (by simp), (hi2.drewN nq).next rfl (by omega)⟩
            · as_aux_lemma =>
                have : did = true := by rw [U4.out]; simp [hb]
                subst this
                clear U4 U5
                gi_wp2
                simp only [List.append_eq, List.cons_append, List.nil_append]
                refine wpIn_region_round (by kernel_rfl) (by kernel_rfl) (by kernel_rfl) ?_
                repeat (first | go_big_quiet_step (fail) | quiet_step (fail))
                refine wpQuiet_nil ?_
                intro _ hw'
                obtain ⟨nq, hw''⟩ := hw'
                subst hw''
                gi_wp2
                exact ⟨since2d nq (by simp; omega) (by simp), (hi2.drewN nq).next rfl (by omega)⟩
          · have hob : (op != 3) = true := by simpa using o3
            have : did = true := by rw [U4.out, hob]; rfl
            subst this
            by_cases o1 : op = 1
            · as_aux_lemma =>
                have hnn : (new != old) = false := by rw [U5.out (.inl o1)]; simp
                subst o1
                clear U4 U5 o3 hob
                gi_wp2
                simp only [List.append_eq, List.cons_append, List.nil_append]
                refine wpIn_region_round (by kernel_rfl) (by kernel_rfl) (by kernel_rfl) ?_
                repeat (first | go_big_quiet_step (fail) | quiet_step (fail))
                refine wpQuiet_nil ?_
                intro _ hw'
                obtain ⟨nq, hw''⟩ := hw'
                subst hw''
                gi_wp2
                exact ⟨since2d nq (by simp; omega) (by simp), (hi2.drewN nq).next rfl (by omega)⟩
            · as_aux_lemma =>
                have ho1 : (op == 1) = false := by simpa using o1
                clear U4 U5 o3 o1
                gi_wp2
                simp only [List.append_eq, List.cons_append, List.nil_append]
                refine wpIn_region_round (by kernel_rfl) (by kernel_rfl) (by kernel_rfl) ?_
                repeat (first | go_big_quiet_step (fail) | quiet_step (fail))
                refine wpQuiet_nil ?_
                intro _ hw'
                obtain ⟨nq, hw''⟩ := hw'
                subst hw''
                gi_wp2
                exact ⟨since2d nq (by simp; omega) (by simp), (hi2.drewN nq).next rfl (by omega)⟩
        case done =>
          as_aux_lemma =>
            intro D W hD hi hdef
            obtain ⟨wq, hwq⟩ : ∃ wq : World, wq = wr := ⟨_, rfl⟩
            subst hwq
            have hD' : wD.heap.size + 1 ≤ D := by simpa using hD
            have hDl : D < W.heap.size := (Array.getElem?_eq_some_iff.1 hdef).1
            have eL := log_all hlog
            have eN : (logList s.hist).length = asked.length := by
              have := congrArg List.length eL
              rw [List.length_map] at this
              rw [this, hgood.alen]
            have nB := hi.num
            rw [eN] at nB
            have hsB := hi.has
            rw [eL, ← hgood.cs] at hsB
            have kp : ∀ k, k < wD.heap.size → k ≠ wq.heap.size → W.heap[k]? = wD.heap[k]? := fun k e1 e2 => (hi.keep.block k (by simp; omega) (by omega)).trans (Below.heap_alloc _ _ _ e1)
            have arW := arD.keep (w' := W) (fun k hk hf => kp k hk (by have := hf.2; omega))
            have aB := aD.keep (kp _ aD.lt (by omega))
            have HB := HD.keep (kp _ HD.lt (by omega))
            have ckB := ckD.keep (kp _ ckD.lt (by have := c0.lt; omega))
            have rB := rD.keep (kp _ rD.lt (by have := r0.lt; omega))
            have c0l := c0.lt
            have r0l := r0.lt
            have bW : Below w.heap.size w W := b0.trans (((lowD.alloc lowD.size (.cells #[.int .i64 0] 3)).trans (hi.keep.below (B := w0.heap.size) (fun k e => by have := lowD.size; omega) (by have := lowD.size; simp; omega))).mono (by omega))
            obtain ⟨G, hG⟩ : ∃ G : Nat → Prop, G = (fun k => ((w0.heap.size ≤ k ∧ k ≠ w2.heap.size ∧ (Value.slice Av asked.length cv).ownBlock ≠ some k) ∧ k < wq.heap.size) ∨ W.heap.size ≤ k) := ⟨_, rfl⟩
            have a0 : WS G W W b s := by rw [hG]; exact WS.start (arW.mono (fun k _ hf => .inl hf)) (fun k hk => .inr hk)
            have hwN : wq.heap.size < wD.heap.size := by omega
            have hcl : s.cs.length = m := hgood.len
            have hhl : s.hist.length ≤ 60 := by have := hgood.alen; omega
            have gx : ∀ k, wq.heap.size ≤ k → k < W.heap.size → ¬ G k := fun k e1 e2 e => by rw [hG] at e; omega
            have gy : ∀ k, k < w0.heap.size → k < W.heap.size → ¬ G k := fun k e1 e2 e => by rw [hG] at e; omega
            have gz : ¬ G w2.heap.size := fun e => by have := aB.lt; rw [hG] at e; omega
            have hGb : ∀ k, G k → w.heap.size ≤ k := fun k e => by have := bW.size; rw [hG] at e; omega
            clear hG arD aD rowD hasD HD ckD rD snD kp hi arW hbs hro szD lowD c0 r0 hmk
            go_wp2_with fail
            go_loopw [19] (fun i Wi => ∃ (q : Nat) (si : St), q ≤ m ∧ i = .int .i64 (q : Int) ∧ si.cs = s.cs ∧ si.hist.length = s.hist.length + q ∧ WS G W Wi b si) (fun i _ => m - (intOf i).toNat)
            case atStart => exact ⟨0, s, Nat.zero_le _, rfl, rfl, rfl, a0⟩
            case round =>
              obtain ⟨q, si, hq, rfl, hcs, hlen, hws⟩ := hrel
              have fx : ∀ k, wq.heap.size ≤ k → k < W.heap.size → wr.heap[k]? = W.heap[k]? := fun k e1 e2 => hws.keep.block k e2 (gx k e1 e2)
              have fy : ∀ k, k < w0.heap.size → k < W.heap.size → wr.heap[k]? = W.heap[k]? := fun k e1 e2 => hws.keep.block k e2 (gy k e1 e2)
              have ckI := (ckB.keep (fy _ c0l ckB.lt)).cell 0
              simp at ckI
              by_cases hlt2 : q < m
              · have hltI : (q : Int) < (m : Int) := by omega
                have hq0 : (0 : Int) ≤ (q : Int) := by omega
                have ld := load_st (s := si) (k := q) (by rw [hcs, hcl]; exact hlt2)
                have hld := Load_do (q : Int) hws (by omega)
                rw [ld.2.2.1, ld.2.2.2, hcs] at hld
                go_wp2_with fail
                refine hld.mono ?_
                rintro e wj ⟨rfl, hwj⟩
                have fx2 : ∀ k, wq.heap.size ≤ k → k < W.heap.size → wj.heap[k]? = W.heap[k]? := fun k e1 e2 => hwj.keep.block k e2 (gx k e1 e2)
                have HI := (HB.keep (fx2 _ (by omega) HB.lt)).cell 0
                have hI := ((hsB.keep (fun k hk => fx2 k (by simp [Value.ownBlock] at hk; omega) (hsB.lt k hk))).cells rfl q (by omega)).1
                rw [List.getElem?_map] at hI
                obtain ⟨z, hz⟩ : ∃ z, s.cs[q]? = some z := ⟨_, List.getElem?_eq_getElem (by omega)⟩
                have hzd : s.cs.getD q 0 = z := by simp [hz]
                rw [hz] at hI
                simp at HI hI
                rw [hzd]
                have hzz : (z != z) = false := by simp
                go_wp2_with (go_at_call 12; refine (num_any _ _).mono ?_; rintro e w' ⟨rfl, rfl⟩)
                exact ⟨⟨q + 1, _, by omega, by simp, by rw [ld.1, hcs], by rw [ld.2.1, hlen]; omega, hwj⟩, by simp [intOf]; omega⟩
              · have hqe : q = m := by omega
                have hgeI : ¬ (q : Int) < (m : Int) := by omega
                have nI := (nB.keep (fx _ (by omega) nB.lt)).cell 0
                have aI := (aB.keep (hws.keep.block _ aB.lt gz)).cell 0
                have RI := rB.keep (fy _ r0l rB.lt)
                have dI : wr.heap[D]? = some (.deferred (some [])) := (fx _ (by omega) hDl).trans hdef
                have bI : Below w.heap.size w wr := bW.trans (hws.keep.below (B := w.heap.size) (fun k e => hGb k e) bW.size)
                simp at nI aI
                have hnn : ((asked.length : Int) == (asked.length : Int)) = true := by simp
                clear hqe
                go_wp2_with fail
                refine (works_any _).mono ?_
                rintro e w9 ⟨rfl, hB9⟩
                have R9 := RI.keep (hB9.block _ RI.lt)
                have dl := (Array.getElem?_eq_some_iff.1 dI).1
                have d9 : w9.heap[D]? = some (.deferred (some [])) := (hB9.block _ dl).trans dI
                have B9 : Below w.heap.size w w9 := bI.trans (hB9.mono bI.size)
                have z0 := R9.cell 0
                have z1 := R9.frozen 0
                have z2 := (R9.set 0 (.bool true)).cell 0
                simp at z0 z2
                have dE : (w9.setCell ⟨w.heap.size + 1, 0, none⟩ (.bool true)).heap[D]? = some (.deferred (some [])) := (Below.heap_setCell _ _ _ _ (by simp only; omega)).trans d9
                have BE := B9.setCell (p := ⟨w.heap.size + 1, 0, none⟩) (by simp) (.bool true)
                go_wp2_with fail
                refine ⟨by simp, .inl ⟨_, _, rfl, run_takeDeferred dE, ?_⟩⟩
                have RE := blk_putObj (o' := .deferred none) (R9.set 0 (.bool true)) dE rfl
                have zE := RE.cell 0
                simp at zE
                exact ⟨_, (by simp [results, Try.results7, go_sem, zE]), rfl, BE.trans (belowK_b (Nat.le_refl _) _ D _ _ (by omega) dE rfl rfl)⟩
end Go.Proofs.Ytbojbhjaeekjpaa
