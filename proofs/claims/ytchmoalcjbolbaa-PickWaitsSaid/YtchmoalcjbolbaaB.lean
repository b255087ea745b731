/- Index and Next, and what they go by. -/
import Derived.Test.YtchmoalcjbolbaaA
namespace Go.Proofs.Ytchmoalcjbolbaa
open Go.RowKit Go.Shelf
attribute [local go_sem] Oper.semAt_some

set_option maxHeartbeats 400000 in
theorem All_any (A : Option Addr) (n c : Nat) (w : World) : Calls Try.prog 29 #[.slice A n c] w fun e w' =>
    e = .returned (.func (.func 44) #[] #[.pointer (some ⟨w.heap.size, 0, none⟩)]) ∧ w.alloc (.cells #[.slice A n c] 24) = w' := by
  have hmf : ∀ (fn : Fn) (first cap : Array Value) (w : World), (Instr.makeFunc fn first cap).run Try.prog w = .ok (.func fn first cap) w := fun _ _ _ _ => rfl
  go_enter Try.func29, Try.ntmps29
  go_wp2
  go_ret
  exact ⟨rfl, rfl⟩

def encI (p : Nat × Int) : Array Value := #[.int .i64 (p.1 : Int), .int .i64 p.2]
structure Snap44 (B : Nat) (v : Value) (xs : List Int) (W : World) : Prop where
  box : Blk W B 24 #[v]
  ints : Ints W v xs

set_option maxRecDepth 100000 in
set_option maxHeartbeats 1600000 in
theorem all1_seqs (xs : List Int) (B : Nat) (v : Value) : Seqs Try.prog 44 #[.pointer (some ⟨B, 0, none⟩)] encI (enumL xs) none (Snap44 B v xs) := by
  intro n l J Jx W hJ hJx hS hY h0
  refine callsIn_wide.2 ?_
  have hs := hS _ _ h0
  obtain ⟨A, c, rfl, hc1, hc2⟩ := hs.ints.form
  unfold maxLen at hc2
  have c0 := hs.box.cell 0
  simp at c0
  show Calls Try.prog 44 #[.func (.yield l) #[] #[], .pointer (some ⟨B, 0, none⟩)] W _
  go_enter Try.func44, Try.ntmps44
  go_wp2_with fail
  refine (wpIn_wide (n := 5)).1 ?_
  gi_loopw [7] (fun p wr => ∃ i : Nat, i ≤ xs.length ∧ p = .int .i64 (i : Int) ∧ J ((enumL xs).take i) wr) (fun p _ => xs.length - (intOf p).toNat)
  case atStart => exact ⟨0, Nat.zero_le _, rfl, by simpa using h0⟩
  case round =>
    obtain ⟨i, hi, rfl, hJs⟩ := hrel
    have hs := hS _ _ hJs
    by_cases hlt : i < xs.length
    · obtain ⟨x, hx⟩ : ∃ x, xs[i]? = some x := ⟨_, List.getElem?_eq_getElem hlt⟩
      obtain ⟨b, o, rfl, hb, q0⟩ := hs.ints.at_ hx
      have hp := parts_at (enumL_get hx)
      obtain ⟨fn, tmps, assign, body, hy, hR⟩ := yield_depth 4 (hY _ (i, x) _ wr hp.1 hJs)
      have hi0 : (0 : Int) ≤ (i : Int) := by omega
      have hlt' : (i : Int) < (xs.length : Int) := by omega
      have Hp := Lib.hid hp
      clear hp hx
      simp only [encI] at hy
      gi_wp2
      refine hR.mono ?_
      rintro e W3 (⟨rfl, hJ3, _⟩ | ⟨rfl, hJx3, _⟩)
      · gi_wp2
        go_roundw
        case rel => exact ⟨i + 1, by omega, by go_num, by rw [Hp.out.2]; exact hJ3⟩
        case measure => simp [intOf]; omega
      · gi_wp2
        refine bodyPost_ret (results_none rfl _ _ _) rfl ?_
        first | exact .inl ⟨⟨_, rfl⟩, .inr ⟨_, ⟨_, by rw [List.append_assoc]; exact Hp.out.1.symm⟩, hJx3⟩⟩ | exact ⟨⟨_, rfl⟩, .inr ⟨_, ⟨_, by rw [List.append_assoc]; exact Hp.out.1.symm⟩, hJx3⟩⟩
    · have hltI : ¬ (i : Int) < (xs.length : Int) := by omega
      gi_wp2
      go_end0
      have hie : i = xs.length := by omega
      subst hie
      rw [List.take_of_length_le (by rw [enumL_length]; omega)] at hJs
      first | exact .inl ⟨⟨_, rfl⟩, .inl ⟨rfl, hJs⟩⟩ | exact ⟨⟨_, rfl⟩, .inl hJs⟩

/-- The next one by turns. -/
def nextOf (last : Int) (runs : List Int) : Int × Bool :=
  match runs.find? (fun t => decide (last < t)) with
  | some t => (t, true)
  | none => match runs with
    | [] => (0, false)
    | t :: _ => (t, true)

theorem nextOf_hit {last : Int} {runs : List Int} {i : Nat} {t : Int} (hx : runs[i]? = some t) (hl : last < t) (h : ∀ x ∈ runs.take i, ¬ last < x) : nextOf last runs = (t, true) := by
  have hf : runs.find? (fun t => decide (last < t)) = some t := by
    have hp := (parts_at hx).1
    rw [hp, List.find?_append, List.find?_eq_none.2 (fun x hx => by simpa using h x hx)]
    simp [hl]
  unfold nextOf
  rw [hf]
theorem nextOf_miss {last : Int} {runs : List Int} {t : Int} (hx : runs[0]? = some t) (h : ∀ x ∈ runs, ¬ last < x) : nextOf last runs = (t, true) := by
  have hf : runs.find? (fun t => decide (last < t)) = none := List.find?_eq_none.2 (fun x hx => by simpa using h x hx)
  unfold nextOf
  rw [hf]
  cases runs with
  | nil => simp at hx
  | cons a r => simp at hx; subst hx; rfl

theorem enumL_snd {α : Type} (xs : List α) : (enumL xs).map Prod.snd = xs := by
  unfold enumL
  rw [List.map_map]
  exact List.zipIdx_map_fst 0 xs
theorem enumL_split {α : Type} {xs : List α} {pre rest : List (Nat × α)} {x : Nat × α} (h : enumL xs = pre ++ x :: rest) : xs[pre.length]? = some x.2 ∧ pre.map Prod.snd = xs.take pre.length ∧ x.1 = pre.length := by
  have h1 := congrArg (List.map Prod.snd) h
  rw [enumL_snd] at h1
  refine ⟨by rw [h1]; simp, by rw [h1]; simp, ?_⟩
  have h2 : (enumL xs)[pre.length]? = some x := by rw [h]; simp
  unfold enumL at h2
  simp [List.getElem?_zipIdx] at h2
  obtain ⟨a, _, rfl⟩ := h2
  rfl

structure NI (w : World) (last t : Int) (v : Value) (W : World) : Prop where
  b0 : Blk W w.heap.size 3 #[.int .i64 last]
  b1 : Blk W (w.heap.size + 1) 3 #[.int .i64 t]
  b2 : Blk W (w.heap.size + 2) 24 #[v]
  bl : Below w.heap.size w W
theorem NI.set {w W : World} {last t : Int} {v : Value} (h : NI w last t v W) (u : Int) : NI w last u v (W.setCell ⟨w.heap.size + 1, 0, none⟩ (.int .i64 u)) :=
  ⟨h.b0.far (by simp) _, by simpa using h.b1.set 0 (.int .i64 u), h.b2.far (by simp) _, h.bl.setCell (by simp) _⟩
theorem ni_own {w : World} {last t : Int} {v : Value} {n : Nat} (hn : w.heap.size ≤ n) : OwnFrom (β := List (Nat × Int)) n (fun _ W => NI w last t v W) :=
  fun s X Y row h hg hr => ⟨ownFrom_blk _ _ _ _ s X Y row h.b0 hg hr, ownFrom_blk _ _ _ _ s X Y row h.b1 hg hr, ownFrom_blk _ _ _ _ s X Y row h.b2 hg hr, ownFrom_below (Nat.le_refl _) hn s X Y row h.bl hg hr⟩
def Passed (last : Int) (pre : List (Nat × Int)) : Prop := ∀ x ∈ pre, ¬ last < x.2
def NHit (last : Int) (rs : List Int) (t : Int) : Prop := nextOf last rs = (t, true)
def NStop (w : World) (last : Int) (rs : List Int) (v : Value) (W : World) : Prop := ∃ t, NI w last t v W ∧ NHit last rs t

theorem next_end {w W0 W1 : World} {last t : Int} {v : Value} {rs : List Int} {D : Nat} (hsz : W0.heap.size = w.heap.size + 3) (h : NI w last t v W1) (hN : NHit last rs t) (hD : W0.heap.size ≤ D) (hdef : W1.heap[D]? = some (.deferred (some []))) :
    Ending.returned (Value.tuple #[Value.int IntKind.i64 t, Value.bool true]) = .returned (.tuple #[.int .i64 (nextOf last rs).1, .bool (nextOf last rs).2]) ∧ Below w.heap.size w (W1.putObj D (.deferred none)) := by
  rw [hN]
  exact ⟨rfl, h.bl.trans (belowK_b (w := W0) (by omega) _ _ _ _ hD hdef rfl rfl)⟩

set_option maxRecDepth 100000 in
set_option maxHeartbeats 1600000 in
theorem Next_ok (last : Int) (v : Value) (runs : List Int) (w : World) (hv : Ints w v runs) : Calls Try.prog 11 #[.int .i64 last, v] w fun e w' =>
    e = .returned (.tuple #[.int .i64 (nextOf last runs).1, .bool (nextOf last runs).2]) ∧ Below w.heap.size w w' := by
  obtain ⟨A, c, rfl, hc1, hc2⟩ := hv.form
  have hm : runs.length ≤ maxLen := Nat.le_trans hc1 hc2
  unfold maxLen at hm
  cases runs with
  | nil =>
    go_enter Try.func11, Try.ntmps11
    go_wp2_with fail
    go_step3
    go_wp2_with fail
    rw [Exit.noGoto_ret]
    go_ret2
    exact ⟨rfl, (Below.refl _ w).alloc (Nat.le_refl _) _⟩
  | cons t0 rest =>
    obtain ⟨b, o, rfl, hb, q0⟩ := hv.at_ (i := 0) (x := t0) rfl
    obtain ⟨rs, hrs⟩ : ∃ rs, t0 :: rest = rs := ⟨_, rfl⟩
    have h0 : rs[0]? = some t0 := by rw [← hrs]; rfl
    have hpos : (0 : Int) < (rs.length : Int) := by rw [← hrs]; simp
    rw [hrs] at hv hm hc1 ⊢
    clear hrs
    refine calls_of_wp_marks 5 Try.func11 rfl ?_
    simp only [Try.ntmps11, List.size_toArray, List.length_cons, List.length_nil, Nat.reduceAdd, Nat.reduceSub, Array.replicate_succ, Array.replicate_zero, List.push_toArray, List.append_toArray, List.nil_append, List.cons_append]
    go_wp2_with fail
    go_step3
    rw [Nat.add_zero] at q0
    go_wp2_with fail
    go_step3
    go_wp2_with (go_at_call 29; refine (All_any _ _ _ _).mono ?_; rintro e w' ⟨rfl, rfl⟩)
    obtain ⟨W0, hW0⟩ : ∃ W0, ((w.alloc (.cells #[.int .i64 last] 3)).alloc (.cells #[.int .i64 t0] 3)).alloc (.cells #[.slice (some ⟨b, o, none⟩) rs.length c] 24) = W0 := ⟨_, rfl⟩
    have hsz : W0.heap.size = w.heap.size + 3 := by rw [← hW0]; simp
    have hni : NI w last t0 (.slice (some ⟨b, o, none⟩) rs.length c) W0 := by
      rw [← hW0]
      refine ⟨((Blk.new w _ _).alloc _).alloc _, ?_, ?_, (((Below.refl _ w).alloc (Nat.le_refl _) _).alloc (by simp) _).alloc (by simp; omega) _⟩
      · have := (Blk.new (w.alloc (.cells #[.int .i64 last] 3)) 3 #[.int .i64 t0]).alloc (.cells #[.slice (some ⟨b, o, none⟩) rs.length c] 24)
        rwa [World.size_alloc] at this
      · have := Blk.new ((w.alloc (.cells #[.int .i64 last] 3)).alloc (.cells #[.int .i64 t0] 3)) 24 #[.slice (some ⟨b, o, none⟩) rs.length c]
        rwa [World.size_alloc, World.size_alloc] at this
    rw [hW0]
    refine wp_range 4 rfl (enters_of Try.func44 (by kernel_rfl) rfl) (all1_seqs rs (w.heap.size + 2) (.slice (some ⟨b, o, none⟩) rs.length c)) (fun _ => rfl)
      (fun pre W => NI w last t0 (.slice (some ⟨b, o, none⟩) rs.length c) W ∧ Passed last pre)
      (fun cd pre W => NStop w last rs (.slice (some ⟨b, o, none⟩) rs.length c) W ∧ cd = .exit 0)
      ((ni_own (by omega)).and (fun s X Y row hs hg hr => hs))
      (fun cd s X Y row hs hg hr => by
        obtain ⟨⟨t, h1, h2⟩, h4⟩ := hs
        exact ⟨⟨t, ni_own (by omega) s X Y row h1 hg hr, h2⟩, h4⟩)
      (fun pre W' hi => ⟨hi.1.b2, hv.below hi.1.bl⟩) ⟨hni, by simp [Passed]⟩
      ?round ?done ?panic ?stop
    case round =>
      intro l' pre x rest W1 hsz1 hx hi
      simp only [encI]
      gi_wp2
      refine ⟨Since.refl _ _, hi, ?_⟩
      rintro W2 ht ⟨i, ip⟩
      have z0 := i.b0.cell 0
      have z1 := i.b1.cell 0
      have f1 := i.b1.frozen 0
      simp at z0 z1
      obtain ⟨e1, e2, _⟩ := enumL_split hx
      have Hp := Lib.hid ip
      have Hi := Lib.hid i
      clear ht hx i hi ip
      by_cases hl : last < x.2
      · have hN : NHit last rs x.2 := nextOf_hit e1 hl (by
          rw [← e2]
          intro y hy
          obtain ⟨z, hz, rfl⟩ := List.mem_map.1 hy
          exact Hp.out z hz)
        clear e1 e2
        gi_wp2
        exact ⟨(Since.refl _ _).setCell (by simp; omega) _, ⟨_, Hi.out.set _, hN⟩, rfl⟩
      · have hP : Passed last (pre ++ [x]) := by
          intro y hy
          rcases List.mem_append.1 hy with hy | hy
          · exact Hp.out y hy
          · simp at hy; subst hy; exact hl
        clear e1 e2
        gi_wp2
        exact ⟨Since.refl _ _, Hi.out, hP⟩
    case done =>
      rintro D W1 _ hD ⟨i, ip⟩ hdef
      have z1 := i.b1.cell 0
      simp at z1
      have hN : NHit last rs t0 := nextOf_miss h0 (by
        intro y hy
        rw [← enumL_snd rs] at hy
        obtain ⟨z, hz, rfl⟩ := List.mem_map.1 hy
        exact ip z hz)
      go_wp2
      try rw [Exit.noGoto_ret]
      refine ⟨by simp, .inl ⟨_, _, rfl, run_takeDeferred hdef, ?_⟩⟩
      refine ⟨_, results_tmp2 (t := 4) (u := 5) rfl _ _ _, ?_⟩
      exact next_end hsz i hN hD hdef
    case panic =>
      intro D ch W1 hbad
      cases hbad
    case stop =>
      rintro D cd pre W1 hD hpre ⟨⟨t, i, hN⟩, rfl⟩ hdef
      have z1 := i.b1.cell 0
      simp at z1
      go_wp2
      try rw [Exit.noGoto_ret]
      refine ⟨by simp, .inl ⟨_, _, rfl, run_takeDeferred hdef, ?_⟩⟩
      refine ⟨_, results_tmp2 (t := 4) (u := 5) rfl _ _ _, ?_⟩
      exact next_end hsz i hN hD hdef
end Go.Proofs.Ytchmoalcjbolbaa
