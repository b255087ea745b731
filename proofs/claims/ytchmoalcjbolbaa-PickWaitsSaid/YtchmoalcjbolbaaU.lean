/- The chapter's rows: what the calls of works come to. -/
import Derived.Test.YtchmoalcjbolbaaQ
namespace Go.Proofs.Ytchmoalcjbolbaa
open Go.RowKit Go.Shelf Go.Sort
attribute [local go_sem] Oper.semAt_some

/-- What works keeps: its result's place. -/
structure WS (w0 W : World) : Prop where
  box : Blk W w0.heap.size 4 #[.bool false]
  bl : RowKit.Below w0.heap.size w0 W
theorem WS.alloc {w0 W : World} (h : WS w0 W) (o : Obj) : WS w0 (W.alloc o) := ⟨h.box.alloc _, h.bl.alloc h.bl.size _⟩
theorem WS.below {w0 W W' : World} (h : WS w0 W) (hb : RowKit.Below W.heap.size W W') : WS w0 W' := ⟨h.box.keep (hb.block _ h.box.lt), h.bl.trans (hb.mono h.bl.size)⟩
/-- .. and the picks. -/
structure WK (w0 : World) (bp : Nat) (W : World) : Prop where
  ws : WS w0 W
  p0 : W.cell? ⟨bp, 0, none⟩ = some (.int .u64 0)
  p1 : W.cell? ⟨bp, 1, none⟩ = some (.int .u64 255)
theorem WK.start {w0 W : World} {bp : Nat} (h : WS w0 W) (p0 : W.cell? ⟨bp, 0, none⟩ = some (.int .u64 0)) (p1 : W.cell? ⟨bp, 1, none⟩ = some (.int .u64 255)) : WK w0 bp W := ⟨h, p0, p1⟩
theorem WK.below {w0 W W' : World} {bp : Nat} (h : WK w0 bp W) (hb : RowKit.Below W.heap.size W W') : WK w0 bp W' :=
  ⟨h.ws.below hb, kept_below hb (Nat.le_refl _) _ _ h.p0, kept_below hb (Nat.le_refl _) _ _ h.p1⟩
theorem WK.alloc {w0 W : World} {bp : Nat} (h : WK w0 bp W) (o : Obj) : WK w0 bp (W.alloc o) := h.below ((RowKit.Below.refl _ W).alloc (Nat.le_refl _) o)
theorem ints_lit (W : World) (xs : List Int) (n : Nat) (hn : xs.length = n) (hl : n ≤ 100) (hw : ∀ x ∈ xs, W64 x) : Ints (W.alloc (.cells (xs.map (Value.int .i64)).toArray 3)) (.slice (some ⟨W.heap.size, 0, none⟩) n n) xs := by
  subst hn
  exact ints_of_blk (Blk.new W 3 _) hw (Nat.le_refl _) (by unfold maxLen; omega) (fun i x hx => by rw [List.getElem?_toArray, List.getElem?_map, hx]; rfl)
theorem w64_small {x : Int} (h : 0 ≤ x ∧ x ≤ 100) : W64 x := by unfold W64; omega
theorem below_alloc {W w' : World} {o : Obj} (h : RowKit.Below (W.alloc o).heap.size (W.alloc o) w') : RowKit.Below W.heap.size W w' := ((RowKit.Below.refl _ W).alloc (Nat.le_refl _) _).trans (h.mono (by simp))

theorem next_1 (W : World) (g : Nat) (hg : W.heap.size = g) : Calls Try.prog 11 #[.int .i64 1, .slice (some ⟨g, 0, none⟩) 3 3] (W.alloc (.cells #[.int .i64 0, .int .i64 1, .int .i64 2] 3)) fun e w' =>
    e = .returned (.tuple #[.int .i64 2, .bool true]) ∧ RowKit.Below W.heap.size W w' := by
  subst hg
  exact (Next_ok 1 _ [0, 1, 2] _ (ints_lit W [0, 1, 2] 3 rfl (by omega) (by intro x hx; simp at hx; exact w64_small (by omega)))).mono fun _ _ ⟨he, hb⟩ => ⟨he, below_alloc hb⟩
theorem next_2 (W : World) (g : Nat) (hg : W.heap.size = g) : Calls Try.prog 11 #[.int .i64 2, .slice (some ⟨g, 0, none⟩) 3 3] (W.alloc (.cells #[.int .i64 0, .int .i64 1, .int .i64 2] 3)) fun e w' =>
    e = .returned (.tuple #[.int .i64 0, .bool true]) ∧ RowKit.Below W.heap.size W w' := by
  subst hg
  exact (Next_ok 2 _ [0, 1, 2] _ (ints_lit W [0, 1, 2] 3 rfl (by omega) (by intro x hx; simp at hx; exact w64_small (by omega)))).mono fun _ _ ⟨he, hb⟩ => ⟨he, below_alloc hb⟩
theorem next_5 (W : World) : Calls Try.prog 11 #[.int .i64 5, .slice none 0 0] W fun e w' =>
    e = .returned (.tuple #[.int .i64 0, .bool false]) ∧ RowKit.Below W.heap.size W w' :=
  Next_ok 5 _ [] _ (Ints.nil W)
theorem idx_1 : idxOf 7 3 = (1, true) := by kernel_rfl
theorem idx_2 : idxOf 7 0 = (0, false) := by kernel_rfl
theorem index_1 (W : World) : Calls Try.prog 9 #[.int .u64 7, .int .i64 3] W fun e w' => e = .returned (.tuple #[.int .i64 1, .bool true]) ∧ W = w' := by
  have := Index_ok 7 3 W (w64_small (by omega))
  rwa [idx_1] at this
theorem index_2 (W : World) : Calls Try.prog 9 #[.int .u64 7, .int .i64 0] W fun e w' => e = .returned (.tuple #[.int .i64 0, .bool false]) ∧ W = w' := by
  have := Index_ok 7 0 W (w64_small (by omega))
  rwa [idx_2] at this
theorem picks_2 (W : World) (g : Nat) (hg : W.heap.size = g) : Calls Try.prog 13 #[.slice (some ⟨g, 0, none⟩) 2 2] (W.alloc (.cells #[.int .u8 0, .int .u8 255] 5)) fun e w' =>
    e = .returned (.slice (some ⟨g + 1, 0, none⟩) 2 2) ∧ w'.cell? ⟨g + 1, 0, none⟩ = some (.int .u64 0) ∧ w'.cell? ⟨g + 1, 1, none⟩ = some (.int .u64 255) ∧ RowKit.Below W.heap.size W w' := by
  subst hg
  have hb : Bys (W.alloc (.cells #[.int .u8 0, .int .u8 255] 5)) (.slice (some ⟨W.heap.size, 0, none⟩) 2 2) [0, 255] :=
    ⟨_, 2, rfl, by simp, by unfold maxLen; omega, by intro x hx; simp at hx; omega, fun _ => ⟨W.heap.size, 0, rfl, by simp, fun i x hx => by
      match i, hx with
      | 0, hx => simp at hx; subst hx; simp
      | 1, hx => simp at hx; subst hx; simp
      | i + 2, hx => simp at hx⟩⟩
  refine (Picks_ok _ [0, 255] _ hb (by simp)).mono ?_
  rintro e w' ⟨rfl, h1, h2⟩
  rw [World.size_alloc] at h1
  exact ⟨by simp, by simpa [List.range_succ] using h1.cell 0, by simpa [List.range_succ] using h1.cell 1, below_alloc h2⟩

theorem of_two (W : World) (g : Nat) (hg : W.heap.size = g) (took : Int) : Calls Try.prog 28 #[.int .i64 took, .slice (some ⟨g, 0, none⟩) 2 2] (W.alloc (.cells #[.int .i64 0, .int .i64 1] 3)) fun e w' =>
    e = .returned (.agg #[.slice (some ⟨g, 0, none⟩) 2 2, .int .i64 took]) ∧ Ints w' (.slice (some ⟨g, 0, none⟩) 2 2) [0, 1] ∧ RowKit.Below W.heap.size W w' := by
  subst hg
  refine (of_ok took _ 2 2 _).mono ?_
  rintro e w' ⟨rfl, hb⟩
  exact ⟨rfl, (ints_lit W [0, 1] 2 rfl (by omega) (by intro x hx; simp at hx; exact w64_small (by omega))).below hb, below_alloc hb⟩

theorem eql_func (B : Nat) (w : World) : (binOp .eql 45 (.func (.func 49) #[] #[.pointer (some ⟨B, 0, none⟩)]) .nilFunc).run Try.prog w = .ok (.bool false) w := by
  kernel_rfl

/-- The chapter's turns. -/
def l3 : List Tn := [⟨[0, 1], 0⟩, ⟨[0, 1], 0⟩, ⟨[0, 1], 1⟩]
theorem small3 : Small l3 := ⟨by decide, by decide⟩
theorem turns3 {W : World} {a b c : Value} (ha : Ints W a [0, 1]) (hb : Ints W b [0, 1]) (hc : Ints W c [0, 1]) (g : Nat) (hg : W.heap.size = g) :
    Turns (W.alloc (.cells #[a, .int .i64 0, b, .int .i64 0, c, .int .i64 1] 57)) (.slice (some ⟨g, 0, none⟩) 3 3) l3 := by
  subst hg
  refine turns_of_blk (l := l3) (c := 3) (Blk.new W 57 _) (by decide) (by unfold maxLen; omega) (fun i x hx => ?_)
  match i, hx with
  | 0, hx => simp [l3] at hx; subst hx; exact ⟨a, rfl, ha.alloc _, rfl, w64_small (by simp)⟩
  | 1, hx => simp [l3] at hx; subst hx; exact ⟨b, rfl, hb.alloc _, rfl, w64_small (by simp)⟩
  | 2, hx => simp [l3] at hx; subst hx; exact ⟨c, rfl, hc.alloc _, rfl, w64_small (by simp)⟩
  | i + 3, hx => simp [l3] at hx

/-- Is there a wait as long as the window? -/
def unfB (w : Int) (pre : List Ev) : List Ev → Bool
  | [] => false
  | e :: r => decide (w ≤ ((cntOf (pre ++ [e]) e.t).wt : Int)) || unfB w (pre ++ [e]) r
theorem unfB_iff (w : Int) : ∀ (evs pre : List Ev), unfB w pre evs = true ↔ ∃ p e r, evs = p ++ e :: r ∧ w ≤ ((cntOf (pre ++ p ++ [e]) e.t).wt : Int)
  | [], pre => by simp [unfB]
  | x :: r, pre => by
    unfold unfB
    rw [Bool.or_eq_true, unfB_iff w r (pre ++ [x]), decide_eq_true_eq]
    constructor
    · rintro (h | ⟨p, e, r', h1, h2⟩)
      · exact ⟨[], x, r, rfl, by simpa using h⟩
      · exact ⟨x :: p, e, r', by rw [h1]; rfl, by simpa using h2⟩
    · rintro ⟨p, e, r', h1, h2⟩
      cases p with
      | nil =>
        simp only [List.nil_append, List.cons.injEq] at h1
        obtain ⟨rfl, rfl⟩ := h1
        exact .inl (by simpa using h2)
      | cons y p =>
        simp only [List.cons_append, List.cons.injEq] at h1
        obtain ⟨rfl, rfl⟩ := h1
        exact .inr ⟨p, e, r', rfl, by simpa using h2⟩
theorem fairOf_eq (w : Int) (l : List Tn) : fairOf w l = (decide (1 ≤ w) && (badAt l).isNone && !unfB w [] (evK l l.length)) := by
  have h : unfairB w (evK l l.length) ↔ unfB w [] (evK l l.length) = true := by
    rw [unfB_iff]
    unfold unfairB
    simp
  unfold fairOf
  congr 2
  by_cases hu : unfairB w (evK l l.length)
  · rw [h.1 hu]; simp [hu]
  · have : unfB w [] (evK l l.length) = false := by
      cases hb : unfB w [] (evK l l.length) with
      | false => rfl
      | true => exact absurd (h.2 hb) hu
    rw [this]; simp [hu]
theorem fair_2 : fairOf 2 l3 = false := by rw [fairOf_eq]; kernel_rfl
theorem fair_3 : fairOf 3 l3 = true := by rw [fairOf_eq]; kernel_rfl
theorem bad_3 : badAt l3 = none := by kernel_rfl

theorem threads_3 : ThreadsOf (evK l3 l3.length) [0, 1] := by
  refine ⟨by decide, fun t => ?_⟩
  have : evK l3 l3.length = [⟨0, ⟨[0, 1], 0⟩, 0⟩, ⟨0, ⟨[0, 1], 0⟩, 1⟩, ⟨1, ⟨[0, 1], 0⟩, 0⟩, ⟨1, ⟨[0, 1], 0⟩, 1⟩, ⟨2, ⟨[0, 1], 1⟩, 0⟩, ⟨2, ⟨[0, 1], 1⟩, 1⟩] := by kernel_rfl
  rw [this]
  simp [metB]
  omega
theorem told_1 {ps : List (Int × Nat)} (h : toldOf 1 l3 ps) : ps = [(0, 1), (1, 2)] := by
  rcases h with ⟨h, _⟩ | ⟨_, ts, hts, rfl⟩
  · rw [bad_3] at h; cases h
  · rw [hts.unique threads_3]; kernel_rfl
theorem told_2 {ps : List (Int × Nat)} (h : toldOf 2 l3 ps) : ps = [(0, 2), (1, 1)] := by
  rcases h with ⟨h, _⟩ | ⟨_, ts, hts, rfl⟩
  · rw [bad_3] at h; cases h
  · rw [hts.unique threads_3]; kernel_rfl
theorem waits_3 {W : World} {v : Value} (h : Turns W v l3) : Calls Try.prog 21 #[v] W fun e w' => ∃ B u, e = .returned (.func (.func 49) #[] #[.pointer (some ⟨B, 0, none⟩)]) ∧ Told B u [(0, 1), (1, 2)] w' ∧ RowKit.Below W.heap.size W w' := by
  refine (Waits_ok v l3 W h small3).mono ?_
  rintro e w' ⟨ps, h1, B, u, rfl, _, h2, h3⟩
  rw [told_1 h1] at h2
  exact ⟨B, u, rfl, h2, h3⟩
theorem went_3 {W : World} {v : Value} (h : Turns W v l3) : Calls Try.prog 22 #[v] W fun e w' => ∃ B u, e = .returned (.func (.func 49) #[] #[.pointer (some ⟨B, 0, none⟩)]) ∧ Told B u [(0, 2), (1, 1)] w' ∧ RowKit.Below W.heap.size W w' := by
  refine (Went_ok v l3 W h small3).mono ?_
  rintro e w' ⟨ps, h1, B, u, rfl, _, h2, h3⟩
  rw [told_2 h1] at h2
  exact ⟨B, u, rfl, h2, h3⟩
theorem fairs_2 {W : World} {v : Value} (h : Turns W v l3) : Calls Try.prog 18 #[.int .i64 2, v] W fun e w' => e = .returned (.bool false) ∧ RowKit.Below W.heap.size W w' := by
  have := Fair_ok 2 v l3 W h small3 (by omega)
  rwa [fair_2] at this
theorem fairs_3 {W : World} {v : Value} (h : Turns W v l3) : Calls Try.prog 18 #[.int .i64 3, v] W fun e w' => e = .returned (.bool true) ∧ RowKit.Below W.heap.size W w' := by
  have := Fair_ok 3 v l3 W h small3 (by omega)
  rwa [fair_3] at this

/-- .. and the turns. -/
structure WT (w0 : World) (bp : Nat) (v : Value) (W : World) : Prop where
  wk : WK w0 bp W
  tn : Turns W v l3
theorem WT.below {w0 W W' : World} {bp : Nat} {v : Value} (h : WT w0 bp v W) (hb : RowKit.Below W.heap.size W W') : WT w0 bp v W' := ⟨h.wk.below hb, h.tn.below hb⟩

/-- .. and the loops' marks. -/
structure Fin2 (w0 : World) (D1 D2 : Nat) (W : World) : Prop where
  ws : WS w0 W
  d1 : W.heap[D1]? = some (.deferred (some []))
  d2 : W.heap[D2]? = some (.deferred (some []))
  ne : D1 ≠ D2
  lt1 : w0.heap.size ≤ D1
  lt2 : w0.heap.size ≤ D2
theorem Fin2.below {w0 W W' : World} {D1 D2 : Nat} (h : Fin2 w0 D1 D2 W) (hb : RowKit.Below W.heap.size W W') : Fin2 w0 D1 D2 W' :=
  ⟨h.ws.below hb, (hb.block _ (Array.getElem?_eq_some_iff.1 h.d1).1).trans h.d1, (hb.block _ (Array.getElem?_eq_some_iff.1 h.d2).1).trans h.d2, h.ne, h.lt1, h.lt2⟩
theorem Fin2.alloc {w0 W : World} {D1 D2 : Nat} (h : Fin2 w0 D1 D2 W) (o : Obj) : Fin2 w0 D1 D2 (W.alloc o) := h.below ((RowKit.Below.refl _ W).alloc (Nat.le_refl _) o)

theorem Fin2.drewN {w0 W : World} {D1 D2 : Nat} (h : Fin2 w0 D1 D2 W) (n : Nat) : Fin2 w0 D1 D2 (W.drewN n) :=
  ⟨⟨h.ws.box.drewN n, ⟨h.ws.bl.os, h.ws.bl.tape, h.ws.bl.output, h.ws.bl.size, h.ws.bl.block⟩⟩, h.d1, h.d2, h.ne, h.lt1, h.lt2⟩
theorem Fin2.shut {w0 W : World} {D1 D2 : Nat} (h : Fin2 w0 D1 D2 W) (b : Bool) :
    (W.setCell ⟨w0.heap.size, 0, none⟩ (.bool b)).heap[D2]? = some (.deferred (some [])) ∧ ((W.setCell ⟨w0.heap.size, 0, none⟩ (.bool b)).putObj D2 (.deferred none)).heap[D1]? = some (.deferred (some [])) ∧
    ((((W.setCell ⟨w0.heap.size, 0, none⟩ (.bool b)).putObj D2 (.deferred none)).putObj D1 (.deferred none)).cell? ⟨w0.heap.size, 0, none⟩ = some (.bool b)) ∧
    RowKit.Below w0.heap.size w0 (((W.setCell ⟨w0.heap.size, 0, none⟩ (.bool b)).putObj D2 (.deferred none)).putObj D1 (.deferred none)) := by
  have hlt := h.ws.box.lt
  have n1 : D1 ≠ w0.heap.size := by
    rintro e
    have h1 := h.d1
    rw [e, show _ = some (Obj.cells #[.bool false] 4 (0, 0)) from h.ws.box] at h1
    cases h1
  have n2 : D2 ≠ w0.heap.size := by
    rintro e
    have h1 := h.d2
    rw [e, show _ = some (Obj.cells #[.bool false] 4 (0, 0)) from h.ws.box] at h1
    cases h1
  have e2 : (W.setCell ⟨w0.heap.size, 0, none⟩ (.bool b)).heap[D2]? = some (.deferred (some [])) := (Below.heap_setCell _ _ _ _ (by simpa using n2)).trans h.d2
  have e1 : (W.setCell ⟨w0.heap.size, 0, none⟩ (.bool b)).heap[D1]? = some (.deferred (some [])) := (Below.heap_setCell _ _ _ _ (by simpa using n1)).trans h.d1
  have hb : Blk (((W.setCell ⟨w0.heap.size, 0, none⟩ (.bool b)).putObj D2 (.deferred none)).putObj D1 (.deferred none)) w0.heap.size 4 #[.bool b] := by
    have := h.ws.box.set 0 (.bool b)
    have := this.keep (w' := (W.setCell ⟨w0.heap.size, 0, none⟩ (.bool b)).putObj D2 (.deferred none)) (World.putObj_heap_other (Ne.symm n2))
    have := this.keep (w' := ((W.setCell ⟨w0.heap.size, 0, none⟩ (.bool b)).putObj D2 (.deferred none)).putObj D1 (.deferred none)) (World.putObj_heap_other (Ne.symm n1))
    simpa using this
  refine ⟨e2, (World.putObj_heap_other h.ne).trans e1, by simpa using hb.cell 0, ?_⟩
  have b1 : RowKit.Below w0.heap.size w0 (W.setCell ⟨w0.heap.size, 0, none⟩ (.bool b)) := h.ws.bl.setCell (Nat.le_refl _) _
  have b2 := b1.trans (belowK_b (w := w0) (Nat.le_refl _) _ _ _ (.deferred none) h.lt2 e2 rfl rfl)
  exact b2.trans (belowK_b (w := w0) (Nat.le_refl _) _ _ _ (.deferred none) h.lt1 ((World.putObj_heap_other h.ne).trans e1) rfl rfl)
theorem num_ok (x : Int) (W : World) : Calls Try.prog 17 #[.int .i64 x] W fun e w' => e = .returned (.int .i64 x) ∧ W = w' := by
  go_enter Try.func17, Try.ntmps17
  go_wp2_with fail
  go_ret
  exact ⟨rfl, rfl⟩
def r3 : List Tn := [⟨[0, 1], 0⟩, ⟨[0, 1], 1⟩, ⟨[0, 1], 0⟩]
theorem turnsR {W : World} {a b c : Value} (ha : Ints W a [0, 1]) (hb : Ints W b [0, 1]) (hc : Ints W c [0, 1]) (g : Nat) (hg : W.heap.size = g) :
    Turns (W.alloc (.cells #[a, .int .i64 0, b, .int .i64 1, c, .int .i64 0] 57)) (.slice (some ⟨g, 0, none⟩) 3 3) r3 := by
  subst hg
  refine turns_of_blk (l := r3) (c := 3) (Blk.new W 57 _) (by decide) (by unfold maxLen; omega) (fun i x hx => ?_)
  match i, hx with
  | 0, hx => simp [r3] at hx; subst hx; exact ⟨a, rfl, ha.alloc _, rfl, w64_small (by simp)⟩
  | 1, hx => simp [r3] at hx; subst hx; exact ⟨b, rfl, hb.alloc _, rfl, w64_small (by simp)⟩
  | 2, hx => simp [r3] at hx; subst hx; exact ⟨c, rfl, hc.alloc _, rfl, w64_small (by simp)⟩
  | i + 3, hx => simp [r3] at hx
theorem same_3 {W : World} {u v : Value} (hu : Turns W u (roundL 2 3)) (hv : Turns W v r3) : Calls Try.prog 27 #[u, v] W fun e w' => e = .returned (.bool true) ∧ ∃ n, w' = W.drewN n := by
  have h := Same_ok u v _ _ W hu hv
  have e : decide (roundL 2 3 = r3) = true := by kernel_rfl
  rwa [e] at h

theorem same_fin {w0 W : World} {D1 D2 : Nat} {u a b c : Value} (h : Fin2 w0 D1 D2 W ∧ Turns W u (roundL 2 3) ∧ Ints W a [0, 1] ∧ Ints W b [0, 1] ∧ Ints W c [0, 1]) (g : Nat) (hg : W.heap.size = g) :
    Calls Try.prog 27 #[u, .slice (some ⟨g, 0, none⟩) 3 3] (W.alloc (.cells #[a, .int .i64 0, b, .int .i64 1, c, .int .i64 0] 57)) fun e w' =>
      e = .returned (.bool true) ∧ w'.cell? ⟨w0.heap.size, 0, none⟩ = some (.bool false) ∧ w'.frozen? ⟨w0.heap.size, 0, none⟩ = false ∧ Hid (Fin2 w0 D1 D2 w') := by
  obtain ⟨hF, hu, ha, hb, hc⟩ := h
  refine (same_3 (hu.alloc _) (turnsR ha hb hc g hg)).mono ?_
  rintro e w' ⟨rfl, n, rfl⟩
  have hf := (hF.alloc (.cells #[a, .int .i64 0, b, .int .i64 1, c, .int .i64 0] 57)).drewN n
  exact ⟨rfl, by simpa using hf.ws.box.cell 0, hf.ws.box.frozen 0, Lib.hid hf⟩

theorem of_rev (W : World) (g : Nat) (hg : W.heap.size = g) : Calls Try.prog 28 #[.int .i64 1, .slice (some ⟨g, 0, none⟩) 2 2] (W.alloc (.cells #[.int .i64 1, .int .i64 0] 3)) fun e w' =>
    e = .returned (.agg #[.slice (some ⟨g, 0, none⟩) 2 2, .int .i64 1]) ∧ Ints w' (.slice (some ⟨g, 0, none⟩) 2 2) [1, 0] ∧ RowKit.Below W.heap.size W w' := by
  subst hg
  refine (of_ok 1 _ 2 2 _).mono ?_
  rintro e w' ⟨rfl, hb⟩
  exact ⟨rfl, (ints_lit W [1, 0] 2 rfl (by omega) (by intro x hx; simp at hx; exact w64_small (by omega))).below hb, below_alloc hb⟩
theorem of_one (W : World) (g : Nat) (hg : W.heap.size = g) : Calls Try.prog 28 #[.int .i64 0, .slice (some ⟨g, 0, none⟩) 1 1] (W.alloc (.cells #[.int .i64 0] 3)) fun e w' =>
    e = .returned (.agg #[.slice (some ⟨g, 0, none⟩) 1 1, .int .i64 0]) ∧ Ints w' (.slice (some ⟨g, 0, none⟩) 1 1) [0] ∧ RowKit.Below W.heap.size W w' := by
  subst hg
  refine (of_ok 0 _ 1 1 _).mono ?_
  rintro e w' ⟨rfl, hb⟩
  exact ⟨rfl, (ints_lit W [0] 1 rfl (by omega) (by intro x hx; simp at hx; exact w64_small (by omega))).below hb, below_alloc hb⟩
theorem turns1 {W : World} {a : Value} {xs : List Int} (t : Int) (ht : W64 t) (ha : Ints W a xs) (g : Nat) (hg : W.heap.size = g) :
    Turns (W.alloc (.cells #[a, .int .i64 t] 57)) (.slice (some ⟨g, 0, none⟩) 1 1) [⟨xs, t⟩] := by
  subst hg
  refine turns_of_blk (l := [⟨xs, t⟩]) (c := 1) (Blk.new W 57 _) (by simp) (by unfold maxLen; omega) (fun i x hx => ?_)
  match i, hx with
  | 0, hx => simp at hx; subst hx; exact ⟨a, rfl, ha.alloc _, rfl, ht⟩
  | i + 1, hx => simp at hx
theorem turns2 {W : World} {a b : Value} {xs ys : List Int} (ha : Ints W a xs) (hb : Ints W b ys) (g : Nat) (hg : W.heap.size = g) :
    Turns (W.alloc (.cells #[a, .int .i64 0, b, .int .i64 0] 57)) (.slice (some ⟨g, 0, none⟩) 2 2) [⟨xs, 0⟩, ⟨ys, 0⟩] := by
  subst hg
  refine turns_of_blk (l := [⟨xs, 0⟩, ⟨ys, 0⟩]) (c := 2) (Blk.new W 57 _) (by simp) (by unfold maxLen; omega) (fun i x hx => ?_)
  match i, hx with
  | 0, hx => simp at hx; subst hx; exact ⟨a, rfl, ha.alloc _, rfl, w64_small (by simp)⟩
  | 1, hx => simp at hx; subst hx; exact ⟨b, rfl, hb.alloc _, rfl, w64_small (by simp)⟩
  | i + 2, hx => simp at hx
theorem check_a {W : World} {a : Value} (ha : Ints W a [0, 1]) (g : Nat) (hg : W.heap.size = g) : Calls Try.prog 15 #[.slice (some ⟨g, 0, none⟩) 1 1] (W.alloc (.cells #[a, .int .i64 2] 57)) fun e w' =>
    e = .returned (.tuple #[.int .i64 0, .int .i64 2]) ∧ RowKit.Below W.heap.size W w' :=
  (Check_ok _ _ _ (turns1 2 (w64_small (by omega)) ha g hg) (by simp)).mono fun _ _ ⟨he, hb⟩ => ⟨he, below_alloc hb⟩
theorem check_b {W : World} {a : Value} (ha : Ints W a [1, 0]) (g : Nat) (hg : W.heap.size = g) : Calls Try.prog 15 #[.slice (some ⟨g, 0, none⟩) 1 1] (W.alloc (.cells #[a, .int .i64 1] 57)) fun e w' =>
    e = .returned (.tuple #[.int .i64 0, .int .i64 2]) ∧ RowKit.Below W.heap.size W w' :=
  (Check_ok _ _ _ (turns1 1 (w64_small (by omega)) ha g hg) (by simp)).mono fun _ _ ⟨he, hb⟩ => ⟨he, below_alloc hb⟩
theorem check_c {W : World} {a : Value} (ha : Ints W a [0]) (g : Nat) (hg : W.heap.size = g) : Calls Try.prog 15 #[.slice (some ⟨g, 0, none⟩) 2 2] (W.alloc (.cells #[a, .int .i64 0, .slice none 0 0, .int .i64 0] 57)) fun e w' =>
    e = .returned (.tuple #[.int .i64 1, .int .i64 2]) ∧ RowKit.Below W.heap.size W w' :=
  (Check_ok _ _ _ (turns2 ha (Ints.nil W) g hg) (by simp)).mono fun _ _ ⟨he, hb⟩ => ⟨he, below_alloc hb⟩
theorem round_a (W : World) : Calls Try.prog 25 #[.int .i64 2, .int .i64 3] W fun e w' =>
    e = .returned (.tuple #[.slice (some ⟨W.heap.size, 0, none⟩) 3 3, .int .i64 0]) ∧ Turns w' (.slice (some ⟨W.heap.size, 0, none⟩) 3 3) (roundL 2 3) ∧ RowKit.Below W.heap.size W w' :=
  Round_ok 2 3 (by omega) (by omega) (by omega) W
theorem round_b (W : World) : Calls Try.prog 25 #[.int .i64 0, .int .i64 1] W fun e w' => e = .returned (.tuple #[.slice none 0 0, .int .i64 2]) ∧ W = w' :=
  Round_bad 0 1 (.inl (by omega)) W

set_option maxRecDepth 100000 in
set_option maxHeartbeats 1600000 in
theorem works_ok (w : World) : Calls Try.prog 8 #[] w fun e w' => e = .returned (.bool true) ∧ RowKit.Below w.heap.size w w' := by
  have hS0 : WS w (w.alloc (.cells #[.bool false] 4)) := ⟨Blk.new w 4 _, (RowKit.Below.refl _ w).alloc (Nat.le_refl _) _⟩
  have Hs0 := Lib.hid hS0
  clear hS0
  refine calls_of_wp_marks 5 Try.func8 rfl ?_
  simp only [Try.ntmps8, List.size_toArray, List.length_nil, Nat.reduceSub, Array.replicate_succ, Array.replicate_zero, List.push_toArray, List.append_toArray, List.nil_append, List.cons_append]
  go_wp2_with (first
    | (go_at_call_of 9 (Value.int .i64 3); refine (index_1 _).mono ?_; rintro e w' ⟨rfl, rfl⟩)
    | (go_at_call_of 9 (Value.int .i64 0); refine (index_2 _).mono ?_; rintro e w' ⟨rfl, rfl⟩)
    | (go_at_call 13; refine (picks_2 _ _ (by simp)).mono ?_; rintro e w1 ⟨rfl, p0, p1, hb1⟩; have Hk1 := Lib.hid (WK.start (Hs0.out.below hb1) p0 p1))
    | (go_at_call_of 11 (Value.int .i64 1); refine (next_1 _ _ (by simp)).mono ?_; rintro e w2 ⟨rfl, hb2⟩; have Hk2 := Lib.hid (Hk1.out.below hb2))
    | (go_at_call_of 11 (Value.int .i64 2); refine (next_2 _ _ (by simp)).mono ?_; rintro e w3 ⟨rfl, hb3⟩; have Hk3 := Lib.hid (Hk2.out.below hb3))
    | (go_at_call_of 11 (Value.int .i64 5); refine (next_5 _).mono ?_; rintro e w4 ⟨rfl, hb4⟩; have Hk4 := Lib.hid (Hk3.out.below hb4)))
  clear p0 p1 hb1 hb2 hb3 hb4 Hk1 Hk2 Hk3 Hs0
  go_wp2_with (first
    | (go_at_call 28; have h6 := Hi6.out; refine (of_two _ _ (by simp) _).mono ?_; rintro e w7 ⟨rfl, hi7, hb7⟩; have hk7 := (Hk6.out.below hb7).alloc; have p0 := fun o => (hk7 o).p0; have p1 := fun o => (hk7 o).p1; have Hi7 := Lib.hid hi7; have Hb7 := Lib.hid hb7; clear hi7 hb7 h6)
    | (go_at_call 28; have h5 := Hi5.out; refine (of_two _ _ (by simp) _).mono ?_; rintro e w6 ⟨rfl, hi6, hb6⟩; have Hk6 := Lib.hid (Hk5.out.below hb6); have Hi6 := Lib.hid (And.intro (h5.below hb6) hi6); clear h5 hi6 hb6)
    | (go_at_call 28; refine (of_two _ _ (by simp) _).mono ?_; rintro e w5 ⟨rfl, hi5, hb5⟩; have Hk5 := Lib.hid (Hk4.out.below hb5); have Hi5 := Lib.hid hi5; clear hi5 hb5))
  have hT8 : WT w (w.heap.size + 1 + 1) (.slice (some ⟨w7.heap.size, 0, none⟩) 3 3) (w7.alloc (.cells #[.slice (some ⟨w4.heap.size, 0, none⟩) 2 2, .int .i64 0, .slice (some ⟨w5.heap.size, 0, none⟩) 2 2, .int .i64 0, .slice (some ⟨w6.heap.size, 0, none⟩) 2 2, .int .i64 1] 57)) :=
    ⟨hk7 _, turns3 (Hi6.out.1.below Hb7.out) (Hi6.out.2.below Hb7.out) Hi7.out _ rfl⟩
  obtain ⟨W8, hW8⟩ : ∃ W8, w7.alloc (.cells #[.slice (some ⟨w4.heap.size, 0, none⟩) 2 2, .int .i64 0, .slice (some ⟨w5.heap.size, 0, none⟩) 2 2, .int .i64 0, .slice (some ⟨w6.heap.size, 0, none⟩) 2 2, .int .i64 1] 57) = W8 := ⟨_, rfl⟩
  obtain ⟨g8, hg8⟩ : ∃ g, w7.heap.size = g := ⟨_, rfl⟩
  rw [hW8] at hT8 ⊢
  rw [hg8] at hT8 ⊢
  have Ht8 := Lib.hid hT8
  clear hT8 hW8 hg8 p0 p1 hk7 Hi6 Hi7 Hb7 Hk4 Hk5 Hi5 Hk6
  have heq := eql_func
  go_wp2_with (first
    | (go_at_call_of 18 (Value.int .i64 2); refine (fairs_2 Ht8.out.tn).mono ?_; rintro e w9 ⟨rfl, hb9⟩; have Ht9 := Lib.hid (Ht8.out.below hb9))
    | (go_at_call_of 18 (Value.int .i64 3); refine (fairs_3 Ht9.out.tn).mono ?_; rintro e w10 ⟨rfl, hb10⟩; have Ht10 := Lib.hid (Ht9.out.below hb10))
    | (go_at_call 21; refine (waits_3 Ht10.out.tn).mono ?_; rintro e w11 ⟨B1, u1, rfl, h11, hb11⟩; have Ht11 := Lib.hid (And.intro (Ht10.out.below hb11) h11))
    | (go_at_call 22; refine (went_3 Ht11.out.1.tn).mono ?_; rintro e w12 ⟨B2, u2, rfl, h12, hb12⟩; have Ht12 := Lib.hid (And.intro (Ht11.out.1.below hb12) (And.intro (Ht11.out.2.below hb12) h12))))
  refine wp_range 4 rfl (enters_of Try.func49 (by kernel_rfl) rfl) (tell2_seqs [(0, 1), (1, 2)] B1 u1 (by simp)) (fun _ => rfl)
    (fun pre W => RowKit.Below w12.heap.size w12 W) (fun cd pre W => False)
    (ownFrom_below (Nat.le_refl _) (Nat.le_refl _)) (fun cd s X Y row hs hg hr => hs)
    (fun pre W' hi => Ht12.out.2.1.below hi) (RowKit.Below.refl _ _)
    ?round ?done ?panic ?stop
  case round =>
    intro lp pre x rest W1 hsz hx hi
    simp only [encP]
    have hxm : x = (0, 1) ∨ x = (1, 2) := by
      have : x ∈ [((0 : Int), 1), (1, 2)] := by rw [hx]; simp
      simpa using this
    clear hx
    rcases hxm with rfl | rfl
    · gi_wp2
      refine ⟨Since.refl _ _, hi, ?_⟩
      rintro W2 ht hi2
      gi_wp2
      exact ⟨Since.refl _ _, hi2⟩
    · gi_wp2
      refine ⟨Since.refl _ _, hi, ?_⟩
      rintro W2 ht hi2
      gi_wp2
      exact ⟨Since.refl _ _, hi2⟩
  case panic => intro D ch W1 hbad; cases hbad
  case stop => rintro D cd pre W1 hD hpre h hdef; exact h.elim
  case done =>
    rintro D1 W1 _ hD1 hB1 hdef1
    have Ht13 := Lib.hid (And.intro (Ht12.out.1.below hB1) (Ht12.out.2.2.below hB1))
    have Hd1 := Lib.hid (And.intro hdef1 hD1)
    have Hl12 := Lib.hid Ht12.out.1.wk.ws.bl.size
    clear hB1 hdef1 hD1
    go_wp2_with fail
    refine wp_range 4 rfl (enters_of Try.func49 (by kernel_rfl) rfl) (tell2_seqs [(0, 2), (1, 1)] B2 u2 (by simp)) (fun _ => rfl)
      (fun pre W => RowKit.Below W1.heap.size W1 W) (fun cd pre W => False)
      (ownFrom_below (Nat.le_refl _) (Nat.le_refl _)) (fun cd s X Y row hs hg hr => hs)
      (fun pre W' hi => Ht13.out.2.below hi) (RowKit.Below.refl _ _)
      ?round2 ?done2 ?panic2 ?stop2
    case round2 =>
      intro lp pre x rest W1 hsz hx hi
      simp only [encP]
      have hxm : x = (0, 2) ∨ x = (1, 1) := by
        have : x ∈ [((0 : Int), 2), (1, 1)] := by rw [hx]; simp
        simpa using this
      clear hx
      rcases hxm with rfl | rfl
      · gi_wp2
        refine ⟨Since.refl _ _, hi, ?_⟩
        rintro W2 ht hi2
        gi_wp2
        exact ⟨Since.refl _ _, hi2⟩
      · gi_wp2
        refine ⟨Since.refl _ _, hi, ?_⟩
        rintro W2 ht hi2
        gi_wp2
        exact ⟨Since.refl _ _, hi2⟩
    case panic2 => intro D ch W1 hbad; cases hbad
    case stop2 => rintro D cd pre W1 hD hpre h hdef; exact h.elim
    case done2 =>
      rintro D2 W2 _ hD2 hB2 hdef2
      have hl1 := (Array.getElem?_eq_some_iff.1 Hd1.out.1).1
      have hF : Fin2 w D1 D2 W2 := ⟨(Ht13.out.1.below hB2).wk.ws, (hB2.block _ hl1).trans Hd1.out.1, hdef2, by omega, by have := Hl12.out; have := Hd1.out.2; omega, by have := Hl12.out; have := Hd1.out.2; omega⟩
      have Hf0 := Lib.hid hF
      clear hF hl1 hdef2 hB2 hD2
      go_wp2_with (first
        | (go_at_call_of 25 (Value.int .i64 0); refine (round_b _).mono ?_; rintro e v9 ⟨rfl, rfl⟩)
        | (go_at_call_of 25 (Value.int .i64 2); refine (round_a _).mono ?_; rintro e v8 ⟨rfl, ht8, hb8⟩; have Hf8 := Lib.hid (And.intro (Hf7.out.below hb8) ht8); clear ht8 hb8)
        | (go_at_call 15; have h := Hi6.out; refine (check_c h _ (by simp)).mono ?_; rintro e v7 ⟨rfl, hb7⟩; have Hf7 := Lib.hid (Hf6.out.below hb7); clear h hb7)
        | (go_at_call_of 28 (Value.slice none 0 0); refine (of_ok 0 none 0 0 _).mono ?_; rintro e v6 ⟨rfl, hb6⟩; have Hf6 := Lib.hid (Hf5.out.below hb6); have Hi6 := Lib.hid (Hi5.out.below hb6); clear hb6)
        | (go_at_call_of 28 (Value.int .i64 0); refine (of_one _ _ (by simp)).mono ?_; rintro e v5 ⟨rfl, hi5, hb5⟩; have Hf5 := Lib.hid (Hf4.out.below hb5); have Hi5 := Lib.hid hi5; clear hi5 hb5)
        | (go_at_call 15; have h := Hi3.out; refine (check_b h _ (by simp)).mono ?_; rintro e v4 ⟨rfl, hb4⟩; have Hf4 := Lib.hid (Hf3.out.below hb4); clear h hb4)
        | (go_at_call_of 28 (Value.int .i64 1); refine (of_rev _ _ (by simp)).mono ?_; rintro e v3 ⟨rfl, hi3, hb3⟩; have Hf3 := Lib.hid (Hf2.out.below hb3); have Hi3 := Lib.hid hi3; clear hi3 hb3)
        | (go_at_call 15; have h := Hi1.out; refine (check_a h _ (by simp)).mono ?_; rintro e v2 ⟨rfl, hb2⟩; have Hf2 := Lib.hid (Hf1.out.below hb2); clear h hb2)
        | (go_at_call_of 28 (Value.int .i64 2); refine (of_two _ _ (by simp) _).mono ?_; rintro e v1 ⟨rfl, hi1, hb1⟩; have Hf1 := Lib.hid (Hf0.out.below hb1); have Hi1 := Lib.hid hi1; clear hi1 hb1))
      clear Hi1 Hi3 Hi5 Hi6 Hf0 Hf1 Hf2 Hf3 Hf4 Hf5 Hf6 Hf7
      go_wp2_with (first
        | (go_at_call 17; refine (num_ok _ _).mono ?_; rintro e v9 ⟨rfl, rfl⟩)
        | (go_at_call 28; have h := Hi10.out; refine (of_two _ _ (by simp) _).mono ?_; rintro e v11 ⟨rfl, hi11, hb11⟩; have Hf11 := Lib.hid (And.intro (Hf10.out.1.below hb11) (And.intro (Hf10.out.2.below hb11) (And.intro (h.1.below hb11) (And.intro (h.2.below hb11) hi11)))); clear h hi11 hb11)
        | (go_at_call 28; have h := Hi9.out; refine (of_two _ _ (by simp) _).mono ?_; rintro e v10 ⟨rfl, hi10, hb10⟩; have Hf10 := Lib.hid (And.intro (Hf9.out.1.below hb10) (Hf9.out.2.below hb10)); have Hi10 := Lib.hid (And.intro (h.below hb10) hi10); clear h hi10 hb10)
        | (go_at_call 28; refine (of_two _ _ (by simp) _).mono ?_; rintro e v9 ⟨rfl, hi9, hb9⟩; have Hf9 := Lib.hid (And.intro (Hf8.out.1.below hb9) (Hf8.out.2.below hb9)); have Hi9 := Lib.hid hi9; clear hi9 hb9)
        | (go_at_call 27; refine (same_fin Hf11.out _ (by simp)).mono ?_; rintro e v12 ⟨rfl, y0, f0, Hfin⟩))
      obtain ⟨z1, z2, z3, z4⟩ := Hfin.out.shut true
      refine ⟨by simp, .inl ⟨_, _, rfl, run_takeDeferred z1, ?_⟩⟩
      refine ⟨by simp, .inl ⟨_, _, rfl, run_takeDeferred z2, ?_⟩⟩
      exact ⟨.bool true, by simp [results, Try.results8, go_sem, z3], rfl, z4⟩
end Go.Proofs.Ytchmoalcjbolbaa
