/- Parts. -/
import Derived.Test.YtmfcecfcfihgaaaPx
import Derived.Test.YtmfcecfcfihgaaaWx
import Derived.Test.YtmfcecfcfihgaaaEb
namespace Go.Proofs.Ytmfcecfcfihgaaa
open Go.RowKit Go.Shelf
attribute [local go_sem] Oper.semAt_some store_nilFunc store_func

/-- What Parts hands back of a value that may be: the iterator, and the box with the copy that it goes over. -/
def PartsP (w : World) (T : V) (e : Ending) (w' : World) : Prop :=
  ∃ pb S c, e = .returned (.func (.func 83) #[] #[.pointer (some ⟨pb, 0, none⟩)]) ∧ Blk w' pb 36 #[.int .i64 T.k, .int .i64 T.n, .slice S T.l.length c] ∧
    In w' w.heap.size w'.heap.size (.agg #[.int .i64 T.k, .int .i64 T.n, .slice S T.l.length c]) T ∧ w.heap.size ≤ pb ∧ Below w.heap.size w w'

set_option maxRecDepth 100000 in
set_option maxHeartbeats 3200000 in
theorem Parts_ok {hi : Nat} {v : Value} {T : V} (w : World) (h : In w 0 hi v T) (hh : hi ≤ w.heap.size) (hr : rightB T = true) : Calls Try.prog 23 #[v] w (PartsP w T) := by
  obtain ⟨A, c, rfl, _, _, _⟩ := h.val
  have hmf : ∀ (fn : Fn) (first cap : Array Value) (w : World), (Instr.makeFunc fn first cap).run Try.prog w = .ok (.func fn first cap) w := fun _ _ _ _ => rfl
  have hbx := BF.new w (.int .i64 T.k) (.int .i64 T.n) (.slice A T.l.length c)
  have hck := (Check_ok _ (h.after (hbx.bl.mono hh)) (Nat.le_trans hh hbx.bl.size)).mono
    (R' := fun e w' => e = .returned (.int .i64 0) ∧ BF w (.int .i64 T.k) (.int .i64 T.n) (.slice A T.l.length c) w') (fun e w' q => ⟨by rw [q.1, hr]; rfl, hbx.below q.2⟩)
  have hcp : ∀ w1, Hid (Blk w1 w.heap.size 36 #[.int .i64 T.k, .int .i64 T.n, .slice A T.l.length c] ∧ Below w.heap.size w w1) → Calls Try.prog 22 #[.agg #[.int .i64 T.k, .int .i64 T.n, .slice A T.l.length c]] w1
      fun e w' => ∃ S c', e = .returned (.agg #[.int .i64 T.k, .int .i64 T.n, .slice S T.l.length c']) ∧ Hid (In w' w.heap.size w'.heap.size (.agg #[.int .i64 T.k, .int .i64 T.n, .slice S T.l.length c']) T ∧ Below w.heap.size w w') := fun w1 h1 =>
    (Copy_ok w1 (h.after (h1.out.2.mono hh)) (Nat.le_trans hh h1.out.2.size) (right_root hr).1).mono fun e w' q => by
      obtain ⟨v', rfl, hv, hb⟩ := q
      obtain ⟨S, c', rfl, _⟩ := hv.val
      exact ⟨S, c', rfl, Lib.hid ⟨hv.mono h1.out.2.size (Nat.le_refl _), h1.out.2.trans (hb.mono h1.out.2.size)⟩⟩
  have HC := Lib.hid hcp
  clear h hbx hcp hr
  go_enter Try.func23, Try.ntmps23
  go_wp2_with (first | (go_at_call 64; refine hck.mono ?_; rintro e w1 ⟨rfl, ⟨a0, a1, a2, lt, hB⟩⟩) | (go_at_call 22; refine (HC.out _ hB).mono ?_; rintro e w2 ⟨S, c', rfl, hQ⟩))
  go_ret
  have hb2 : Below w2.heap.size w2 (w2.alloc (.cells #[.int .i64 T.k, .int .i64 T.n, .slice S T.l.length c'] 36)) := (Below.refl _ w2).alloc (Nat.le_refl _) _
  exact ⟨w2.heap.size, S, c', rfl, Blk.new w2 _ _, (hQ.out.1.after hb2).mono (Nat.le_refl _) hb2.size, hQ.out.2.size, hQ.out.2.trans (hb2.mono hQ.out.2.size)⟩

set_option maxRecDepth 100000 in
set_option maxHeartbeats 3200000 in
theorem Parts_bad {hi : Nat} {v : Value} {T : V} (w : World) (h : In w 0 hi v T) (hh : hi ≤ w.heap.size) (hr : rightB T = false) : Calls Try.prog 23 #[v] w fun e w' => e = .returned (.func (.func 82) #[] #[]) ∧ Below w.heap.size w w' := by
  obtain ⟨A, c, rfl, _, _, _⟩ := h.val
  have hbx := BF.new w (.int .i64 T.k) (.int .i64 T.n) (.slice A T.l.length c)
  have hck := (Check_ok _ (h.after (hbx.bl.mono hh)) (Nat.le_trans hh hbx.bl.size)).mono
    (R' := fun e w' => e = .returned (.int .i64 40) ∧ BF w (.int .i64 T.k) (.int .i64 T.n) (.slice A T.l.length c) w') (fun e w' q => ⟨by rw [q.1, hr]; rfl, hbx.below q.2⟩)
  clear h hbx hr
  go_enter Try.func23, Try.ntmps23
  go_wp2_with (go_at_call 64; refine hck.mono ?_; rintro e w1 ⟨rfl, ⟨a0, a1, a2, lt, hB⟩⟩)
  go_ret
  exact ⟨rfl, hB.out.2⟩

set_option maxRecDepth 100000 in
theorem parts1_seqs {α : Type} (encs : World → Nat → α → Array Value → Prop) (Snap : List α → World → Prop) : SeqsN Try.prog 82 #[] encs [] Snap := by
  intro n l J Jx Jp W _ _ _ _ _ h0
  refine callsIn_wide.2 ?_
  show Calls Try.prog 82 #[.func (.yield l) #[] #[]] W _
  go_enter Try.func82, Try.ntmps82
  go_wp2_with fail
  go_end0
  exact .inl ⟨⟨_, rfl⟩, .inl h0⟩

/-! The parts of a value that may be. -/
theorem pre_deep (T : V) : ∀ d p, p ∈ V.pre d T → d ≤ p.1 := by
  induction T using V.ind with
  | h k n l ih =>
    intro d p hp
    simp only [V.pre, List.mem_cons] at hp
    rcases hp with rfl | hp
    · exact Nat.le_refl _
    · have : d + 1 ≤ p.1 := by
        clear k n
        induction l with
        | nil => simp [V.preL] at hp
        | cons x xs ihx =>
          simp only [V.preL, List.mem_append] at hp
          rcases hp with hp | hp
          · exact ih x (by simp) _ p hp
          · exact ihx (fun y hy => ih y (by simp [hy])) hp
      omega
theorem preL_deep (l : List V) : ∀ d p, p ∈ V.preL d l → d ≤ p.1 := by
  induction l with
  | nil => intro d p hp; simp [V.preL] at hp
  | cons x xs ih =>
    intro d p hp
    simp only [V.preL, List.mem_append] at hp
    rcases hp with hp | hp
    · exact pre_deep x d p hp
    · exact ih d p hp
theorem part_root {T : V} {pre rest : List (Nat × V)} {x : Nat × V} (hx : V.pre 0 T = pre ++ x :: rest) : pre.length = 0 ↔ x.1 = 0 := by
  cases T with
  | mk k n l =>
    simp only [V.pre] at hx
    cases pre with
    | nil =>
      simp only [List.nil_append, List.cons.injEq] at hx
      rw [← hx.1]
      simp
    | cons y ys =>
      simp only [List.cons_append, List.cons.injEq] at hx
      have : x ∈ V.preL (0 + 1) l := by rw [hx.2]; simp
      have := preL_deep l _ x this
      simp; omega
theorem preL_all (l : List V) : ∀ (d : Nat) (p : Nat × V), p ∈ V.preL d l → (∀ y ∈ l, fineB y = true) → ∀ q : Nat × V → Prop, (∀ y ∈ l, ∀ d p, p ∈ V.pre d y → fineB y = true → q p) → q p := by
  induction l with
  | nil => intro d p hp; simp [V.preL] at hp
  | cons x xs ih =>
    intro d p hp hf q hq
    simp only [V.preL, List.mem_append] at hp
    rcases hp with hp | hp
    · exact hq x (by simp) d p hp (hf x (by simp))
    · exact ih d p hp (fun y hy => hf y (by simp [hy])) q (fun y hy => hq y (by simp [hy]))
theorem part_fine (T : V) : ∀ d p, p ∈ V.pre d T → fineB T = true → fineB p.2 = true := by
  induction T using V.ind with
  | h k n l ih =>
    intro d p hp hf
    simp only [V.pre, List.mem_cons] at hp
    rcases hp with rfl | hp
    · exact hf
    · rw [fine_mk, Bool.and_eq_true, List.all_eq_true] at hf
      exact preL_all l _ p hp hf.2 (fun p => fineB p.2 = true) (fun y hy d p hp hfy => ih y hy d p hp hfy)
theorem part_right {T : V} {d : Nat} {p : Nat × V} (hr : rightB T = true) (hp : p ∈ V.pre d T) : rightB p.2 = true := by
  rw [right_fine] at hr ⊢
  simp only [Bool.and_eq_true, decide_eq_true_eq] at hr ⊢
  exact ⟨Nat.le_trans (part_size T d p hp) hr.1, part_fine T d p hp hr.2⟩
end Go.Proofs.Ytmfcecfcfihgaaa
