/- Waits, turn by turn. -/
import Derived.Test.YtchmoalcjbolbaaN
namespace Go.Proofs.Ytchmoalcjbolbaa

/-- How long a thread has waited when j turns are over. -/
def waitTo (l : List Tn) (t : Int) : Nat → Nat
  | 0 => 0
  | j + 1 => match l[j]? with
    | some x => if t ∈ x.runs ∧ x.took ≠ t then waitTo l t j + 1 else 0
    | none => 0
def bestTo (l : List Tn) (t : Int) : Nat → Nat
  | 0 => 0
  | j + 1 => max (bestTo l t j) (waitTo l t (j + 1))
def wentTo (l : List Tn) (t : Int) : Nat → Nat
  | 0 => 0
  | j + 1 => match l[j]? with
    | some x => if x.took = t then wentTo l t j + 1 else wentTo l t j
    | none => wentTo l t j

theorem waitTo_some {l : List Tn} {t : Int} {j : Nat} {x : Tn} (hx : l[j]? = some x) : waitTo l t (j + 1) = if t ∈ x.runs ∧ x.took ≠ t then waitTo l t j + 1 else 0 := by
  show (match l[j]? with | some x => if t ∈ x.runs ∧ x.took ≠ t then waitTo l t j + 1 else 0 | none => 0) = _
  rw [hx]
theorem wentTo_some {l : List Tn} {t : Int} {j : Nat} {x : Tn} (hx : l[j]? = some x) : wentTo l t (j + 1) = if x.took = t then wentTo l t j + 1 else wentTo l t j := by
  show (match l[j]? with | some x => if x.took = t then wentTo l t j + 1 else wentTo l t j | none => wentTo l t j) = _
  rw [hx]
theorem bestTo_succ (l : List Tn) (t : Int) (j : Nat) : bestTo l t (j + 1) = max (bestTo l t j) (waitTo l t (j + 1)) := rfl
theorem riseTo_pairwise : ∀ (xs : List Int) (l m : Int), riseTo l xs = some m → xs.Pairwise (· < ·) ∧ ∀ x ∈ xs, l < x
  | [], l, m, _ => ⟨List.Pairwise.nil, by simp⟩
  | t :: r, l, m, h => by
    unfold riseTo at h
    split at h
    · cases h
    · rename_i hlt
      obtain ⟨h1, h2⟩ := riseTo_pairwise r t m h
      refine ⟨List.pairwise_cons.2 ⟨h2, h1⟩, fun x hx => ?_⟩
      rcases List.mem_cons.1 hx with rfl | hx
      · omega
      · have := h2 x hx; omega
theorem valid_spec {x : Tn} (h : validB x = true) : x.runs.Pairwise (· < ·) ∧ (∀ t ∈ x.runs, -1 < t) ∧ x.took ∈ x.runs := by
  unfold validB at h
  rw [Bool.and_eq_true] at h
  obtain ⟨m, hm⟩ := Option.isSome_iff_exists.1 h.1
  obtain ⟨h1, h2⟩ := riseTo_pairwise _ _ _ hm
  refine ⟨h1, h2, ?_⟩
  have := h.2
  unfold hasB at this
  simpa using this
theorem valid_of {x : Tn} (h1 : x.runs.Pairwise (· < ·)) (h2 : ∀ t ∈ x.runs, -1 < t) (h3 : x.took ∈ x.runs) : validB x = true := by
  unfold validB
  rw [Bool.and_eq_true]
  refine ⟨?_, by unfold hasB; simpa using h3⟩
  have : ∀ (xs : List Int) (l : Int), xs.Pairwise (· < ·) → (∀ t ∈ xs, l < t) → (riseTo l xs).isSome = true := by
    intro xs
    induction xs with
    | nil => intro l _ _; rfl
    | cons t r ih =>
      intro l hp hl
      obtain ⟨ha, hb⟩ := List.pairwise_cons.1 hp
      unfold riseTo
      rw [if_neg (by have := hl t (List.mem_cons_self ..); omega)]
      exact ih t hb ha
  exact this _ _ h1 h2

theorem nodup_of_rising {xs : List Int} (h : xs.Pairwise (· < ·)) : xs.Nodup := h.imp (fun h => by omega)

/-- The events of one turn. -/
theorem cntOf_turn (evs : List Ev) (j : Nat) (x : Tn) (t : Int) : ∀ (ts : List Int), ts.Nodup → cntOf (evs ++ evAt j x ts) t = if t ∈ ts then countOf (cntOf evs t) j x.took t else cntOf evs t := by
  intro ts
  generalize hn : ts.length = n
  induction n generalizing ts with
  | zero => intro _; rw [List.eq_nil_of_length_eq_zero hn]; simp [evAt]
  | succ n ih =>
    intro hd
    obtain ⟨pre, s, rfl⟩ : ∃ pre s, ts = pre ++ [s] := ⟨ts.dropLast, ts.getLast (by intro h; rw [h] at hn; simp at hn), (List.dropLast_concat_getLast _).symm⟩
    have h := ih pre (by simpa using hn) (List.nodup_append.1 hd).1
    have e : evAt j x (pre ++ [s]) = evAt j x pre ++ [⟨j, x, s⟩] := by simp [evAt]
    rw [e, ← List.append_assoc, cntOf_snoc]
    by_cases hs : s = t
    · subst hs
      rw [if_pos rfl]
      have hnot : s ∉ pre := fun hm => (List.nodup_append.1 hd).2.2 s hm s (by simp) rfl
      rw [h, if_neg hnot, if_pos (by simp)]
    · rw [if_neg hs, h]
      have : t ∈ pre ++ [s] ↔ t ∈ pre := by simp; intro h; exact absurd h.symm hs
      by_cases hm : t ∈ pre
      · rw [if_pos hm, if_pos (this.2 hm)]
      · rw [if_neg hm, if_neg (fun h => hm (this.1 h))]

theorem cntOf_evK {l : List Tn} (hv : AllValid l) {j : Nat} {x : Tn} (hx : l[j]? = some x) (t : Int) : cntOf (evK l (j + 1)) t = if t ∈ x.runs then countOf (cntOf (evK l j) t) j x.took t else cntOf (evK l j) t := by
  rw [evK_succ hx]
  exact cntOf_turn _ _ _ _ _ (nodup_of_rising (valid_spec (hv x (List.mem_of_getElem? hx))).1)

/-- What is counted when j turns are over. -/
theorem cnt_spec {l : List Tn} (hv : AllValid l) (t : Int) : ∀ j, j ≤ l.length → (cntOf (evK l j) t).sn ≤ j ∧ (if (cntOf (evK l j) t).sn = j then (cntOf (evK l j) t).wt else 0) = waitTo l t j ∧ (cntOf (evK l j) t).lg = bestTo l t j ∧ (cntOf (evK l j) t).wn = wentTo l t j
  | 0, _ => by simp [evK, cntOf, cnt0, waitTo, bestTo, wentTo]
  | j + 1, hj => by
    obtain ⟨h1, h2, h3, h4⟩ := cnt_spec hv t j (by omega)
    obtain ⟨x, hx⟩ : ∃ x, l[j]? = some x := ⟨_, List.getElem?_eq_getElem (by omega)⟩
    have hs := valid_spec (hv x (List.mem_of_getElem? hx))
    have hW := waitTo_some (t := t) hx
    have hN := wentTo_some (t := t) hx
    rw [cntOf_evK hv hx, bestTo_succ]
    by_cases hm : t ∈ x.runs
    · rw [if_pos hm]
      unfold countOf
      by_cases ht : x.took = t
      · rw [if_neg (fun h => h.2 ht)] at hW
        rw [if_pos ht] at hN
        rw [if_pos ht, hW, hN]
        refine ⟨Nat.le_refl _, ?_, ?_, ?_⟩
        · simp
        · show (cntOf (evK l j) t).lg = _
          rw [h3]; omega
        · show (cntOf (evK l j) t).wn + 1 = _
          rw [h4]
      · rw [if_pos ⟨hm, ht⟩] at hW
        rw [if_neg ht] at hN
        rw [if_neg ht, hW, hN]
        refine ⟨Nat.le_refl _, ?_, ?_, h4⟩
        · simp only [if_true]
          rw [h2]
        · show max (cntOf (evK l j) t).lg _ = _
          rw [h2, h3]
    · have hne : x.took ≠ t := fun e => hm (e ▸ hs.2.2)
      rw [if_neg (fun h => hm h.1)] at hW
      rw [if_neg hne] at hN
      rw [if_neg hm, hW, hN]
      exact ⟨by omega, by rw [if_neg (by omega)], by rw [h3]; omega, h4⟩

/-- Some prefix of the events ends in a wait of w or more, just if some thread waits so long. -/
theorem unfair_iff {l : List Tn} (hv : AllValid l) (w : Int) (hw : 1 ≤ w) : unfairB w (evK l l.length) ↔ ∃ j t, j ≤ l.length ∧ w ≤ (waitTo l t j : Int) := by
  have hturn : ∀ (j : Nat) (x : Tn), l[j]? = some x → ∀ (ts : List Int) (t : Int) (rest : List Int), x.runs = ts ++ t :: rest →
      (cntOf (evK l j ++ evAt j x ts ++ [⟨j, x, t⟩]) t).wt = waitTo l t (j + 1) := by
    intro j x hx ts t rest hr
    have hlt : j < l.length := (List.getElem?_eq_some_iff.1 hx).1
    obtain ⟨_, h2, _, _⟩ := cnt_spec hv t j (by omega)
    have hs := valid_spec (hv x (List.mem_of_getElem? hx))
    have hnd := nodup_of_rising hs.1
    rw [hr] at hnd
    have hnot : t ∉ ts := fun hm => (List.nodup_append.1 hnd).2.2 t hm t (by simp) rfl
    rw [cntOf_snoc, if_pos rfl, cntOf_turn _ _ _ _ _ (List.nodup_append.1 hnd).1, if_neg hnot]
    have hmem : t ∈ x.runs := by rw [hr]; simp
    have hW := waitTo_some (t := t) hx
    unfold countOf
    by_cases ht : x.took = t
    · rw [if_neg (fun h => h.2 ht)] at hW
      rw [if_pos ht, hW]
    · rw [if_pos ⟨hmem, ht⟩] at hW
      rw [if_neg ht, hW, ← h2]
  constructor
  · rintro ⟨p, e, r, he, hwt⟩
    have hmem : e ∈ evK l l.length := by rw [he]; simp
    -- where the event stands
    have hat : ∀ n, n ≤ l.length → ∀ p r, evK l n = p ++ e :: r → ∃ j x ts rest, j < n ∧ l[j]? = some x ∧ x.runs = ts ++ e.t :: rest ∧ p ++ [e] = evK l j ++ evAt j x ts ++ [⟨j, x, e.t⟩] := by
      intro n
      induction n with
      | zero => intro _ p r h; simp [evK] at h
      | succ n ih =>
        intro hn p r h
        obtain ⟨x, hx⟩ : ∃ x, l[n]? = some x := ⟨_, List.getElem?_eq_getElem (by omega)⟩
        rw [evK_succ hx] at h
        rcases List.append_eq_append_iff.1 h with ⟨a, ha, hb⟩ | ⟨a, ha, hb⟩
        · -- the event is one of the turn n
          obtain ⟨ts, rest, hts, h1, h2⟩ : ∃ ts rest, x.runs = ts ++ rest ∧ evAt n x ts = a ∧ evAt n x rest = e :: r := by
            have h3 : x.runs.map (fun t => (⟨n, x, t⟩ : Ev)) = a ++ e :: r := hb
            obtain ⟨ts, rest, e1, e2, e3⟩ := List.map_eq_append_iff.1 h3
            exact ⟨ts, rest, e1, e2, e3⟩
          cases rest with
          | nil => simp [evAt] at h2
          | cons s rest =>
            simp only [evAt, List.map_cons, List.cons.injEq] at h2
            obtain ⟨rfl, _⟩ := h2
            exact ⟨n, x, ts, rest, by omega, hx, hts, by rw [ha, ← h1]⟩
        · cases a with
          | nil =>
            simp only [List.nil_append] at hb
            simp only [List.append_nil] at ha
            obtain ⟨ts, rest, e1, e2, e3⟩ := List.map_eq_cons_iff.1 (show x.runs.map (fun t => (⟨n, x, t⟩ : Ev)) = e :: r from hb.symm)
            refine ⟨n, x, [], rest, by omega, hx, ?_, ?_⟩
            · rw [e1, ← e2]; rfl
            · rw [ha, ← e2]; simp [evAt]
          | cons y a =>
            simp only [List.cons_append, List.cons.injEq] at hb
            obtain ⟨rfl, hb⟩ := hb
            obtain ⟨j, x', ts, rest, h1, h2, h3, h4⟩ := ih (by omega) p a ha
            exact ⟨j, x', ts, rest, by omega, h2, h3, h4⟩
    obtain ⟨j, x, ts, rest, h1, h2, h3, h4⟩ := hat l.length (Nat.le_refl _) p r he
    refine ⟨j + 1, e.t, by omega, ?_⟩
    rw [h4, hturn j x h2 ts e.t rest h3] at hwt
    exact hwt
  · rintro ⟨j, t, hj, hwt⟩
    cases j with
    | zero => simp [waitTo] at hwt; omega
    | succ j =>
      obtain ⟨x, hx⟩ : ∃ x, l[j]? = some x := ⟨_, List.getElem?_eq_getElem (by omega)⟩
      have hmem : t ∈ x.runs := by
        have h2 := hwt
        rw [waitTo_some hx] at h2
        split at h2
        · rename_i h; exact h.1
        · simp at h2; omega
      obtain ⟨ts, rest, hr⟩ := List.append_of_mem hmem
      obtain ⟨more, hmore⟩ := evK_prefix l hj
      refine ⟨evK l j ++ evAt j x ts, ⟨j, x, t⟩, evAt j x rest ++ more, ?_, ?_⟩
      · rw [hmore, evK_succ hx, hr]; simp [evAt]
      · rw [hturn j x hx ts t rest hr]; exact hwt
end Go.Proofs.Ytchmoalcjbolbaa
