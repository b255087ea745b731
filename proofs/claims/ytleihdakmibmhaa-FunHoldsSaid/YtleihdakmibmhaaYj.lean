/- The order of the nodes of a function that may be: each once, children before and in their order, the root last. -/
import Derived.Test.YtleihdakmibmhaaFu
namespace Go.Proofs.Ytleihdakmibmhaa
open Go.RowKit

structure Tr (F : Fd) (st : ST) : Prop where
  run : RunP F F.ns.length st
  tree : TreeF F
  uniq : ∀ (i : Nat) (x : Nd) (m m' : Nat) (c : Int), F.ns[i]? = some x → x.l[m]? = some c → x.l[m']? = some c → m' = m
theorem tr_of {F : Fd} {st : ST} (h : placesF F = .ok st) : Tr F st := by
  obtain ⟨hb, hr⟩ := places_ok h
  refine ⟨placesP h, tree_of h, fun i x m m' c hx h1 h2 => ?_⟩
  have hlt := (List.getElem?_eq_some_iff.1 hx).1
  obtain ⟨s1, s2, r1, r2, hs⟩ := runF_all hr i x hlt hx
  obtain ⟨_, ha⟩ := stepN_some hs
  have ih := runP (tree_of h).one (Nat.le_of_lt hlt) r1
  exact (adopt_kid ha ih.l1 ih.l2 m c h1).2.2.2 m' h2
theorem kidsF_cons (F : Fd) (f : Nat) (c : Int) (l : List Int) : kidsF F f (c :: l) = doneF F f c.toNat ++ kidsF F f l := by simp [kidsF]
theorem done_ge {F : Fd} (hT : TreeF F) : ∀ (f i j : Nat), j ∈ doneF F f i → i ≤ j ∧ j < F.ns.length
  | 0, i, j, h => by simp [doneF] at h
  | f + 1, i, j, h => by
    cases hx : F.ns[i]? with
    | none => simp [doneF, hx] at h
    | some x =>
      have hlt := (List.getElem?_eq_some_iff.1 hx).1
      rw [doneF_succ hx, List.mem_append] at h
      rcases h with h | h
      · unfold kidsF at h
        rw [List.mem_flatten] at h
        obtain ⟨q, hq, hj⟩ := h
        obtain ⟨c, hc, rfl⟩ := List.mem_map.1 hq
        have := done_ge hT f _ j hj
        have := (hT.kids i x hx).2 c hc
        omega
      · simp at h
        omega
theorem kids_gt {F : Fd} (hT : TreeF F) {f i j : Nat} {x : Nd} (hx : F.ns[i]? = some x) (h : j ∈ kidsF F f x.l) : i < j := by
  unfold kidsF at h
  rw [List.mem_flatten] at h
  obtain ⟨q, hq, hj⟩ := h
  obtain ⟨c, hc, rfl⟩ := List.mem_map.1 hq
  have := done_ge hT f _ j hj
  have := (hT.kids i x hx).2 c hc
  omega
theorem done_self {F : Fd} (hT : TreeF F) {f i : Nat} (hi : i < F.ns.length) : (doneF F (f + 1) i).count i = 1 := by
  obtain ⟨x, hx⟩ : ∃ x, F.ns[i]? = some x := ⟨_, List.getElem?_eq_getElem hi⟩
  rw [doneF_succ hx, List.count_append, List.count_eq_zero.2 (fun h => by have := kids_gt hT hx h; omega)]
  simp
theorem count_kids {F : Fd} (hT : TreeF F) {f j p : Nat} (hpj : p < j) (hf : F.ns.length ≤ j + f) (hj : j < F.ns.length) : ∀ (l : List Int), (∀ c ∈ l, 0 ≤ c) → (∀ c ∈ l, c.toNat ≠ j → (doneF F f c.toNat).count j = (doneF F f c.toNat).count p) →
    (kidsF F f l).count j = (kidsF F f l).count p + l.count (j : Int)
  | [], _, _ => by simp [kidsF]
  | c :: r, h0, ih => by
    have hr := count_kids hT hpj hf hj r (fun d hd => h0 d (by simp [hd])) (fun d hd => ih d (by simp [hd]))
    rw [kidsF_cons, List.count_append, List.count_append, hr, List.count_cons]
    have hc := h0 c (by simp)
    by_cases h : c.toNat = j
    · have e : (c == (j : Int)) = true := by rw [beq_iff_eq]; omega
      rw [h, e, if_pos rfl]
      obtain ⟨f', rfl⟩ : ∃ f', f = f' + 1 := ⟨f - 1, by omega⟩
      have hz : (doneF F (f' + 1) j).count p = 0 := List.count_eq_zero.2 (fun hm => by have := (done_ge hT _ _ _ hm).1; omega)
      rw [done_self hT hj, hz]
      omega
    · have e : (c == (j : Int)) = false := by rw [beq_eq_false_iff_ne]; omega
      rw [e, ih c (by simp) h]
      simp
      omega
theorem done_count {F : Fd} {st : ST} (h : Tr F st) {j p : Nat} (hj : j < F.ns.length) (hp : pa st j = (p : Int)) (hpj : p < j) : ∀ (f i : Nat), F.ns.length ≤ i + f → j ≠ i → (doneF F f i).count j = (doneF F f i).count p
  | 0, i, hf, hne => by simp [doneF]
  | f + 1, i, hf, hne => by
    cases hx : F.ns[i]? with
    | none => simp [doneF, hx]
    | some x =>
      have hk := (h.tree.kids i x hx).2
      by_cases hij : i < j
      · rw [doneF_succ hx, List.count_append, List.count_append, count_kids h.tree hpj (by omega) hj x.l (fun c hc => by have := hk c hc; omega) (fun c hc hcj => done_count h hj hp hpj f c.toNat (by have := hk c hc; omega) (by omega))]
        have e1 : [i].count j = 0 := List.count_eq_zero.2 (by simp; omega)
        rw [e1]
        by_cases hpi : p = i
        · have hjm : (j : Int) ∈ x.l := by
            obtain ⟨i', y, q1, q2, q3⟩ := h.run.par j (by omega) hj
            obtain ⟨m, hm⟩ := List.getElem?_of_mem q3
            have := (h.run.kid i' y m j q1 q2 hm).1
            simp only [Int.toNat_natCast] at this
            obtain rfl : i' = i := by omega
            rw [hx] at q2
            cases q2
            exact q3
          have hc1 : x.l.count (j : Int) = 1 := by
            obtain ⟨a, b, e⟩ := List.append_of_mem hjm
            have hu := h.uniq i x
            rw [e] at hu
            have ha : (j : Int) ∉ a := fun hm => by
              obtain ⟨m, hm⟩ := List.getElem?_of_mem hm
              have hl := (List.getElem?_eq_some_iff.1 hm).1
              have := hu m a.length j hx (by rw [List.getElem?_append_left hl]; exact hm) (by simp)
              omega
            have hb : (j : Int) ∉ b := fun hm => by
              obtain ⟨m, hm⟩ := List.getElem?_of_mem hm
              have := hu a.length (a.length + 1 + m) j hx (by simp) (by rw [List.getElem?_append_right (by omega), show a.length + 1 + m - a.length = m + 1 by omega]; simpa using hm)
              omega
            rw [e, List.count_append, List.count_cons_self, List.count_eq_zero.2 ha, List.count_eq_zero.2 hb]
          have e2 : [i].count p = 1 := by rw [hpi]; simp
          rw [hc1, e2]
        · have hjm : (j : Int) ∉ x.l := fun hm => by
            obtain ⟨m, hm⟩ := List.getElem?_of_mem hm
            have := (h.run.kid i x m j (List.getElem?_eq_some_iff.1 hx).1 hx hm).1
            simp only [Int.toNat_natCast] at this
            omega
          have e2 : [i].count p = 0 := List.count_eq_zero.2 (by simp; omega)
          rw [List.count_eq_zero.2 hjm, e2]
      · rw [List.count_eq_zero.2 (fun hm => by have := (done_ge h.tree _ _ _ hm).1; omega), List.count_eq_zero.2 (fun hm => by have := (done_ge h.tree _ _ _ hm).1; omega)]
theorem done_one {F : Fd} {st : ST} (h : Tr F st) : ∀ (N j : Nat), j ≤ N → j < F.ns.length → (doneF F F.ns.length 0).count j = 1
  | _, 0, _, hj => by
    have e : F.ns.length = (F.ns.length - 1) + 1 := by omega
    rw [e]
    exact done_self h.tree hj
  | 0, j + 1, hN, _ => by omega
  | N + 1, j + 1, hN, hj => by
    have h0 := h.run.ge (j + 1) (by omega) hj
    obtain ⟨p, hp⟩ : ∃ p : Nat, pa st (j + 1) = (p : Int) := ⟨(pa st (j + 1)).toNat, by omega⟩
    have hpj : p < j + 1 := by
      obtain ⟨i', y, q1, q2, q3⟩ := h.run.par (j + 1) h0 hj
      have := ((h.tree.kids i' y q2).2 _ q3).1
      obtain ⟨m, hm⟩ := List.getElem?_of_mem q3
      have hk := (h.run.kid i' y m ((j + 1 : Nat) : Int) q1 q2 hm).1
      simp only [Int.toNat_natCast] at hk
      omega
    rw [done_count h hj hp hpj _ 0 (by omega) (by omega)]
    exact done_one h N p (by omega) (by omega)
/-- Every node once. -/
theorem done_perm {F : Fd} {st : ST} (h : Tr F st) : (doneF F F.ns.length 0).Perm (List.range F.ns.length) := by
  rw [List.perm_iff_count]
  intro j
  rw [List.count_range]
  by_cases hj : j < F.ns.length
  · rw [if_pos hj, done_one h j j (Nat.le_refl _) hj]
  · rw [if_neg hj, List.count_eq_zero.2 (fun hm => hj (done_ge h.tree _ _ _ hm).2)]
theorem done_len {F : Fd} {st : ST} (h : Tr F st) : (doneF F F.ns.length 0).length = F.ns.length := by rw [(done_perm h).length_eq, List.length_range]
theorem done_mem {F : Fd} {st : ST} (h : Tr F st) {j : Nat} : j ∈ doneF F F.ns.length 0 ↔ j < F.ns.length := by rw [(done_perm h).mem_iff, List.mem_range]
theorem done_nodup {F : Fd} {st : ST} (h : Tr F st) : (doneF F F.ns.length 0).Nodup := (done_perm h).nodup_iff.2 List.nodup_range
/-- A node's own part of the order stands in it whole. -/
theorem done_part {F : Fd} (hT : TreeF F) : ∀ (f i j : Nat), F.ns.length ≤ i + f → j ∈ doneF F f i → ∃ A B f', doneF F f i = A ++ (doneF F f' j ++ B) ∧ F.ns.length ≤ j + f'
  | 0, i, j, _, h => by simp [doneF] at h
  | f + 1, i, j, hf, h => by
    cases hx : F.ns[i]? with
    | none => simp [doneF, hx] at h
    | some x =>
      have h' := h
      rw [doneF_succ hx, List.mem_append] at h
      rcases h with h | h
      · unfold kidsF at h
        rw [List.mem_flatten] at h
        obtain ⟨q, hq, hj⟩ := h
        obtain ⟨c, hc, rfl⟩ := List.mem_map.1 hq
        have hk := (hT.kids i x hx).2 c hc
        obtain ⟨A, B, f', e, hf'⟩ := done_part hT f c.toNat j (by omega) hj
        obtain ⟨m, hm⟩ := List.getElem?_of_mem hc
        refine ⟨kidsF F f (x.l.take m) ++ A, B ++ (kidsF F f (x.l.drop (m + 1)) ++ [i]), f', ?_, hf'⟩
        rw [doneF_succ hx, (kidsF_take hm).2, e]
        simp only [List.append_assoc]
      · simp at h
        subst h
        exact ⟨[], [], f + 1, by simp, hf⟩
theorem done_snoc {F : Fd} {f i : Nat} (hi : i < F.ns.length) (hf : F.ns.length ≤ i + f) : ∃ f' x, f = f' + 1 ∧ F.ns[i]? = some x ∧ doneF F f i = kidsF F f' x.l ++ [i] := by
  obtain ⟨x, hx⟩ : ∃ x, F.ns[i]? = some x := ⟨_, List.getElem?_eq_getElem hi⟩
  obtain ⟨f', rfl⟩ : ∃ f', f = f' + 1 := ⟨f - 1, by omega⟩
  exact ⟨f', x, rfl, hx, doneF_succ hx f'⟩
theorem idx_at {D U Z : List Nat} {i : Nat} (h : D.Nodup) (e : D = U ++ i :: Z) : D.idxOf i = U.length := by
  subst e
  have hn : i ∉ U := fun hm => by
    rw [List.nodup_append] at h
    exact h.2.2 i hm i (by simp) rfl
  rw [List.idxOf_append, if_neg hn]
  simp
/-- When a node is done. -/
def atF (F : Fd) (j : Nat) : Nat := (doneF F F.ns.length 0).idxOf j
theorem atF_kid {F : Fd} {st : ST} (h : Tr F st) {i m : Nat} {x : Nd} {c : Int} (hx : F.ns[i]? = some x) (hm : x.l[m]? = some c) : atF F c.toNat < atF F i := by
  have hi := (List.getElem?_eq_some_iff.1 hx).1
  have hk := (h.tree.kids i x hx).2 c (List.mem_of_getElem? hm)
  obtain ⟨A, B, f, e, hf⟩ := done_part h.tree _ 0 i (by omega) ((done_mem h).2 hi)
  obtain ⟨f', y, rfl, hy, e2⟩ := done_snoc hi hf
  rw [hx] at hy
  cases hy
  obtain ⟨f'', z, rfl, hz, e3⟩ := done_snoc (F := F) (i := c.toNat) (f := f') (by omega) (by omega)
  rw [e2, (kidsF_take hm).2, e3] at e
  have hn := done_nodup h
  have h1 := idx_at (i := c.toNat) (U := A ++ (kidsF F (f'' + 1) (x.l.take m) ++ kidsF F f'' z.l)) (Z := kidsF F (f'' + 1) (x.l.drop (m + 1)) ++ [i] ++ B) hn (by rw [e]; simp)
  have h2 := idx_at (i := i) (U := A ++ (kidsF F (f'' + 1) (x.l.take m) ++ (kidsF F f'' z.l ++ [c.toNat] ++ kidsF F (f'' + 1) (x.l.drop (m + 1))))) (Z := B) hn (by rw [e]; simp)
  unfold atF
  rw [h1, h2]
  simp only [List.length_append, List.length_cons, List.length_nil]
  omega
theorem atF_next {F : Fd} {st : ST} (h : Tr F st) {i m : Nat} {x : Nd} {c d : Int} (hx : F.ns[i]? = some x) (hm : x.l[m]? = some d) (hm' : x.l[m + 1]? = some c) : atF F d.toNat < atF F c.toNat := by
  have hi := (List.getElem?_eq_some_iff.1 hx).1
  have hk := (h.tree.kids i x hx).2 c (List.mem_of_getElem? hm')
  have hk' := (h.tree.kids i x hx).2 d (List.mem_of_getElem? hm)
  obtain ⟨A, B, f, e, hf⟩ := done_part h.tree _ 0 i (by omega) ((done_mem h).2 hi)
  obtain ⟨f', y, rfl, hy, e2⟩ := done_snoc hi hf
  rw [hx] at hy
  cases hy
  obtain ⟨f'', z, rfl, hz, e3⟩ := done_snoc (F := F) (i := c.toNat) (f := f') (by omega) (by omega)
  obtain ⟨f3, u, e4, hu, e5⟩ := done_snoc (F := F) (i := d.toNat) (f := f'' + 1) (by omega) (by omega)
  rw [e2, (kidsF_take hm').2, (kidsF_take hm).1, e3, e5] at e
  have hn := done_nodup h
  have h1 := idx_at (i := d.toNat) (U := A ++ (kidsF F (f'' + 1) (x.l.take m) ++ kidsF F f3 u.l)) (Z := kidsF F f'' z.l ++ [c.toNat] ++ (kidsF F (f'' + 1) (x.l.drop (m + 1 + 1)) ++ [i] ++ B)) hn (by rw [e]; simp)
  have h2 := idx_at (i := c.toNat) (U := A ++ (kidsF F (f'' + 1) (x.l.take m) ++ (kidsF F f3 u.l ++ [d.toNat]) ++ kidsF F f'' z.l)) (Z := kidsF F (f'' + 1) (x.l.drop (m + 1 + 1)) ++ [i] ++ B) hn (by rw [e]; simp)
  unfold atF
  rw [h1, h2]
  simp only [List.length_append, List.length_cons, List.length_nil]
  omega
theorem atF_root {F : Fd} {st : ST} (h : Tr F st) : atF F 0 + 1 = F.ns.length := by
  have h1 := h.tree.one
  obtain ⟨f', x, e, hx, e2⟩ := done_snoc (F := F) (i := 0) (f := F.ns.length) (by omega) (by omega)
  have := idx_at (done_nodup h) (i := 0) (U := kidsF F f' x.l) (Z := []) e2
  have hl := done_len h
  rw [e2, List.length_append] at hl
  unfold atF
  rw [this]
  simpa using hl
theorem atF_lt {F : Fd} {st : ST} (h : Tr F st) {j : Nat} (hj : j < F.ns.length) : atF F j < F.ns.length := by
  unfold atF
  conv => rhs; rw [← done_len h]
  exact List.idxOf_lt_length_of_mem ((done_mem h).2 hj)
/-- The variables of a node: few. -/
theorem va_range {F : Fd} {st : ST} (h : Tr F st) (hp : 0 ≤ F.p ∧ F.p ≤ 9) : ∀ (N j : Nat), j ≤ N → j < F.ns.length → 0 ≤ va st j ∧ va st j ≤ 9 + j
  | _, 0, _, _ => by rw [h.run.root.2]; omega
  | 0, j + 1, hN, _ => by omega
  | N + 1, j + 1, hN, hj => by
    obtain ⟨i, y, q1, q2, q3⟩ := h.run.par (j + 1) (h.run.ge (j + 1) (by omega) hj) hj
    have hlt := ((h.tree.kids i y q2).2 _ q3).1
    obtain ⟨m, hm⟩ := List.getElem?_of_mem q3
    have hk := (h.run.kid i y m ((j + 1 : Nat) : Int) q1 q2 hm).2
    simp only [Int.toNat_natCast] at hk
    have ih := va_range h hp N i (by omega) (by omega)
    rw [hk]
    split <;> omega
/-- What when holds behind pre. -/
def whenI (pre : List Nat) (j : Nat) : Int := if j ∈ pre then (pre.idxOf j : Int) + 1 else 0
def whenL (n : Nat) (pre : List Nat) : List Int := (List.range n).map (whenI pre)
theorem whenL_get {n : Nat} {pre : List Nat} {j : Nat} (hj : j < n) : (whenL n pre)[j]? = some (whenI pre j) := by
  unfold whenL
  rw [List.getElem?_map, List.getElem?_range hj]
  rfl
theorem whenL_nil (n : Nat) : whenL n [] = List.replicate n 0 := by
  unfold whenL
  rw [List.eq_replicate_iff]
  refine ⟨by simp, fun b hb => ?_⟩
  obtain ⟨j, _, rfl⟩ := List.mem_map.1 hb
  simp [whenI]
theorem whenI_new {pre : List Nat} {i : Nat} (hi : i ∉ pre) (j : Nat) : whenI (pre ++ [i]) j = if j = i then (pre.length : Int) + 1 else whenI pre j := by
  unfold whenI
  by_cases h : j = i
  · subst h
    rw [if_pos (by simp), if_pos rfl, List.idxOf_append, if_neg hi]
    simp
  · rw [if_neg h]
    by_cases hm : j ∈ pre
    · rw [if_pos (by simp [hm]), if_pos hm, List.idxOf_append, if_pos hm]
    · rw [if_neg (by simp [hm, h]), if_neg hm]
theorem whenL_new {n : Nat} {pre : List Nat} {i : Nat} (hi : i ∉ pre) : (whenL n pre).set i ((pre.length : Int) + 1) = whenL n (pre ++ [i]) := by
  apply List.ext_getElem?
  intro j
  by_cases hj : j < n
  · rw [whenL_get hj, whenI_new hi]
    by_cases h : j = i
    · subst h
      rw [List.getElem?_set_self (by simpa [whenL] using hj), if_pos rfl]
    · rw [List.getElem?_set_ne (Ne.symm h), if_neg h, whenL_get hj]
  · rw [List.getElem?_eq_none (by simp [whenL]; omega), List.getElem?_eq_none (by simp [whenL]; omega)]
theorem whenI_done {F : Fd} {st : ST} (h : Tr F st) {j : Nat} (hj : j < F.ns.length) : whenI (doneF F F.ns.length 0) j = (atF F j : Int) + 1 := by
  unfold whenI
  rw [if_pos ((done_mem h).2 hj)]
  rfl
end Go.Proofs.Ytleihdakmibmhaa
