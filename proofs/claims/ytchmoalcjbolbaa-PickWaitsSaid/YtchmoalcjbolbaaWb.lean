/- The reference's Threads. -/
import Derived.Test.YtchmoalcjbolbaaFa
import Derived.Test.YtchmoalcjbolbaaMa
import Derived.Test.YtchmoalcjbolbaaYp
import Derived.Deep.RegionLaw
namespace Go.Proofs.Ytchmoalcjbolbaa
open Go.RowKit Go.Shelf
attribute [local go_sem] Oper.semAt_some

structure TH (w0 : World) (evs : List Ev) (xs : List Int) (v : Value) (W : World) : Prop where
  row : Row W 3 1 v xs.length (xs.map (Value.int .i64))
  own : ∀ j, v.ownBlock = some j → w0.heap.size ≤ j
  bl : Below w0.heap.size w0 W
  th : ThreadsOf evs xs
  few : xs.length ≤ evs.length
  wf : ∀ x ∈ xs, W64 x

theorem ThreadsOf.has {evs : List Ev} {xs : List Int} {e : Ev} (h : ThreadsOf evs xs) (hm : e.t ∈ xs) : ThreadsOf (evs ++ [e]) xs := by
  refine ⟨h.rising, fun t => ?_⟩
  rw [metB_snoc, Bool.or_eq_true, ← h.mem t]
  constructor
  · exact .inl
  · rintro (h1 | h1)
    · exact h1
    · have : e.t = t := by simpa using h1
      rw [← this]; exact hm
theorem ThreadsOf.put {evs : List Ev} {xs : List Int} {e : Ev} {k : Nat} (h : ThreadsOf evs xs) (h1 : ∀ x ∈ xs.take k, x < e.t) (h2 : ∀ x ∈ xs.drop k, e.t < x) : ThreadsOf (evs ++ [e]) (xs.take k ++ [e.t] ++ xs.drop k) := by
  have hs : xs.take k ++ xs.drop k = xs := List.take_append_drop k xs
  have hp := h.rising
  rw [← hs, List.pairwise_append] at hp
  obtain ⟨p1, p2, p3⟩ := hp
  refine ⟨?_, fun t => ?_⟩
  · rw [List.append_assoc, List.pairwise_append]
    refine ⟨p1, ?_, ?_⟩
    · rw [List.singleton_append, List.pairwise_cons]
      exact ⟨h2, p2⟩
    · intro a ha b hb
      rw [List.singleton_append] at hb
      rcases List.mem_cons.1 hb with rfl | hb
      · exact h1 a ha
      · exact p3 a ha b hb
  · rw [metB_snoc, Bool.or_eq_true, ← h.mem t]
    have e1 : t ∈ xs ↔ t ∈ xs.take k ∨ t ∈ xs.drop k := by
      rw [← List.mem_append, hs]
    rw [e1]
    simp only [List.mem_append, List.mem_singleton, beq_iff_eq]
    constructor
    · rintro ((h3 | h3) | h3)
      · exact .inl (.inl h3)
      · exact .inr h3.symm
      · exact .inl (.inr h3)
    · rintro ((h3 | h3) | h3)
      · exact .inl (.inl h3)
      · exact .inr h3
      · exact .inl (.inr h3.symm)

def OverFrom (xs : List Int) (t : Int) (k : Nat) : Prop := ∀ x ∈ xs.drop k, t < x

theorem step_append_src {P : Program} {w : World} {ops : Array Oper} {o : Oper} {a : Act} {K : Act → World → Prop} {Q : Exit → Act → World → Prop} {E : Prop} (hgd : o.guard = none) (s x : Operand) (t : TypeId)
    (ho : o.op = .call { callee := .builtin .append, args := #[s, x], argTypes := #[t, t] })
    (e : TypeId) (i : TypeInfo) (z : Value) (size bytes : Nat) (ht : P.underlying t = some (.slice e)) (hi : P.info? e = some i) (hz : i.zero = some z)
    (hsize : i.size = size) (hby : i.bytes = bytes) (hzs : z.cells.size = size)
    (v : Value) (n : Nat) (xs : List Value) (hs : a.eval s = v) (hown : Row w e size v n xs)
    (Au : Option Addr) (m cu : Nat) (news : List Value) (hx : a.eval x = .slice Au m cu) (hnl : news.length = m * size) (hnew : m ≠ 0 → ∃ p, Au = some p ∧ ∀ j x, news[j]? = some x → w.cell? (p.add j) = some x) (h1 : ∀ x ∈ news, x.oneCell' = true)
    (h63 : n + m ≤ maxLen) (hbytes : (n + m) * bytes ≤ 140737488355328)
    (h : ∀ v' w', Row w' e size v' (n + m) (xs ++ news) → w.grownBy w' v.ownBlock → (v'.ownBlock = v.ownBlock ∨ v'.ownBlock = some w.heap.size) → K (a.put o.dst v') w') :
    if Region.wanted o (yielded ops a.tmps) = true then Oper.wp P o a w K Q else E := by
  have hw : Region.wanted o (yielded ops a.tmps) = true := by simp [Region.wanted, hgd]
  rw [if_pos hw]
  exact wp_append_src w s x t ho e i z size bytes ht hi hz hsize hby hzs v n xs hs hown Au m cu news hx hnl hnew h1 h63 hbytes h

theorem below_drew1 {n : Nat} {w W : World} (h : Below n w W) : Below n w W.drew := ⟨h.os, h.tape, h.output, h.size, h.block⟩
theorem below_grown {n : Nat} {w W W' : World} {row : Option Nat} (h : Below n w W) (hg : W.grownBy W' row) (hn : n ≤ W.heap.size) (hr : ∀ k, row = some k → n ≤ k) : Below n w W' :=
  ⟨hg.os.trans h.os, hg.tape.trans h.tape, hg.output.trans h.output, Nat.le_trans h.size hg.size, fun k hk => (hg.block k (by omega) (fun e => by have := hr k e.symm; omega)).trans (h.block k hk)⟩
theorem own_next {n : Nat} {W : World} {v v' : Value} (ho : v'.ownBlock = v.ownBlock ∨ v'.ownBlock = some W.heap.size) (h : ∀ k, v.ownBlock = some k → n ≤ k) (hn : n ≤ W.heap.size) : ∀ k, v'.ownBlock = some k → n ≤ k := by
  intro k hk
  rcases ho with e | e
  · exact h k (e ▸ hk)
  · rw [e] at hk; cases hk; exact hn
theorem own_lit {n g a c : Nat} (h : n ≤ g) : ∀ k, (Value.slice (some ⟨g, 0, none⟩) a c).ownBlock = some k → n ≤ k := by
  intro k hk
  simp [Value.ownBlock] at hk
  omega
theorem blk_at (w : World) (g : Nat) (hg : w.heap.size = g) (t : TypeId) (cs : Array Value) : Blk (w.alloc (.cells cs t)) g t cs := by subst hg; exact Blk.new w t cs
theorem one_cell {W : World} {g : Nat} {x : Value} (h : W.cell? ⟨g, 0, none⟩ = some x) : 1 ≠ 0 → ∃ p, (some ⟨g, 0, none⟩ : Option Addr) = some p ∧ ∀ j y, [x][j]? = some y → W.cell? (p.add j) = some y := fun _ =>
  ⟨_, rfl, fun j y hy => by
    match j, hy with
    | 0, hy => simp at hy; subst hy; exact h
    | j + 1, hy => simp at hy⟩
theorem map_one (xs : List Int) : ∀ x ∈ xs.map (Value.int .i64), x.oneCell' = true := by
  intro v hv
  obtain ⟨y, _, rfl⟩ := List.mem_map.1 hv
  rfl
theorem TH.put {w0 wr w3 : World} {evs : List Ev} {ys : List Int} {v v3 : Value} {m : Nat} {e : Ev} (h : TH w0 evs ys v wr) (hm : m ≤ ys.length) (hb : Below wr.heap.size wr w3)
    (hr : Row w3 3 1 v3 (m + 1 + (ys.length - m)) ((ys.take m).map (Value.int .i64) ++ [.int .i64 e.t] ++ (ys.drop m).map (Value.int .i64))) (ho : ∀ k, v3.ownBlock = some k → wr.heap.size ≤ k)
    (h1 : ∀ x ∈ ys.take m, x < e.t) (h2 : ∀ x ∈ ys.drop m, e.t < x) (hw : W64 e.t) : TH w0 (evs ++ [e]) (ys.take m ++ [e.t] ++ ys.drop m) v3 w3 := by
  have hl : (ys.take m ++ [e.t] ++ ys.drop m).length = m + 1 + (ys.length - m) := by simp; omega
  refine ⟨?_, fun k hk => Nat.le_trans h.bl.size (ho k hk), h.bl.trans (hb.mono h.bl.size), h.th.put h1 h2, by have := h.few; rw [hl]; simp; omega, ?_⟩
  · rw [hl]
    simpa using hr
  · intro x hx
    simp only [List.mem_append, List.mem_singleton] at hx
    rcases hx with (hx | rfl) | hx
    · exact h.wf x (List.mem_of_mem_take hx)
    · exact hw
    · exact h.wf x (List.mem_of_mem_drop hx)
theorem under_of {ys : List Int} {t s : Int} {m : Nat} (hp : ys.Pairwise (· < ·)) (hs : ys[m - 1]? = some s) (hm : 0 < m) (hst : ¬ t < s) (hn : t ∉ ys) : ∀ y ∈ ys.take m, y < t := by
  have hne : s ≠ t := fun e => hn (e ▸ List.mem_of_getElem? hs)
  have e1 : ys.take m = ys.take (m - 1) ++ [s] := by
    have := (parts_at hs).2
    have e : m - 1 + 1 = m := by omega
    rwa [e] at this
  intro y hy
  have hp2 := hp.sublist (List.take_sublist m ys)
  rw [e1] at hy hp2
  rcases List.mem_append.1 hy with hy | hy
  · have := (List.pairwise_append.1 hp2).2.2 y hy s (by simp)
    omega
  · simp at hy; omega

def ThreadsPost (l : List Tn) (w : World) (e : Ending) (w' : World) : Prop :=
  ∃ v' xs, e = .returned v' ∧ Ints w' v' xs ∧ ThreadsOf (evK l l.length) xs ∧ Below w.heap.size w w'

set_option maxRecDepth 100000 in
set_option maxHeartbeats 3200000 in
theorem refThreads_ok (v : Value) (l : List Tn) (w : World) (hl : Turns w v l) (h25 : l.length ≤ 25) (h12 : ∀ x ∈ l, x.runs.length ≤ 12) : Calls Try.prog 20 #[v] w (ThreadsPost l w) := by
  obtain ⟨i3, hi3, hy0, hy1, hy2⟩ := info_parts Try.info3
  obtain ⟨A, c, rfl, hc1, hc2⟩ := hl.form
  have hT0 : TH w [] [] (.slice none 0 0) w := ⟨Row.nil w 3 1, by intro j hj; simp [Value.ownBlock] at hj, Below.refl _ w, ⟨List.Pairwise.nil, by simp [metB]⟩, by simp, by simp⟩
  go_enter Try.func20, Try.ntmps20
  go_wp2_with fail
  go_loopw [3, 4] (fun q p wr => ∃ (i : Nat) (xs : List Int), i ≤ l.length ∧ p = .int .i64 (i : Int) ∧ TH w (evK l i) xs q wr) (fun _ p _ => l.length - (intOf p).toNat)
  case atStart => exact ⟨0, [], Nat.zero_le _, rfl, hT0⟩
  case round =>
    obtain ⟨i, xs, hi, rfl, hT⟩ := hrel
    clear hT0
    have hi0' : (0 : Int) ≤ (i : Int) := by omega
    obtain ⟨A3, c3, rfl, hd1, hd2⟩ := hT.row.form
    have hsmall : Small l := ⟨by omega, fun x hx => by have := h12 x hx; omega⟩
    by_cases hlt : i < l.length
    · have hltI : (i : Int) < (l.length : Int) := by omega
      obtain ⟨x, hx⟩ : ∃ x, l[i]? = some x := ⟨_, List.getElem?_eq_getElem hlt⟩
      have h12x := h12 x (List.mem_of_getElem? hx)
      have hev := evK_length hsmall i (by omega)
      have HT := Lib.hid hT
      have Hx := Lib.hid hx
      clear hT hx
      go_wp2_with fail
      go_loopw [3, 5] (fun q p wq => ∃ (k : Nat) (ys : List Int), k ≤ x.runs.length ∧ p = .int .i64 (k : Int) ∧ TH w (evK l i ++ evAt i x (x.runs.take k)) ys q wq) (fun _ p _ => x.runs.length - (intOf p).toNat)
      case atStart => exact ⟨0, xs, Nat.zero_le _, rfl, by simpa [evAt] using HT.out⟩
      case round =>
        obtain ⟨k, ys, hk, rfl, hU⟩ := hrel
        have hk0 : (0 : Int) ≤ (k : Int) := by omega
        obtain ⟨A8, c8, rfl, hc1, hc2⟩ := hU.row.form
        have hlr := hl.below hU.bl
        obtain ⟨b, o, B, m, d, rfl, hbl, q0, q1, q2, q3⟩ := hlr.at_ Hx.out
        obtain ⟨rfl, hxl, hxm⟩ := q1.len
        by_cases hkl : k < x.runs.length
        · have hklI : (k : Int) < (x.runs.length : Int) := by omega
          obtain ⟨t, ht⟩ : ∃ t, x.runs[k]? = some t := ⟨_, List.getElem?_eq_getElem hkl⟩
          have htw := q1.wf t (List.mem_of_getElem? ht)
          obtain ⟨b2, o2, rfl, hb2, q4⟩ := q1.at_ ht
          have hys := ints_of_row hU.row hU.wf
          have hI := in_ok t _ ys wr hys
          have hfew := hU.few
          have hyl : ys.length ≤ 30000 := by
            have h1 := hU.few
            have h2 : (evAt i x (x.runs.take k)).length ≤ 12 := by simp [evAt]; omega
            rw [List.length_append] at h1
            omega
          have hsn : evK l i ++ evAt i x (x.runs.take (k + 1)) = (evK l i ++ evAt i x (x.runs.take k)) ++ [⟨i, x, t⟩] := by
            rw [(parts_at ht).2, List.append_assoc]
            simp [evAt]
          cases hm : hasB ys t
          · rw [hm] at hI
            have HS := Lib.hid hsn
            have HM := Lib.hid hm
            have HU := Lib.hid hU
            clear ht hsn hm hU
            go_wp2_with (go_at_call 38; refine hI.mono ?_; rintro e w' ⟨rfl, rfl⟩)
            have hnot : t ∉ ys := by have := HM.out; unfold hasB at this; simpa using this
            have hO : OverFrom ys t ys.length := by simp [OverFrom]
            go_loopw [7] (fun p wq => ∃ m : Nat, m ≤ ys.length ∧ p = .int .i64 (m : Int) ∧ wr = wq ∧ OverFrom ys t m) (fun p _ => (intOf p).toNat)
            case atStart => exact ⟨ys.length, Nat.le_refl _, rfl, rfl, hO⟩
            case round =>
              obtain ⟨m, hm, rfl, rfl, hOm⟩ := hrel
              clear hO
              have hm0 : (0 : Int) ≤ (m : Int) := by omega
              by_cases hmp : 0 < m
              · have hmpI : (0 : Int) < (m : Int) := by omega
                have hk1 : (0 : Int) ≤ (m : Int) - 1 := by omega
                have hk3 : (1 : Int) ≤ (m : Int) := by omega
                have hk4 : ¬ (m : Int) < 1 := by omega
                have hk5 : ¬ (m : Int) - 1 < 0 := by omega
                have hk2 : (m : Int) - 1 < (ys.length : Int) := by omega
                have hwr : IntKind.i64.wrap ((m : Int) - 1) = (m : Int) - 1 := wrap_small _ (by omega) (by omega)
                obtain ⟨s, hs⟩ : ∃ s, ys[m - 1]? = some s := ⟨_, List.getElem?_eq_getElem (by omega)⟩
                obtain ⟨b3, o3, rfl, hb3, q5⟩ := hys.at_ hs
                by_cases hst : t < s
                · have hOn : OverFrom ys t (m - 1) := by
                    intro y hy
                    have e1 : ys.drop (m - 1) = s :: ys.drop m := by
                      have h1 := List.drop_eq_getElem_cons (l := ys) (i := m - 1) (by omega)
                      rw [(List.getElem?_eq_some_iff.1 hs).2] at h1
                      have h2 : m - 1 + 1 = m := by omega
                      rw [h2] at h1
                      exact h1
                    rw [e1] at hy
                    rcases List.mem_cons.1 hy with rfl | hy
                    · exact hst
                    · exact hOm y hy
                  have HO := Lib.hid hOn
                  clear hOn hOm hs
                  go_wp2_with fail
                  exact ⟨⟨m - 1, by omega, by first | go_num | (congr 1; omega), trivial, HO.out⟩, by simp [intOf]; omega⟩
                · have hUnd : ∀ y ∈ ys.take m, y < t := under_of HU.out.th.rising hs hmp hst hnot
                  have hS1 : ∀ W', Below wr.heap.size wr W' → (m ≠ 0 → ∃ p, (some ⟨b3, o3, none⟩ : Option Addr) = some p ∧ ∀ j x, ((ys.take m).map (Value.int .i64))[j]? = some x → W'.cell? (p.add j) = some x) := by
                    intro W' hb _
                    obtain ⟨p, hp, hc⟩ := (hys.below hb).src (by omega)
                    refine ⟨p, hp, fun j y hy => hc j y ?_⟩
                    rw [List.map_take] at hy
                    have hlt := (List.getElem?_eq_some_iff.1 hy).1
                    simp at hlt
                    rwa [List.getElem?_take_of_lt (by omega)] at hy
                  have hS2 : ∀ W', Below wr.heap.size wr W' → (ys.length - m ≠ 0 → ∃ p, (if c8 = m then (some ⟨b3, o3, none⟩ : Option Addr) else some ⟨b3, o3 + m, none⟩) = some p ∧ ∀ j x, ((ys.drop m).map (Value.int .i64))[j]? = some x → W'.cell? (p.add j) = some x) := by
                    intro W' hb hne
                    rw [if_neg (by omega)]
                    obtain ⟨p, hp, hc⟩ := (hys.below hb).src (by omega)
                    cases hp
                    refine ⟨_, rfl, fun j y hy => ?_⟩
                    rw [List.map_drop, List.getElem?_drop] at hy
                    have := hc (m + j) y hy
                    rw [Addr.add_lit] at this ⊢
                    rw [Nat.add_assoc]
                    exact this
                  have HS1 := Lib.hid hS1
                  have HS2 := Lib.hid hS2
                  have HUnd := Lib.hid hUnd
                  have HOm := Lib.hid hOm
                  clear hS1 hS2 hUnd hOm hs
                  go_wp2_with fail
                  have q1 : (0 : Int) ≤ (ys.length : Int) := by omega
                  have q2 : (m : Int) ≤ (ys.length : Int) := by omega
                  have q3 : (m : Int) ≤ (c8 : Int) := by omega
                  have q4 : m ≤ c8 := by omega
                  have q5 : m ≤ ys.length := by omega
                  go_region_law (first
                    | (refine step_append_src rfl (.tmp 50) (.tmp 53) 24 rfl 3 i3 (.int .i64 0) 1 8 Try.underlying24 hi3 hy0 hy1 hy2 rfl (.slice (some ⟨_, 0, none⟩) 0 0) 0 [] rfl (by first | exact ((Row.made_at wr _ rfl 3 1 0 #[] [] rfl (by unfold maxLen; omega) rfl).alloc _).drew | exact (Row.made_at (wr.alloc _) _ (by simp) 3 1 0 #[] [] rfl (by unfold maxLen; omega) rfl).drew | exact (Row.made_at wr _ rfl 3 1 0 #[] [] rfl (by unfold maxLen; omega) rfl).drew) _ m _ ((List.take m ys).map (Value.int .i64)) rfl (by first | (simp; done) | (simp; omega)) (by first | exact HS1.out _ (below_drew1 (((Below.refl _ wr).alloc (Nat.le_refl _) _).alloc (by simp) _)) | exact HS1.out _ (below_drew1 ((Below.refl _ wr).alloc (Nat.le_refl _) _)) | exact fun h => absurd rfl h) (map_one _) (by unfold maxLen; omega) (by omega) ?_
                       intro v1 w1 hr1 hg1 ho1
                       simp only [Nat.zero_add, List.nil_append] at hr1
                       obtain ⟨A1, cc1, rfl, _, _⟩ := hr1.form
                       have hb1 : Below wr.heap.size wr w1 := below_grown (by first | exact below_drew1 (((Below.refl _ wr).alloc (Nat.le_refl _) _).alloc (by simp) _) | exact below_drew1 ((Below.refl _ wr).alloc (Nat.le_refl _) _)) hg1 (by simp; try omega) (own_lit (by omega))
                       have hq1 := own_next ho1 (own_lit (n := wr.heap.size) (by omega)) (by simp; try omega))
                    | (refine step_append_src rfl (.tmp 54) (.tmp 56) 24 rfl 3 i3 (.int .i64 0) 1 8 Try.underlying24 hi3 hy0 hy1 hy2 rfl (.slice A1 m cc1) m ((List.take m ys).map (Value.int .i64)) rfl (by first | exact hr1 | exact hr1.alloc _) (some ⟨_, 0, none⟩) 1 1 [.int .i64 t] rfl rfl (by
                          first
                            | exact one_cell ((blk_at w1 _ rfl 3 #[.int .i64 t]).cell 0)
                            | exact one_cell ((Blk.keep ((blk_at (wr.alloc (.cells #[] 3)) (wr.heap.size + 1) (by simp) 3 #[.int .i64 t]).drew) (hg1.block _ (by simp) (by simp [Value.ownBlock]))).cell 0)
                            | exact one_cell ((Blk.keep (((blk_at wr wr.heap.size rfl 3 #[.int .i64 t]).alloc (.cells #[] 3)).drew) (hg1.block _ (by simp; try omega) (by simp [Value.ownBlock]))).cell 0)) (by intro x hx; simp at hx; subst hx; rfl) (by unfold maxLen; omega) (by omega) ?_
                       intro v2 w2 hr2 hg2 ho2
                       obtain ⟨A2, cc2, rfl, _, _⟩ := hr2.form
                       have hs1 := hb1.size
                       have hb2 : Below wr.heap.size wr w2 := below_grown (by first | exact hb1 | exact hb1.alloc (hb1.size) _) hg2 (by first | exact hs1 | (simp; omega)) hq1
                       have hq2 := own_next ho2 hq1 (by first | exact hs1 | (simp; omega)))
                    | (refine step_append_src rfl (.tmp 57) (.tmp 60) 24 rfl 3 i3 (.int .i64 0) 1 8 Try.underlying24 hi3 hy0 hy1 hy2 rfl (.slice A2 (m + 1) cc2) (m + 1) ((List.take m ys).map (Value.int .i64) ++ [.int .i64 t]) rfl hr2 _ (List.length ys - m) _ ((List.drop m ys).map (Value.int .i64)) rfl (by simp) (by first | exact HS2.out _ hb2 | exact fun h => absurd rfl h) (map_one _) (by unfold maxLen; omega) (by omega) ?_
                       intro v3 w3 hr3 hg3 ho3
                       obtain ⟨A3, cc3, rfl, _, _⟩ := hr3.form
                       have hb3 : Below wr.heap.size wr w3 := below_grown hb2 hg3 hb2.size hq2
                       have hq3 := own_next ho3 hq2 hb2.size
                       have hTn := HU.out.put (e := ⟨i, x, t⟩) hm hb3 hr3 hq3 HUnd.out HOm.out htw))
                  all_goals rw [← HS.out] at hTn
                  all_goals go_wp2_with fail
                  all_goals exact ⟨⟨k + 1, _, by omega, by go_num, hTn⟩, by simp [intOf]; omega⟩
              · obtain rfl : m = 0 := by omega
                have HOm := Lib.hid hOm
                have HUnd : Hid (∀ y ∈ ys.take 0, y < t) := Lib.hid (by simp)
                rcases HU.out.row.2 with ⟨hv, hl0⟩ | ⟨b3, cap3, cur3, hv, _⟩
                · simp only [Value.slice.injEq] at hv
                  obtain ⟨rfl, _, rfl⟩ := hv
                  obtain rfl : ys = [] := List.eq_nil_of_length_eq_zero hl0
                  clear hOm
                  go_wp2_with fail
                  go_region_law (first
                    | (refine step_append_src rfl (.tmp 50) (.tmp 53) 24 rfl 3 i3 (.int .i64 0) 1 8 Try.underlying24 hi3 hy0 hy1 hy2 rfl (.slice (some ⟨_, 0, none⟩) 0 0) 0 [] rfl (by first | exact ((Row.made_at wr _ rfl 3 1 0 #[] [] rfl (by unfold maxLen; omega) rfl).alloc _).drew | exact (Row.made_at (wr.alloc _) _ (by simp) 3 1 0 #[] [] rfl (by unfold maxLen; omega) rfl).drew | exact (Row.made_at wr _ rfl 3 1 0 #[] [] rfl (by unfold maxLen; omega) rfl).drew) _ 0 _ ((List.take 0 ([] : List Int)).map (Value.int .i64)) rfl (by first | (simp; done) | (simp; omega)) (by first | exact HS1.out _ (below_drew1 (((Below.refl _ wr).alloc (Nat.le_refl _) _).alloc (by simp) _)) | exact HS1.out _ (below_drew1 ((Below.refl _ wr).alloc (Nat.le_refl _) _)) | exact fun h => absurd rfl h) (map_one _) (by unfold maxLen; omega) (by omega) ?_
                       intro v1 w1 hr1 hg1 ho1
                       simp only [Nat.zero_add, List.nil_append] at hr1
                       obtain ⟨A1, cc1, rfl, _, _⟩ := hr1.form
                       have hb1 : Below wr.heap.size wr w1 := below_grown (by first | exact below_drew1 (((Below.refl _ wr).alloc (Nat.le_refl _) _).alloc (by simp) _) | exact below_drew1 ((Below.refl _ wr).alloc (Nat.le_refl _) _)) hg1 (by simp; try omega) (own_lit (by omega))
                       have hq1 := own_next ho1 (own_lit (n := wr.heap.size) (by omega)) (by simp; try omega))
                    | (refine step_append_src rfl (.tmp 54) (.tmp 56) 24 rfl 3 i3 (.int .i64 0) 1 8 Try.underlying24 hi3 hy0 hy1 hy2 rfl (.slice A1 0 cc1) 0 ((List.take 0 ([] : List Int)).map (Value.int .i64)) rfl (by first | exact hr1 | exact hr1.alloc _) (some ⟨_, 0, none⟩) 1 1 [.int .i64 t] rfl rfl (by
                          first
                            | exact one_cell ((blk_at w1 _ rfl 3 #[.int .i64 t]).cell 0)
                            | exact one_cell ((Blk.keep ((blk_at (wr.alloc (.cells #[] 3)) (wr.heap.size + 1) (by simp) 3 #[.int .i64 t]).drew) (hg1.block _ (by simp) (by simp [Value.ownBlock]))).cell 0)
                            | exact one_cell ((Blk.keep (((blk_at wr wr.heap.size rfl 3 #[.int .i64 t]).alloc (.cells #[] 3)).drew) (hg1.block _ (by simp; try omega) (by simp [Value.ownBlock]))).cell 0)) (by intro x hx; simp at hx; subst hx; rfl) (by unfold maxLen; omega) (by omega) ?_
                       intro v2 w2 hr2 hg2 ho2
                       obtain ⟨A2, cc2, rfl, _, _⟩ := hr2.form
                       have hs1 := hb1.size
                       have hb2 : Below wr.heap.size wr w2 := below_grown (by first | exact hb1 | exact hb1.alloc (hb1.size) _) hg2 (by first | exact hs1 | (simp; omega)) hq1
                       have hq2 := own_next ho2 hq1 (by first | exact hs1 | (simp; omega)))
                    | (refine step_append_src rfl (.tmp 57) (.tmp 60) 24 rfl 3 i3 (.int .i64 0) 1 8 Try.underlying24 hi3 hy0 hy1 hy2 rfl (.slice A2 (0 + 1) cc2) (0 + 1) ((List.take 0 ([] : List Int)).map (Value.int .i64) ++ [.int .i64 t]) rfl hr2 _ (List.length ([] : List Int) - 0) _ ((List.drop 0 ([] : List Int)).map (Value.int .i64)) rfl (by simp) (by first | exact HS2.out _ hb2 | exact fun h => absurd rfl h) (map_one _) (by unfold maxLen; omega) (by omega) ?_
                       intro v3 w3 hr3 hg3 ho3
                       obtain ⟨A3, cc3, rfl, _, _⟩ := hr3.form
                       have hb3 : Below wr.heap.size wr w3 := below_grown hb2 hg3 hb2.size hq2
                       have hq3 := own_next ho3 hq2 hb2.size
                       have hTn := HU.out.put (e := ⟨i, x, t⟩) hm hb3 hr3 hq3 HUnd.out HOm.out htw))
                  all_goals rw [← HS.out] at hTn
                  all_goals go_wp2_with fail
                  all_goals exact ⟨⟨k + 1, _, by omega, by go_num, hTn⟩, by simp [intOf]; omega⟩
                · simp only [Value.slice.injEq, true_and] at hv
                  obtain ⟨rfl, rfl⟩ := hv
                  have HS1 : Hid True := Lib.hid trivial
                  have hS2 : ∀ W', Below wr.heap.size wr W' → (ys.length ≠ 0 → ∃ p, (some ⟨b3, 0, none⟩ : Option Addr) = some p ∧ ∀ j x, (ys.map (Value.int .i64))[j]? = some x → W'.cell? (p.add j) = some x) := fun W' hb => (hys.below hb).src
                  have HS2 := Lib.hid hS2
                  clear hOm hS2
                  go_wp2_with fail
                  have q1 : (0 : Int) ≤ (ys.length : Int) := by omega
                  have q3 : (ys.length : Int) ≤ (c8 : Int) := by omega
                  go_region_law (first
                    | (refine step_append_src rfl (.tmp 50) (.tmp 53) 24 rfl 3 i3 (.int .i64 0) 1 8 Try.underlying24 hi3 hy0 hy1 hy2 rfl (.slice (some ⟨_, 0, none⟩) 0 0) 0 [] rfl (by first | exact ((Row.made_at wr _ rfl 3 1 0 #[] [] rfl (by unfold maxLen; omega) rfl).alloc _).drew | exact (Row.made_at (wr.alloc _) _ (by simp) 3 1 0 #[] [] rfl (by unfold maxLen; omega) rfl).drew | exact (Row.made_at wr _ rfl 3 1 0 #[] [] rfl (by unfold maxLen; omega) rfl).drew) _ 0 _ ((List.take 0 ys).map (Value.int .i64)) rfl (by first | (simp; done) | (simp; omega)) (by first | exact HS1.out _ (below_drew1 (((Below.refl _ wr).alloc (Nat.le_refl _) _).alloc (by simp) _)) | exact HS1.out _ (below_drew1 ((Below.refl _ wr).alloc (Nat.le_refl _) _)) | exact fun h => absurd rfl h) (map_one _) (by unfold maxLen; omega) (by omega) ?_
                       intro v1 w1 hr1 hg1 ho1
                       simp only [Nat.zero_add, List.nil_append] at hr1
                       obtain ⟨A1, cc1, rfl, _, _⟩ := hr1.form
                       have hb1 : Below wr.heap.size wr w1 := below_grown (by first | exact below_drew1 (((Below.refl _ wr).alloc (Nat.le_refl _) _).alloc (by simp) _) | exact below_drew1 ((Below.refl _ wr).alloc (Nat.le_refl _) _)) hg1 (by simp; try omega) (own_lit (by omega))
                       have hq1 := own_next ho1 (own_lit (n := wr.heap.size) (by omega)) (by simp; try omega))
                    | (refine step_append_src rfl (.tmp 54) (.tmp 56) 24 rfl 3 i3 (.int .i64 0) 1 8 Try.underlying24 hi3 hy0 hy1 hy2 rfl (.slice A1 0 cc1) 0 ((List.take 0 ys).map (Value.int .i64)) rfl (by first | exact hr1 | exact hr1.alloc _) (some ⟨_, 0, none⟩) 1 1 [.int .i64 t] rfl rfl (by
                          first
                            | exact one_cell ((blk_at w1 _ rfl 3 #[.int .i64 t]).cell 0)
                            | exact one_cell ((Blk.keep ((blk_at (wr.alloc (.cells #[] 3)) (wr.heap.size + 1) (by simp) 3 #[.int .i64 t]).drew) (hg1.block _ (by simp) (by simp [Value.ownBlock]))).cell 0)
                            | exact one_cell ((Blk.keep (((blk_at wr wr.heap.size rfl 3 #[.int .i64 t]).alloc (.cells #[] 3)).drew) (hg1.block _ (by simp; try omega) (by simp [Value.ownBlock]))).cell 0)) (by intro x hx; simp at hx; subst hx; rfl) (by unfold maxLen; omega) (by omega) ?_
                       intro v2 w2 hr2 hg2 ho2
                       obtain ⟨A2, cc2, rfl, _, _⟩ := hr2.form
                       have hs1 := hb1.size
                       have hb2 : Below wr.heap.size wr w2 := below_grown (by first | exact hb1 | exact hb1.alloc (hb1.size) _) hg2 (by first | exact hs1 | (simp; omega)) hq1
                       have hq2 := own_next ho2 hq1 (by first | exact hs1 | (simp; omega)))
                    | (refine step_append_src rfl (.tmp 57) (.tmp 60) 24 rfl 3 i3 (.int .i64 0) 1 8 Try.underlying24 hi3 hy0 hy1 hy2 rfl (.slice A2 (0 + 1) cc2) (0 + 1) ((List.take 0 ys).map (Value.int .i64) ++ [.int .i64 t]) rfl hr2 _ (List.length ys - 0) _ ((List.drop 0 ys).map (Value.int .i64)) rfl (by simp) (by first | exact HS2.out _ hb2 | exact fun h => absurd rfl h) (map_one _) (by unfold maxLen; omega) (by omega) ?_
                       intro v3 w3 hr3 hg3 ho3
                       obtain ⟨A3, cc3, rfl, _, _⟩ := hr3.form
                       have hb3 : Below wr.heap.size wr w3 := below_grown hb2 hg3 hb2.size hq2
                       have hq3 := own_next ho3 hq2 hb2.size
                       have hTn := HU.out.put (e := ⟨i, x, t⟩) hm hb3 hr3 hq3 HUnd.out HOm.out htw))
                  all_goals rw [← HS.out] at hTn
                  all_goals go_wp2_with fail
                  all_goals exact ⟨⟨k + 1, _, by omega, by go_num, hTn⟩, by simp [intOf]; omega⟩
          · rw [hm] at hI
            have hmem : t ∈ ys := by unfold hasB at hm; simpa using hm
            have hUn : TH w (evK l i ++ evAt i x (x.runs.take (k + 1))) ys (.slice A8 ys.length c8) wr := by
              rw [hsn]
              exact ⟨hU.row, hU.own, hU.bl, hU.th.has hmem, by have := hU.few; simp at this ⊢; omega, hU.wf⟩
            have HN := Lib.hid hUn
            clear ht hsn hUn hm hU
            go_wp2_with (go_at_call 38; refine hI.mono ?_; rintro e w' ⟨rfl, rfl⟩)
            exact ⟨⟨k + 1, ys, by omega, by go_num, HN.out⟩, by simp [intOf]; omega⟩
        · have hklI : ¬ (k : Int) < (x.runs.length : Int) := by omega
          obtain rfl : k = x.runs.length := by omega
          have hUn : TH w (evK l (i + 1)) ys (.slice A8 ys.length c8) wr := by
            rw [evK_succ Hx.out]
            rw [List.take_of_length_le (Nat.le_refl _)] at hU
            exact hU
          have HN := Lib.hid hUn
          clear hUn hU
          go_wp2_with fail
          exact ⟨⟨i + 1, ys, by omega, by go_num, HN.out⟩, by simp [intOf]; omega⟩
    · have hltI : ¬ (i : Int) < (l.length : Int) := by omega
      obtain rfl : i = l.length := by omega
      go_wp2_with fail
      go_ret
      exact ⟨_, xs, rfl, ints_of_row hT.row hT.wf, hT.th, hT.bl⟩
end Go.Proofs.Ytchmoalcjbolbaa
