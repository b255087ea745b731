/- FunBounds, walked: a list of nodes that grows. -/
import Derived.Test.YtleihdakmibmhaaYd
import Derived.Test.YtleihdakmibmhaaYa
namespace Go.Proofs.Ytleihdakmibmhaa
open Go.RowKit Go.Shelf
attribute [local go_sem] Oper.semAt_some

def IntsB (W : World) (s : Value) (l : List Int) : Prop := (l = [] ∧ s = .slice none 0 0) ∨ ∃ g, s = .slice (some ⟨g, 0, none⟩) l.length l.length ∧ Blk W g 3 (intsOf l)
/-- A row of nodes, each with its numbers in a block of their own. -/
structure RowN (w : World) (ns : List Nd) (v : Value) (xs : List Value) (W : World) : Prop where
  bl : Below w.heap.size w W
  row : Row W 47 3 v ns.length xs
  at_ : ∀ (i : Nat) (x : Nd), ns[i]? = some x → ∃ s, xs[i * 3]? = some (.int .i64 x.op) ∧ xs[i * 3 + 1]? = some (.int .i64 x.n) ∧ xs[i * 3 + 2]? = some s ∧ IntsB W s x.l
  own : ∀ j, v.ownBlock = some j → w.heap.size ≤ j
theorem IntsB.keep {W W' : World} {s : Value} {l : List Int} (h : IntsB W s l) (hk : ∀ g, Blk W g 3 (intsOf l) → W'.heap[g]? = W.heap[g]?) : IntsB W' s l := by
  rcases h with h | ⟨g, h1, h2⟩
  · exact .inl h
  · exact .inr ⟨g, h1, h2.keep (hk g h2)⟩
theorem RowN.grown {w W W2 W3 : World} {ns ms : List Nd} {v v3 : Value} {xs news : List Value} (h : RowN w ns v xs W) (hb : Below W.heap.size W W2) (hr : Row W3 47 3 v3 (ns.length + ms.length) (xs ++ news)) (hg : W2.grownBy W3 v.ownBlock)
    (ho : v3.ownBlock = v.ownBlock ∨ v3.ownBlock = some W2.heap.size) (hnew : ∀ (i : Nat) (x : Nd), ms[i]? = some x → ∃ s, news[i * 3]? = some (.int .i64 x.op) ∧ news[i * 3 + 1]? = some (.int .i64 x.n) ∧ news[i * 3 + 2]? = some s ∧ IntsB W2 s x.l) : RowN w (ns ++ ms) v3 (xs ++ news) W3 := by
  have hrow2 : Row W2 47 3 v ns.length xs := h.row.keep fun k hk => hb.block k (h.row.lt k hk)
  have hl := h.row.1
  have keep3 : ∀ {s : Value} {l : List Int}, IntsB W2 s l → IntsB W3 s l := fun hi => hi.keep fun g hg' => hg.block g hg'.lt (fun e => hrow2.ne_blk hg' (by decide) e.symm)
  refine ⟨(h.bl.trans (hb.mono h.bl.size)).trans ((((Keep.refl (fun j => v.ownBlock = some j) W2).grown hg (fun j hj => .inl hj)).mono (G := fun j => w.heap.size ≤ j) (fun j hj => h.own j hj)).below (fun _ hj => hj) (Nat.le_trans h.bl.size hb.size)), by rw [List.length_append]; exact hr, fun i x hx => ?_, fun j hj => ?_⟩
  · by_cases hi : i < ns.length
    · rw [List.getElem?_append_left hi] at hx
      obtain ⟨s, q0, q1, q2, q3⟩ := h.at_ i x hx
      exact ⟨s, by rw [List.getElem?_append_left (by omega)]; exact q0, by rw [List.getElem?_append_left (by omega)]; exact q1, by rw [List.getElem?_append_left (by omega)]; exact q2, keep3 (q3.keep fun g hg' => hb.block g hg'.lt)⟩
    · rw [List.getElem?_append_right (by omega)] at hx
      obtain ⟨s, q0, q1, q2, q3⟩ := hnew _ x hx
      refine ⟨s, ?_, ?_, ?_, keep3 q3⟩
      · rw [List.getElem?_append_right (by omega), hl, ← Nat.sub_mul]; exact q0
      · rw [List.getElem?_append_right (by omega), hl, show i * 3 + 1 - ns.length * 3 = (i - ns.length) * 3 + 1 by rw [Nat.sub_mul]; omega]; exact q1
      · rw [List.getElem?_append_right (by omega), hl, show i * 3 + 2 - ns.length * 3 = (i - ns.length) * 3 + 2 by rw [Nat.sub_mul]; omega]; exact q2
  · rcases ho with e | e
    · exact h.own j (e ▸ hj)
    · rw [e] at hj
      simp at hj
      have := h.bl.size
      have := hb.size
      omega
def W64N (x : Nd) : Prop := W64 x.op ∧ W64 x.n ∧ (∀ y ∈ x.l, W64 y) ∧ x.l.length ≤ 100
theorem RowN.nodes {w W : World} {ns : List Nd} {v : Value} {xs : List Value} (h : RowN w ns v xs W) (hw : ∀ x ∈ ns, W64N x) : NodesI W 0 W.heap.size v ns := by
  obtain ⟨A, c, rfl, hc1, hc2⟩ := h.row.form
  refine ⟨A, c, rfl, hc1, hc2, fun hne => ?_⟩
  obtain ⟨g, cap, cur, e, hbr, _⟩ := h.row.addr (List.length_pos_iff.2 hne)
  simp only [Value.slice.injEq, true_and] at e
  obtain ⟨rfl, rfl⟩ := e
  refine ⟨g, 0, rfl, Nat.zero_le _, hbr.lt, fun i x hx => ?_⟩
  have hlt := (List.getElem?_eq_some_iff.1 hx).1
  obtain ⟨s, q0, q1, q2, q3⟩ := h.at_ i x hx
  obtain ⟨w0, w1, w2, w3⟩ := hw x (List.mem_of_getElem? hx)
  refine ⟨s, by rw [Nat.zero_add, (h.row.cells rfl _ (by omega)).1]; exact q0, by rw [Nat.zero_add, (h.row.cells rfl _ (by omega)).1]; exact q1, by rw [Nat.zero_add, (h.row.cells rfl _ (by omega)).1]; exact q2, ?_, w0, w1⟩
  rcases q3 with ⟨hl, rfl⟩ | ⟨g', rfl, hb⟩
  · rw [hl]; exact IntsI.nil _ _ _
  · exact IntsI.of_blk hb (fun i y hy => intsOf_get hy) w2 (Nat.le_refl _) (by unfold maxLen; omega) (Nat.zero_le _) hb.lt
theorem preNs_w64 : ∀ {k : Nat}, k ≤ 110 → ∀ x ∈ preNs k, W64N x
  | 0, _, x, hx => by simp [preNs] at hx
  | k + 1, hk, x, hx => by
    rw [preNs, List.mem_append] at hx
    rcases hx with hx | hx
    · exact preNs_w64 (by omega) x hx
    · simp only [List.mem_cons, List.not_mem_nil, or_false] at hx
      rcases hx with rfl | rfl
      · refine ⟨by simp [W64], by simp [W64], fun y hy => ?_, by simp⟩
        simp only [List.mem_cons, List.not_mem_nil, or_false] at hy
        rcases hy with rfl | rfl <;> (unfold W64; omega)
      · exact ⟨by simp [W64], by simp [W64], by simp, by simp⟩
theorem letsF_w64 {k : Nat} (p : Int) (hk : k ≤ 110) : ∀ x ∈ (letsF k p).ns, W64N x := fun x hx => by
  simp only [letsF, List.mem_append, List.mem_singleton] at hx
  rcases hx with hx | rfl
  · exact preNs_w64 hk x hx
  · exact ⟨by simp [W64], by simp [W64], by simp, by simp⟩

set_option maxRecDepth 100000 in
set_option maxHeartbeats 6400000 in
theorem bounds_walk (lets p : Int) (hp : W64 p) (w : World) : Calls Try.prog 7 #[.int .i64 lets, .int .i64 p] w fun e w' => e = .returned (.bool true) ∧ Below w.heap.size w w' := by
  have HO := Lib.hid (fun W => works_ok6 W)
  have HN := Lib.hid (fun n W => num_ok6 n W)
  have HNO := Lib.hid (fun op n A m c W => node_ok op n (.slice A m c) ⟨_, _, _, rfl⟩ W)
  have HOF := Lib.hid (fun p A m c W => of_ok p (.slice A m c) ⟨_, _, _, rfl⟩ W)
  by_cases h0 : lets < 0
  · go_enter Try.func7, Try.ntmps7
    go_wp2_with (go_at_call 10; (with_reducible refine (HO.out _).mono ?_); rintro e w1 ⟨rfl, hB⟩)
    go_ret
    exact ⟨rfl, hB⟩
  by_cases h1 : 110 < lets
  · go_enter Try.func7, Try.ntmps7
    go_wp2_with (go_at_call 10; (with_reducible refine (HO.out _).mono ?_); rintro e w1 ⟨rfl, hB⟩)
    go_ret
    exact ⟨rfl, hB⟩
  obtain ⟨k, rfl⟩ : ∃ k : Nat, lets = (k : Int) := ⟨lets.toNat, by omega⟩
  have hk : k ≤ 110 := by omega
  have hR0 : Hid (∃ xs, RowN w (preNs 0) (.slice none 0 0) xs w) := Lib.hid ⟨[], Below.refl _ _, Row.nil _ _ _, by intro i x hx; simp [preNs] at hx, by intro j hj; simp [Value.ownBlock] at hj⟩
  go_enter Try.func7, Try.ntmps7
  go_wp2_with fail
  go_loopw [5, 6] (fun v q wr => ∃ (i : Nat) (A : Option Addr) (c : Nat), i ≤ k ∧ q = .int .i64 (i : Int) ∧ v = .slice A (2 * i) c ∧ Hid (∃ xs, RowN w (preNs i) (.slice A (2 * i) c) xs wr)) (fun _ q _ => k - (intOf q).toNat)
  case atStart => exact ⟨0, none, 0, Nat.zero_le _, rfl, rfl, hR0⟩
  case round =>
    obtain ⟨i, A, c, hi, rfl, rfl, hR⟩ := hrel
    clear hR0
    obtain ⟨xs, hrn⟩ := hR.out
    have hi0 : (0 : Int) ≤ (i : Int) := by omega
    obtain ⟨i0, hi0', hz0, hz1, hz2⟩ := info_parts6 nodeInfo
    have hlen := preNs_len i
    by_cases hlt : i < k
    · have hltI : (i : Int) < (k : Int) := by omega
      have g1 : IntKind.i64.wrap (2 * (i : Int)) = 2 * (i : Int) := IntWalk.i64_in _ (by omega)
      have g2 : IntKind.i64.wrap (2 * (i : Int) + 1) = 2 * (i : Int) + 1 := IntWalk.i64_in _ (by omega)
      have g3 : IntKind.i64.wrap (2 * (i : Int) + 2) = 2 * (i : Int) + 2 := IntWalk.i64_in _ (by omega)
      have g4 : IntKind.i64.wrap ((i : Int) + 1) = (i : Int) + 1 := IntWalk.i64_in _ (by omega)
      have hrow := hrn.row
      rw [hlen] at hrow
      have HROW := Lib.hid hrow
      have HRN := Lib.hid hrn
      have HLEN := Lib.hid hlen
      clear hrow hrn hlen hR
      go_wp2_with (first
        | (go_at_call 26; (with_reducible refine (HNO.out _ _ _ _ _ _).mono ?_); rintro e w' ⟨rfl, rfl⟩)
        | (at_builtin
           refine wpList_append_row _ rfl (.tmp 24) (.tmp 34) 22 rfl 47 47 i0 (.agg #[.int .i64 0, .int .i64 0, .slice none 0 0]) 3 40 Try.underlying22 hi0' hz0 hz1 hz2 rfl _ (2 * i) _ rfl ((((HROW.out.alloc _).alloc _).alloc _).alloc _) _ 2 _ rfl (Row.made_at (((wr.alloc (.cells #[.int .i64 (2 * (i : Int) + 1), .int .i64 (2 * (i : Int) + 2)] 3)).alloc (.cells #[.int .i64 4, .int .i64 0, .slice (some ⟨wr.heap.size, 0, none⟩) 2 2] 47)).alloc (.cells #[.int .i64 2, .int .i64 0, .slice none 0 0] 47)) _ (by simp) 47 3 2 #[.int .i64 4, .int .i64 0, .slice (some ⟨wr.heap.size, 0, none⟩) 2 2, .int .i64 2, .int .i64 0, .slice none 0 0] [.int .i64 4, .int .i64 0, .slice (some ⟨wr.heap.size, 0, none⟩) 2 2, .int .i64 2, .int .i64 0, .slice none 0 0] rfl (by simp [maxLen]) rfl) (by simp [Value.oneCell']) (by unfold maxLen; omega) (by omega) ?_
           intro v3 w3 hr3 hg3 ho3
           obtain ⟨A3, c3, rfl, _, _⟩ := hr3.form
           have H3 := Lib.hid (And.intro hr3 (And.intro hg3 ho3))
           clear hr3 hg3 ho3))
      have hgr : RowN w (preNs (i + 1)) (.slice A3 (2 * i + 2) c3) _ w3 := HRN.out.grown (ms := [⟨4, 0, [2 * (i : Int) + 1, 2 * (i : Int) + 2]⟩, ⟨2, 0, []⟩]) (((((Below.refl _ wr).alloc (Nat.le_refl _) _).alloc (by simp) _).alloc (by simp; omega) _).alloc (by simp; omega) _) (by rw [HLEN.out]; exact H3.out.1) H3.out.2.1 H3.out.2.2 (fun j x hx => by
        match j, hx with
        | 0, hx => simp at hx; subst hx; exact ⟨_, rfl, rfl, rfl, .inr ⟨wr.heap.size, rfl, (((Blk.new _ _ _).alloc _).alloc _).alloc _⟩⟩
        | 1, hx => simp at hx; subst hx; exact ⟨_, rfl, rfl, rfl, .inl ⟨rfl, rfl⟩⟩)
      exact ⟨⟨i + 1, A3, c3, by omega, by go_num, rfl, Lib.hid ⟨_, hgr⟩⟩, by simp [intOf]; omega⟩
    · have hltI : ¬ (i : Int) < (k : Int) := by omega
      obtain rfl : i = k := by omega
      have hrow := hrn.row
      rw [hlen] at hrow
      have HROW := Lib.hid hrow
      have HRN := Lib.hid hrn
      have HLEN := Lib.hid hlen
      clear hrow hrn hlen hR
      go_upto_region 9 with (first
        | (go_at_call 26; (with_reducible refine (HNO.out _ _ _ _ _ _).mono ?_); rintro e w' ⟨rfl, rfl⟩)
        | (at_builtin
           refine wpList_append_row _ rfl (.tmp 36) (.tmp 38) 22 rfl 47 47 i0 (.agg #[.int .i64 0, .int .i64 0, .slice none 0 0]) 3 40 Try.underlying22 hi0' hz0 hz1 hz2 rfl _ (2 * i) _ rfl ((HROW.out.alloc _).alloc _) _ 1 _ rfl (Row.made_at (wr.alloc (.cells #[.int .i64 2, .int .i64 0, .slice none 0 0] 47)) _ (by simp) 47 3 1 #[.int .i64 2, .int .i64 0, .slice none 0 0] [.int .i64 2, .int .i64 0, .slice none 0 0] rfl (by simp [maxLen]) rfl) (by simp [Value.oneCell']) (by unfold maxLen; omega) (by omega) ?_
           intro v3 w3 hr3 hg3 ho3
           obtain ⟨A3, c3, rfl, _, _⟩ := hr3.form
           have H3 := Lib.hid (And.intro hr3 (And.intro hg3 ho3))
           clear hr3 hg3 ho3))
      have hgr : RowN w (letsF i p).ns (.slice A3 (2 * i + 1) c3) _ w3 := HRN.out.grown (ms := [⟨2, 0, []⟩]) (((Below.refl _ wr).alloc (Nat.le_refl _) _).alloc (by simp) _) (by rw [HLEN.out]; exact H3.out.1) H3.out.2.1 H3.out.2.2 (fun j x hx => by
        match j, hx with
        | 0, hx => simp at hx; subst hx; exact ⟨_, rfl, rfl, rfl, .inl ⟨rfl, rfl⟩⟩)
      have hN := hgr.nodes (letsF_w64 p hk)
      have hF : FunI w3 0 w3.heap.size (.agg #[.int .i64 p, .slice A3 (2 * i + 1) c3]) (letsF i p) := ⟨_, rfl, hp, hN⟩
      have hbw := hgr.bl
      clear hgr hN H3 HROW HRN HLEN hi0' hz0 hz1 hz2
      obtain ⟨W4, hW4⟩ : ∃ X, (w3.alloc (.cells #[.int .i64 p, .slice A3 (2 * i + 1) c3] 24)).alloc (.cells #[.int .i64 p, .slice A3 (2 * i + 1) c3] 24) = X := ⟨_, rfl⟩
      obtain ⟨bf, hbf⟩ : ∃ g, w3.heap.size + 1 = g := ⟨_, rfl⟩
      obtain ⟨fs, hfs⟩ : ∃ l : List (Nat × Value × Fd), [(w3.heap.size, Value.agg #[.int .i64 p, .slice A3 (2 * i + 1) c3], letsF i p)] = l := ⟨_, rfl⟩
      obtain ⟨bs, hbs⟩ : ∃ l : List (Nat × TypeId × Array Value), [(bf, 24, #[.int .i64 p, .slice A3 (2 * i + 1) c3])] = l := ⟨_, rfl⟩
      have hK0 : KB w bs fs W4 := by
        have k3 : KB w [] fs w3 := by rw [← hfs]; exact KB.addF ⟨hbw, by simp, by simp⟩ hF (Nat.le_refl _)
        have k4 := (k3.alloc (.cells #[.int .i64 p, .slice A3 (2 * i + 1) c3] 24)).pushB 24 #[.int .i64 p, .slice A3 (2 * i + 1) c3]
        rw [World.size_alloc, hbf] at k4
        rw [← hbs, ← hW4]
        exact k4
      have hK := Lib.hid hK0
      have mf : (bf, 24, #[Value.int .i64 p, .slice A3 (2 * i + 1) c3]) ∈ bs := by rw [← hbs]; simp
      have mF : (w3.heap.size, Value.agg #[.int .i64 p, .slice A3 (2 * i + 1) c3], letsF i p) ∈ fs := by rw [← hfs]; simp
      have HW := Lib.hid (fun W (hk : Hid (KB w bs fs W)) => hk.out.call (Where_ok W (hk.out.funI mF)))
      have HD := Lib.hid (fun W (hk : Hid (KB w bs fs W)) => hk.out.call (Depth_ok (2 * (i : Int)) W (hk.out.funI mF)))
      have HX := Lib.hid (fun W (hk : Hid (KB w bs fs W)) => hk.out.call (works_ok6 W))
      have HW4 := Lib.hid (And.intro hW4 hbf)
      clear hfs hbs hK0 hF hbw HO hW4 hbf
      go_upto_region 10 with (go_at_call 27; (with_reducible refine (HOF.out _ _ _ _ _).mono ?_); rintro e w' ⟨rfl, rfl⟩)
      rw [HW4.out.1, HW4.out.2]
      obtain ⟨c0, c1, lt⟩ := KB.box2 hK mf
      clear HW4
      have g0 : IntKind.i64.wrap (2 * (i : Int)) = 2 * (i : Int) := IntWalk.i64_in _ (by omega)
      by_cases hA : p < 0 ∨ 9 < p ∨ 99 < i
      · rw [lets_out hA] at HW
        dsimp only at HW
        clear HD
        have hq : p < 0 ∨ (¬ p < 0 ∧ 9 < p) ∨ (¬ p < 0 ∧ ¬ 9 < p ∧ (99 : Int) < (i : Int)) := by omega
        clear hA
        rcases hq with ha | ⟨ha, hb⟩ | ⟨ha, hb, hc⟩
        all_goals
          go_wp2_with (first | (go_at_call 11; (with_reducible refine (HW.out _ hK).mono ?_); rintro e w1 ⟨rfl, hK⟩; obtain ⟨c0, c1, lt⟩ := KB.box2 hK mf) | (go_at_call 10; (with_reducible refine (HX.out _ hK).mono ?_); rintro e w1 ⟨rfl, hK⟩) | (go_at_call 13; (with_reducible refine (HN.out _ _).mono ?_); rintro e w2 ⟨rfl, rfl⟩))
          go_ret
          exact ⟨rfl, hK.out.bl⟩
      · have ha : ¬ p < 0 := by omega
        have hb : ¬ 9 < p := by omega
        have hc : ¬ (99 : Int) < (i : Int) := by omega
        have g5 : IntKind.i64.wrap ((i : Int) + p) = (i : Int) + p := IntWalk.i64_in _ (by omega)
        by_cases hM : 64 < (i : Int) + p
        · rw [lets_much (by omega) (by omega) (by omega) hM] at HW
          dsimp only at HW
          have g6 : IntKind.i64.wrap (65 - p) = 65 - p := IntWalk.i64_in _ (by omega)
          have g7 : IntKind.i64.wrap (2 * (65 - p)) = 2 * (65 - p) := IntWalk.i64_in _ (by omega)
          clear HD hA
          go_wp2_with (first | (go_at_call 11; (with_reducible refine (HW.out _ hK).mono ?_); rintro e w1 ⟨rfl, hK⟩; obtain ⟨c0, c1, lt⟩ := KB.box2 hK mf) | (go_at_call 10; (with_reducible refine (HX.out _ hK).mono ?_); rintro e w1 ⟨rfl, hK⟩) | (go_at_call 13; (with_reducible refine (HN.out _ _).mono ?_); rintro e w2 ⟨rfl, rfl⟩))
          go_ret
          exact ⟨rfl, hK.out.bl⟩
        · obtain ⟨f1, f2⟩ := lets_fine (k := i) (p := p) (by omega) (by omega) (by omega) (by omega)
          rw [f1] at HW
          rw [f2] at HD
          dsimp only at HW HD
          clear hA f1 f2
          go_wp2_with (first | (go_at_call 11; (with_reducible refine (HW.out _ hK).mono ?_); rintro e w1 ⟨rfl, hK⟩; obtain ⟨c0, c1, lt⟩ := KB.box2 hK mf) | (go_at_call 15; (with_reducible refine (HD.out _ hK).mono ?_); rintro e w1 ⟨rfl, hK⟩; obtain ⟨c0, c1, lt⟩ := KB.box2 hK mf) | (go_at_call 10; (with_reducible refine (HX.out _ hK).mono ?_); rintro e w1 ⟨rfl, hK⟩) | (go_at_call 13; (with_reducible refine (HN.out _ _).mono ?_); rintro e w2 ⟨rfl, rfl⟩))
          go_ret
          exact ⟨rfl, hK.out.bl⟩
end Go.Proofs.Ytleihdakmibmhaa
