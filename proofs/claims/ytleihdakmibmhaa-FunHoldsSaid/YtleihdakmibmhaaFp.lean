/- Calls: the nodes that name functions. -/
import Derived.Test.YtleihdakmibmhaaFo
namespace Go.Proofs.Ytleihdakmibmhaa
open Go.RowKit Go.Shelf
attribute [local go_sem] Oper.semAt_some store_nilFunc6 store_func6

theorem range_split {j n : Nat} (h : j < n) : ∃ rest, List.range n = List.range j ++ j :: rest := by
  refine ⟨(List.range n).drop (j + 1), ?_⟩
  conv => lhs; rw [← List.take_append_drop j (List.range n)]
  rw [List.take_range, Nat.min_eq_left (Nat.le_of_lt h), List.drop_eq_getElem_cons (by simpa using h)]
  simp
/-- What All reads: the nodes' blocks, and the box that holds the slice. -/
structure SnapA (w0 : World) (lo hi sb : Nat) (s : Value) (W : World) : Prop where
  kept : Kept lo hi w0 W
  box : Blk W sb 22 #[s]

set_option maxRecDepth 100000 in
theorem all_ok (s : Value) (hs : ∃ A n c, s = .slice A n c) (w : World) : Calls Try.prog 43 #[s] w fun e w' =>
    e = .returned (.func (.func 61) #[] #[.pointer (some ⟨w.heap.size, 0, none⟩)]) ∧ w.alloc (.cells #[s] 22) = w' := by
  obtain ⟨A, n, c, rfl⟩ := hs
  have hmf : ∀ (fn : Fn) (first cap : Array Value) (w : World), (Instr.makeFunc fn first cap).run Try.prog w = .ok (.func fn first cap) w := fun _ _ _ _ => rfl
  go_enter Try.func43, Try.ntmps43
  go_wp2
  go_ret
  exact ⟨rfl, rfl⟩

set_option maxRecDepth 100000 in
set_option maxHeartbeats 3200000 in
theorem all1_seqs {F : Fd} (w0 : World) (lo hi sb : Nat) (s : Value) (hN : NodesI w0 lo hi s F.ns) (_hl : F.ns.length ≤ 200) :
    SeqsN Try.prog 61 #[.pointer (some ⟨sb, 0, none⟩)] (encR F) (List.range F.ns.length) (fun _ => SnapA w0 lo hi sb s) := by
  intro n l J Jx Jp W hJp hJ hJx hS hY h0
  refine callsIn_wide.2 ?_
  obtain ⟨A, c, rfl, hn1, hn2⟩ := hN.form
  unfold maxLen at hn2
  have c0 := (hS _ _ h0).box.cell 0
  have clt := (hS _ _ h0).box.lt
  simp at c0
  have hYY : ∀ (pre : List Nat) (i : Nat) (rest : List Nat) (W1 : World) (xa : Array Value), List.range F.ns.length = pre ++ i :: rest → J pre W1 → encR F W1 pre.length i xa → YieldAt Fence.wide 4 Try.prog l xa W1 fun e W' =>
      ∃ b, e = .returned (.bool b) ∧ Hid ((b = true ∧ J (pre ++ [i]) W') ∨ (b = false ∧ Jx (pre ++ [i]) W')) := fun pre i rest W1 xa h1 h2 h3 => by
    obtain ⟨fn, tmps, assign, body, hy, hR⟩ := yield_depth 4 (hY pre i rest W1 xa h1 h2 h3)
    exact ⟨fn, tmps, assign, body, hy, hR.mono fun e W' q => by
      rcases q with ⟨rfl, q, _⟩ | ⟨rfl, q, _⟩ | ⟨ch, _, q⟩
      · exact ⟨true, rfl, Lib.hid (.inl ⟨rfl, q⟩)⟩
      · exact ⟨false, rfl, Lib.hid (.inr ⟨rfl, q⟩)⟩
      · exact (hJp _ _ q).elim⟩
  have HY := Lib.hid hYY
  have HJ := Lib.hid hJ
  have HS := Lib.hid hS
  have H0 := Lib.hid h0
  have HN := Lib.hid hN
  clear hYY hY hJ hS h0 hN hJp hJx
  show Calls Try.prog 61 #[.func (.yield l) #[] #[], .pointer (some ⟨sb, 0, none⟩)] W _
  go_enter Try.func61, Try.ntmps61
  refine (wpIn_wide (n := 5)).1 ?_
  gi_wp2
  clear c0 clt
  gi_loopw [7] (fun p wr => ∃ j : Nat, j ≤ F.ns.length ∧ p = .int .i64 (j : Int) ∧ Hid (J (List.range j) wr)) (fun p _ => F.ns.length - (intOf p).toNat)
  case atStart => exact ⟨0, Nat.zero_le _, rfl, H0⟩
  case round =>
    obtain ⟨j, hj, rfl, hR⟩ := hrel
    have hj0 : (0 : Int) ≤ (j : Int) := by omega
    by_cases hlt : j < F.ns.length
    · have hltI : (j : Int) < (F.ns.length : Int) := by omega
      obtain ⟨x, hx⟩ : ∃ x, F.ns[j]? = some x := ⟨_, List.getElem?_eq_getElem hlt⟩
      obtain ⟨rest, hrest⟩ := range_split hlt
      have hsn := HS.out _ _ hR.out
      obtain ⟨b, o, sx, rfl, hlb, hbh, c0, c1, c2, hsx, _, _⟩ := HN.out.at_ hx
      obtain ⟨X, cx, rfl, hx1, hx2⟩ := hsx.form
      have q0 := (cell_same (p := ⟨b, o + j * 3, none⟩) (hsn.kept b hlb hbh)).trans c0
      have q1 := (cell_same (p := ⟨b, o + j * 3 + 1, none⟩) (hsn.kept b hlb hbh)).trans c1
      have q2 := (cell_same (p := ⟨b, o + j * 3 + 2, none⟩) (hsn.kept b hlb hbh)).trans c2
      have lb := lt_of_cell q2
      obtain ⟨fn, tmps, assign, body, hy, hRR⟩ := HY.out (List.range j) j rest (wr.alloc (.cells #[.int .i64 x.op, .int .i64 x.n, .slice X x.l.length cx] 47)) _ hrest (HJ.out _ _ _ hR.out ((Keep.refl _ wr).alloc _)) ⟨x, X, cx, hx, rfl⟩
      have HR := Lib.hid hRR
      have HREST := Lib.hid hrest
      clear hRR hrest hsn hsx c0 c1 c2 hR hx
      gi_wp2
      refine HR.out.mono ?_
      rintro e W3 ⟨bb, rfl, hB⟩
      cases bb
      · gi_wp2
        refine bodyPost_ret (results_none rfl _ _ _) rfl ?_
        rcases hB.out with ⟨hf, _⟩ | ⟨_, hx3⟩
        · cases hf
        · exact .inl ⟨⟨_, rfl⟩, .inr ⟨_, ⟨rest, by rw [HREST.out]; simp⟩, hx3⟩⟩
      · gi_wp2
        rcases hB.out with ⟨_, hg⟩ | ⟨hf, _⟩
        · go_roundw
          case rel => exact ⟨j + 1, by omega, by go_num, Lib.hid (by rw [List.range_succ]; exact hg)⟩
          case measure => simp [intOf]; omega
        · cases hf
    · have hltI : ¬ (j : Int) < (F.ns.length : Int) := by omega
      obtain rfl : j = F.ns.length := by omega
      gi_wp2
      go_end0
      exact .inl ⟨⟨_, rfl⟩, .inl hR.out⟩

/-- The nodes that name functions. -/
def namesAt (F : Fd) (i : Nat) : Bool := match F.ns[i]? with
  | some x => namesOp x.op
  | none => false
theorem namesAt_of {F : Fd} {i : Nat} {x : Nd} (hx : F.ns[i]? = some x) : namesAt F i = namesOp x.op := by unfold namesAt; rw [hx]
def namedL (F : Fd) : List Nat := (List.range F.ns.length).filter (namesAt F)
/-- What Calls yields: a number, and the number of the function that the node names. -/
def encC (F : Fd) (_ : World) (_ : Nat) (i : Nat) (xa : Array Value) : Prop := ∃ x, F.ns[i]? = some x ∧ xa = #[.int .i64 (i : Int), .int .i64 x.n]

set_option maxRecDepth 100000 in
theorem keep_ok (op n : Int) (s : Value) (hs : ∃ A n c, s = .slice A n c) (w : World) : Calls Try.prog 44 #[.agg #[.int .i64 op, .int .i64 n, s]] w fun e w' => e = .returned (.bool (namesOp op)) ∧ w.alloc (.cells #[.int .i64 op, .int .i64 n, s] 47) = w' := by
  obtain ⟨A, m, c, rfl⟩ := hs
  have hn := Lib.hid (fun W => names_ok op W)
  go_enter Try.func44, Try.ntmps44
  go_wp2_with (go_at_call 45; (with_reducible refine (hn.out _).mono ?_); rintro e w' ⟨rfl, rfl⟩)
  go_ret
  exact ⟨rfl, rfl⟩
set_option maxRecDepth 100000 in
theorem filter_ok (f g : Value) (hf : ∃ a b c, f = .func a b c) (hg : ∃ a b c, g = .func a b c) (w : World) : Calls Try.prog 42 #[f, g] w fun e w' =>
    e = .returned (.func (.func 60) #[] #[.pointer (some ⟨w.heap.size, 0, none⟩), .pointer (some ⟨w.heap.size + 1, 0, none⟩)]) ∧ (w.alloc (.cells #[f] 71)).alloc (.cells #[g] 76) = w' := by
  obtain ⟨a, b, c, rfl⟩ := hf
  obtain ⟨a', b', c', rfl⟩ := hg
  have hmf : ∀ (fn : Fn) (first cap : Array Value) (w : World), (Instr.makeFunc fn first cap).run Try.prog w = .ok (.func fn first cap) w := fun _ _ _ _ => rfl
  go_enter Try.func42, Try.ntmps42
  go_wp2
  go_ret
  exact ⟨rfl, rfl⟩

/-- What filter's iterator reads. -/
structure SnapF (w0 : World) (lo hi sb ab kb : Nat) (s : Value) (W : World) : Prop where
  all : SnapA w0 lo hi sb s W
  a : Blk W ab 71 #[.func (.func 61) #[] #[.pointer (some ⟨sb, 0, none⟩)]]
  k : Blk W kb 76 #[.func (.func 44) #[] #[]]

set_option maxRecDepth 100000 in
set_option maxHeartbeats 3200000 in
theorem filter1_seqs {F : Fd} (w0 : World) (lo hi sb ab kb : Nat) (s : Value) (hN : NodesI w0 lo hi s F.ns) (hl : F.ns.length ≤ 200) :
    SeqsN Try.prog 60 #[.pointer (some ⟨ab, 0, none⟩), .pointer (some ⟨kb, 0, none⟩)] (encR F) (namedL F) (fun _ => SnapF w0 lo hi sb ab kb s) := by
  intro n l J Jx Jp W hJp hJ hJx hS hY h0
  refine callsIn_wide.2 ?_
  have hs := hS _ _ h0
  have c0 := hs.a.cell 0
  have clt := hs.a.lt
  simp at c0
  show Calls Try.prog 60 #[.func (.yield l) #[] #[], .pointer (some ⟨ab, 0, none⟩), .pointer (some ⟨kb, 0, none⟩)] W _
  refine calls_of_wp_marks 5 Try.func60 rfl ?_
  simp only [Try.ntmps60, List.size_toArray, List.length_cons, List.length_nil, Nat.reduceAdd, Nat.reduceSub, Array.replicate_succ, Array.replicate_zero, List.push_toArray, List.append_toArray, List.nil_append, List.cons_append]
  go_wp2_with fail
  obtain ⟨W0, hW0⟩ : ∃ W0, W.alloc (.cells #[.func (.yield l) #[] #[]] 92) = W0 := ⟨_, rfl⟩
  have hsz : W0.heap.size = W.heap.size + 1 := by rw [← hW0]; simp
  have hy0 : Blk W0 W.heap.size 92 #[.func (.yield l) #[] #[]] := by rw [← hW0]; exact Blk.new W _ _
  have hJ0 : J [] W0 := by rw [← hW0]; exact hJ _ _ _ h0 ((Keep.refl _ W).alloc _)
  rw [hW0]
  refine wp_rangeN 4 rfl (enters_of Try.func61 (by kernel_rfl) rfl) (all1_seqs w0 lo hi sb s hN hl) (fun W i x xa hx => by obtain ⟨_, _, _, _, rfl⟩ := hx; rfl)
    (fun pre W' => J (pre.filter (namesAt F)) W' ∧ Blk W' W.heap.size 92 #[.func (.yield l) #[] #[]])
    (fun cd pre W' => cd = .ret ∧ Jx (pre.filter (namesAt F)) W')
    (fun _ _ => False) (fun _ _ h => h)
    (fun s X Y hs hk => ⟨hJ _ X Y hs.1 (hk.mono (fun k hk' => by omega)), hs.2.keepB hk (by omega)⟩)
    (fun cd s X Y hs hk => ⟨hs.1, hJx _ X Y hs.2 (hk.mono (fun k hk' => by omega))⟩)
    (fun pre W' hi' => (hS _ _ hi'.1).all)
    ⟨hJ0, hy0⟩ ?round ?done ?panic ?stop
  case round =>
    intro l' pre i rest W1 xa hsz1 hx hi' hxa
    obtain ⟨x, S, cS, hxi, rfl⟩ := hxa
    have hbox : Blk (W1.alloc (.cells #[.int .i64 x.op, .int .i64 x.n, .slice S x.l.length cS] 47)) W1.heap.size 47 #[.int .i64 x.op, .int .i64 x.n, .slice S x.l.length cS] := Blk.new _ _ _
    refine .inl ?_
    gi_wp2
    refine ⟨(Since.refl _ _).alloc _, ⟨hJ _ _ _ hi'.1 ((Keep.refl _ W1).alloc _), hi'.2.alloc _⟩, ?_⟩
    rintro W2 ht ⟨hj, hy1⟩
    have hbox2 := ht.blk6 hbox
    have hsn := hS _ _ hj
    have k0 := hsn.k.cell 0
    have lk := hsn.k.lt
    have y0 := hy1.cell 0
    have x0 := hbox2.cell 0
    have x1 := hbox2.cell 1
    have x2 := hbox2.cell 2
    have ly := hy1.lt
    have lx := hbox2.lt
    simp at y0 x0 x1 x2 k0
    have hkp := callsIn_wide (n := 4 - 1) |>.2 (keep_ok x.op x.n (.slice S x.l.length cS) ⟨_, _, _, rfl⟩ W2)
    have HK := Lib.hid hkp
    have hf19 : Fence.wide.fn 44 := trivial
    have hna := namesAt_of hxi
    have hsk : Since W0.heap.size W2 (W2.alloc (.cells #[.int .i64 x.op, .int .i64 x.n, .slice S x.l.length cS] 47)) := (Since.refl _ _).alloc _
    have hjk := hJ _ _ _ hj ((Keep.refl _ W2).alloc (.cells #[.int .i64 x.op, .int .i64 x.n, .slice S x.l.length cS] 47))
    have hyk := hy1.alloc (.cells #[.int .i64 x.op, .int .i64 x.n, .slice S x.l.length cS] 47)
    cases hb : namesOp x.op
    · rw [hb] at HK hna
      have hfil : (pre ++ [i]).filter (namesAt F) = pre.filter (namesAt F) := by rw [List.filter_append]; simp [hna]
      have HF := Lib.hid hfil
      have HG := Lib.hid (And.intro hsk (And.intro hjk hyk))
      clear hs hS hY h0 c0 clt hJ0 hy0 hsz ht hi' hbox hbox2 hj hy1 hx hsn hkp hna hb hfil hsk hjk hyk hJ hJx hJp
      gi_wp2_with (gi_at_call 44; refine (CallsIn.inRound l' HK.out).mono ?_; rintro e w1 ⟨rfl, rfl⟩)
      rename_i hk _ _ _ _
      refine ⟨fun _ h => (by cases h), hk _ _ ?_⟩
      clear hk
      gi_wp2
      exact ⟨HG.out.1, by have h2 := HG.out.2; rw [← HF.out] at h2; exact h2⟩
    · rw [hb] at HK hna
      have hfil : (pre ++ [i]).filter (namesAt F) = pre.filter (namesAt F) ++ [i] := by rw [List.filter_append]; simp [hna]
      have hsplit : namedL F = pre.filter (namesAt F) ++ i :: rest.filter (namesAt F) := by unfold namedL; rw [hx, List.filter_append, List.filter_cons, hna]; rfl
      obtain ⟨fn, tmps, assign, body, hy, hR⟩ := yield_depth 3 (hY _ i _ (W2.alloc (.cells #[.int .i64 x.op, .int .i64 x.n, .slice S x.l.length cS] 47)) _ hsplit hjk ⟨x, S, cS, hxi, rfl⟩)
      have hR' := hR.mono (R' := fun e W' => ∃ b, e = .returned (.bool b) ∧ Hid ((b = true ∧ (J ((pre ++ [i]).filter (namesAt F)) W' ∧ Blk W' W.heap.size 92 #[.func (.yield l) #[] #[]]) ∨ b = false ∧ Jx ((pre ++ [i]).filter (namesAt F)) W') ∧ Since W0.heap.size W2 W')) (fun e W' q => by
        rw [hfil]
        rcases q with ⟨rfl, hJ3, hs3⟩ | ⟨rfl, hJx3, hs3⟩ | ⟨ch, rfl, hp⟩
        · exact ⟨true, rfl, Lib.hid ⟨.inl ⟨rfl, hJ3, hs3.blk6 hyk (Nat.le_refl _)⟩, hsk.trans (hs3.mono (by omega))⟩⟩
        · exact ⟨false, rfl, Lib.hid ⟨.inr ⟨rfl, hJx3⟩, hsk.trans (hs3.mono (by omega))⟩⟩
        · exact (hJp _ _ hp).elim)
      have HR := Lib.hid hR'
      clear hs hS hY h0 c0 clt hJ0 hy0 hsz ht hi' hbox hbox2 hj hy1 hx hsn hkp hna hb hfil hsk hjk hyk hsplit hR hR' hJ hJx hJp
      gi_wp2_with (gi_at_call 44; refine (CallsIn.inRound l' HK.out).mono ?_; rintro e w1 ⟨rfl, rfl⟩)
      refine HR.out.mono ?_
      rintro e W3 ⟨b, rfl, hB⟩
      cases b
      · gi_wp2
        rcases hB.out with ⟨(⟨hf, _⟩ | ⟨_, hx3⟩), hs3⟩
        · cases hf
        · exact ⟨hs3, rfl, hx3⟩
      · gi_wp2
        rcases hB.out with ⟨(⟨_, hg⟩ | ⟨hf, _⟩), hs3⟩
        · exact ⟨hs3, hg⟩
        · cases hf
  case done =>
    rintro D W1 hD ⟨hj, _⟩ hdef
    go_wp2
    refine ⟨by simp, .inl ⟨_, _, rfl, run_takeDeferred hdef, ?_⟩⟩
    exact ⟨_, results_none rfl _ _ _, .inl ⟨⟨_, rfl⟩, .inl (hJ.from.putObj _ hj (by omega) hdef rfl)⟩⟩
  case panic =>
    intro D ch W1 _ hf
    exact hf.elim
  case stop =>
    rintro D cd pre W1 hD hpre ⟨rfl, hjx⟩ hdef
    go_wp2
    refine ⟨by simp, .inl ⟨_, _, rfl, run_takeDeferred hdef, ?_⟩⟩
    exact ⟨_, results_none rfl _ _ _, .inl ⟨⟨_, rfl⟩, .inr ⟨_, hpre.filter _, hJx.from.putObj _ hjx (by omega) hdef rfl⟩⟩⟩

set_option maxRecDepth 100000 in
set_option maxHeartbeats 3200000 in
theorem calls2_seqs {F : Fd} (w0 : World) (lo hi kb : Nat) (s : Value) (hF : FunI w0 lo hi (.agg #[.int .i64 F.p, s]) F) (hl : F.ns.length ≤ 200) :
    SeqsN Try.prog 41 #[.pointer (some ⟨kb, 0, none⟩)] (encC F) (namedL F) (fun _ => SnapR w0 lo hi kb #[.int .i64 F.p, s]) := by
  intro n l J Jx Jp W hJp hJ hJx hS hY h0
  refine callsIn_wide.2 ?_
  have hs := hS _ _ h0
  have c1 := hs.box.cell 1
  have clt := hs.box.lt
  simp at c1
  obtain ⟨A, c, hE⟩ := hF.form
  simp only [Value.agg.injEq, Array.mk.injEq, List.cons.injEq, and_true, true_and] at hE
  subst hE
  obtain ⟨_, hE, _, hN⟩ := hF
  simp only [Value.agg.injEq, Array.mk.injEq, List.cons.injEq, and_true, true_and] at hE
  subst hE
  have hal := all_ok (.slice A F.ns.length c) ⟨_, _, _, rfl⟩
  have hfl := filter_ok (.func (.func 61) #[] #[.pointer (some ⟨W.heap.size + 1, 0, none⟩)]) (.func (.func 44) #[] #[]) ⟨_, _, _, rfl⟩ ⟨_, _, _, rfl⟩
  show Calls Try.prog 41 #[.func (.yield l) #[] #[], .pointer (some ⟨kb, 0, none⟩)] W _
  refine calls_of_wp_marks 5 Try.func41 rfl ?_
  simp only [Try.ntmps41, List.size_toArray, List.length_cons, List.length_nil, Nat.reduceAdd, Nat.reduceSub, Array.replicate_succ, Array.replicate_zero, List.push_toArray, List.append_toArray, List.nil_append, List.cons_append]
  go_wp2_with fail
  go_step3
  go_wp2_with (first | (go_at_call 43; refine (hal _).mono ?_; rintro e w' ⟨rfl, rfl⟩) | (go_at_call 42; refine (hfl _).mono ?_; rintro e w' ⟨rfl, rfl⟩))
  go_step3
  go_wp2_with fail
  obtain ⟨W0, hW0⟩ : ∃ W0, (((W.alloc (.cells #[.func (.yield l) #[] #[]] 55)).alloc (.cells #[.slice A F.ns.length c] 22)).alloc (.cells #[.func (.func 61) #[] #[.pointer (some ⟨W.heap.size + 1, 0, none⟩)]] 71)).alloc (.cells #[.func (.func 44) #[] #[]] 76) = W0 := ⟨_, rfl⟩
  have hsz : W0.heap.size = W.heap.size + 4 := by rw [← hW0]; simp
  have hy0 : Blk W0 W.heap.size 55 #[.func (.yield l) #[] #[]] := by rw [← hW0]; exact (((Blk.new W _ _).alloc _).alloc _).alloc _
  have hs0 : Blk W0 (W.heap.size + 1) 22 #[.slice A F.ns.length c] := by rw [← hW0]; exact ((blkN (by simp) _ _).alloc _).alloc _
  have ha0 : Blk W0 (W.heap.size + 2) 71 #[.func (.func 61) #[] #[.pointer (some ⟨W.heap.size + 1, 0, none⟩)]] := by rw [← hW0]; exact (blkN (by simp) _ _).alloc _
  have hk0 : Blk W0 (W.heap.size + 3) 76 #[.func (.func 44) #[] #[]] := by rw [← hW0]; exact blkN (by simp) _ _
  have hJ0 : J [] W0 := by rw [← hW0]; exact hJ _ _ _ h0 (((((Keep.refl _ W).alloc _).alloc _).alloc _).alloc _)
  rw [hW0]
  refine wp_rangeN 4 rfl (enters_of Try.func60 (by kernel_rfl) rfl) (filter1_seqs w0 lo hi (W.heap.size + 1) (W.heap.size + 2) (W.heap.size + 3) _ hN hl) (fun W i x xa hx => by obtain ⟨_, _, _, _, rfl⟩ := hx; rfl)
    (fun pre W' => (J pre W' ∧ Blk W' W.heap.size 55 #[.func (.yield l) #[] #[]]) ∧ Blk W' (W.heap.size + 1) 22 #[.slice A F.ns.length c] ∧ Blk W' (W.heap.size + 2) 71 #[.func (.func 61) #[] #[.pointer (some ⟨W.heap.size + 1, 0, none⟩)]] ∧ Blk W' (W.heap.size + 3) 76 #[.func (.func 44) #[] #[]])
    (fun cd pre W' => cd = .exit 0 ∧ Jx pre W')
    (fun _ _ => False) (fun _ _ h => h)
    (fun s X Y hs hk => ⟨⟨hJ s X Y hs.1.1 (hk.mono (fun k hk' => by omega)), hs.1.2.keepB hk (by omega)⟩, hs.2.1.keepB hk (by omega), hs.2.2.1.keepB hk (by omega), hs.2.2.2.keepB hk (by omega)⟩)
    (fun cd s X Y hs hk => ⟨hs.1, hJx s X Y hs.2 (hk.mono (fun k hk' => by omega))⟩)
    (fun pre W' hi' => ⟨⟨(hS _ _ hi'.1.1).kept, hi'.2.1⟩, hi'.2.2.1, hi'.2.2.2⟩)
    ⟨⟨hJ0, hy0⟩, hs0, ha0, hk0⟩ ?round ?done ?panic ?stop
  case round =>
    intro l' pre i rest W1 xa hsz1 hx hi' hxa
    obtain ⟨x, S, cS, hxi, rfl⟩ := hxa
    have hbox : Blk (W1.alloc (.cells #[.int .i64 x.op, .int .i64 x.n, .slice S x.l.length cS] 47)) W1.heap.size 47 #[.int .i64 x.op, .int .i64 x.n, .slice S x.l.length cS] := Blk.new _ _ _
    refine .inl ?_
    gi_wp2
    refine ⟨(Since.refl _ _).alloc _, ⟨⟨hJ _ _ _ hi'.1.1 ((Keep.refl _ W1).alloc _), hi'.1.2.alloc _⟩, hi'.2.1.alloc _, hi'.2.2.1.alloc _, hi'.2.2.2.alloc _⟩, ?_⟩
    rintro W2 ht ⟨⟨hj, hy1⟩, hb1, hb2, hb3⟩
    have hbox2 := ht.blk6 hbox
    have y0 := hy1.cell 0
    have x1 := hbox2.cell 1
    have ly := hy1.lt
    have lx := hbox2.lt
    simp at y0 x1
    obtain ⟨fn, tmps, assign, body, hy, hR⟩ := yield_depth 3 (hY pre i rest W2 _ hx hj ⟨x, hxi, rfl⟩)
    have hR' := hR.mono (R' := fun e W' => ∃ b, e = .returned (.bool b) ∧ Hid ((b = true ∧ ((J (pre ++ [i]) W' ∧ Blk W' W.heap.size 55 #[.func (.yield l) #[] #[]]) ∧ Blk W' (W.heap.size + 1) 22 #[.slice A F.ns.length c] ∧ Blk W' (W.heap.size + 2) 71 #[.func (.func 61) #[] #[.pointer (some ⟨W.heap.size + 1, 0, none⟩)]] ∧ Blk W' (W.heap.size + 3) 76 #[.func (.func 44) #[] #[]]) ∨ b = false ∧ Jx (pre ++ [i]) W') ∧ Since W0.heap.size W2 W')) (fun e W' q => by
      rcases q with ⟨rfl, hJ3, hs3⟩ | ⟨rfl, hJx3, hs3⟩ | ⟨ch, rfl, hp⟩
      · exact ⟨true, rfl, Lib.hid ⟨.inl ⟨rfl, ⟨hJ3, hs3.blk6 hy1 (Nat.le_refl _)⟩, hs3.blk6 hb1 (by omega), hs3.blk6 hb2 (by omega), hs3.blk6 hb3 (by omega)⟩, hs3.mono (by omega)⟩⟩
      · exact ⟨false, rfl, Lib.hid ⟨.inr ⟨rfl, hJx3⟩, hs3.mono (by omega)⟩⟩
      · exact (hJp _ _ hp).elim)
    have HR := Lib.hid hR'
    have HSZ := Lib.hid hsz
    clear hs hS hY h0 c1 clt hal hfl hJ0 hy0 hs0 ha0 hk0 hsz hR hR' ht hi' hbox hbox2 hj hy1 hb1 hb2 hb3 hx
    gi_wp2
    refine HR.out.mono ?_
    rintro e W3 ⟨b, rfl, hB⟩
    cases b
    · gi_wp2
      rcases hB.out with ⟨(⟨hf, _⟩ | ⟨_, hx3⟩), hs3⟩
      · cases hf
      · exact ⟨hs3, rfl, hx3⟩
    · gi_wp2
      rcases hB.out with ⟨(⟨_, hg⟩ | ⟨hf, _⟩), hs3⟩
      · exact ⟨hs3, hg⟩
      · cases hf
  case done =>
    rintro D W1 hD ⟨⟨hj, _⟩, _⟩ hdef
    go_wp2
    rw [Exit.noGoto_normal]
    refine ⟨by simp, .inl ⟨_, _, rfl, run_takeDeferred hdef, ?_⟩⟩
    exact ⟨_, results_none rfl _ _ _, .inl ⟨⟨_, rfl⟩, .inl (hJ.from.putObj _ hj (by omega) hdef rfl)⟩⟩
  case panic =>
    intro D ch W1 _ hf
    exact hf.elim
  case stop =>
    rintro D cd pre W1 hD hpre ⟨rfl, hjx⟩ hdef
    go_wp2
    rw [Exit.noGoto_normal]
    refine ⟨by simp, .inl ⟨_, _, rfl, run_takeDeferred hdef, ?_⟩⟩
    exact ⟨_, results_none rfl _ _ _, .inl ⟨⟨_, rfl⟩, .inr ⟨pre, hpre, hJx.from.putObj _ hjx (by omega) hdef rfl⟩⟩⟩
end Go.Proofs.Ytleihdakmibmhaa
