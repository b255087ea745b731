/- The law CellLogs: its walk, where it goes on: the stores. -/
import Derived.Test.YtbojbhjaeekjpaaLw
import Derived.Test.YtbojbhjaeekjpaaIs
import Derived.Test.YtbojbhjaeekjpaaAh
namespace Go.Proofs.Ytbojbhjaeekjpaa
open Go.RowKit Go.Shelf
attribute [local go_sem] Oper.semAt_some

theorem logs_bound {k T N I : Nat} (hT : T * k ≤ 1500) (hN : N < T) (hI : I ≤ k) : N * k + I ≤ 1500 := by
  have : (N + 1) * k ≤ T * k := Nat.mul_le_mul_right k hN
  rw [Nat.succ_mul] at this
  omega

/-! RANGES -/
theorem cell_of_heap {W W' : World} {b o : Nat} (h : W'.heap[b]? = W.heap[b]?) : W'.cell? ⟨b, o, none⟩ = W.cell? ⟨b, o, none⟩ := by
  unfold World.cell?; simp only [h]
theorem log_at2 {h : List Acc} {pre rest : List (Nat × Acc)} {i : Nat} {z : Acc} (hx : logList h = pre ++ (i, z) :: rest) : i = h.length - 1024 + pre.length ∧ h[h.length - 1024 + pre.length]? = some z ∧ h.length - 1024 + pre.length < h.length := by
  have h1 : (logList h)[pre.length]? = some (i, z) := by rw [hx]; simp
  have hl : pre.length < (logList h).length := by rw [hx]; simp
  rw [logList_length] at hl
  have hlt : h.length - 1024 + pre.length < h.length := by omega
  obtain ⟨z', hz'⟩ : ∃ z', h[h.length - 1024 + pre.length]? = some z' := ⟨_, List.getElem?_eq_getElem hlt⟩
  have h2 := logList_get h _ z' hz' (by omega)
  rw [show h.length - 1024 + pre.length - (h.length - 1024) = pre.length from by omega, h1] at h2
  simp only [Option.some.injEq, Prod.mk.injEq] at h2
  exact ⟨h2.1, by rw [hz', h2.2], hlt⟩

/-- Between two rounds over the log: how far it has come. -/
structure RK (W0 : World) (N S0 : Nat) (pre : List (Nat × Acc)) (W : World) : Prop where
  keep : Keep (fun k => k = N) W0 W
  num : Blk W N 3 #[.int .i64 ((S0 + pre.length : Nat) : Int)]
theorem RK.own (W0 : World) (N S0 : Nat) : OwnFrom W0.heap.size (RK W0 N S0) := fun s X Y row hs hg hr => by
  refine ⟨hs.keep.grown hg (fun k e => .inr (hr k e).1), hs.num.keep (hg.block _ hs.num.lt (fun e => ?_))⟩
  obtain ⟨_, o, ho, hc⟩ := hr _ e.symm
  rw [show X.heap[N]? = some (Obj.cells _ 3 (0, 0)) from hs.num] at ho
  cases ho; cases hc
theorem RK.alloc {W0 W : World} {N S0 : Nat} {pre : List (Nat × Acc)} (h : RK W0 N S0 pre W) (o : Obj) : RK W0 N S0 pre (W.alloc o) := ⟨h.keep.alloc o, h.num.alloc o⟩

set_option maxRecDepth 100000 in
set_option maxHeartbeats 40000000 in
theorem logs_good (l : List Int) (k c T : Nat) (hkl : l.length = k) (A : Option Addr) (x : ActD) (w : World) (ha : WordsArg w (.slice A k c) l) (h1 : 1 ≤ k) (h2 : k ≤ 40) (h3 : (T : Int) ≤ (1500 : Int).tdiv (k : Int)) (hf : fewB [x] 1 = true) :
    Calls Try.prog 4 #[.slice A k c, .int .i64 T, .agg #[.int .i64 x.what, .int .i64 x.at_, .int .u64 x.x, .int .u64 x.y]] w fun e w' => e = .returned (.bool true) ∧ Below w.heap.size w w' := by
  have hdiv : (1500 : Int).tdiv (k : Int) = ((1500 / k : Nat) : Int) := by
    rw [Int.tdiv_eq_ediv_of_nonneg (by omega)]; rfl
  have hT : T * k ≤ 1500 := by
    rw [hdiv] at h3
    have e1 : T ≤ 1500 / k := by exact_mod_cast h3
    exact Nat.le_trans (Nat.mul_le_mul_right _ e1) (Nat.div_mul_le_self _ _)
  have g1 : (1 : Int) ≤ (k : Int) := by omega
  have g2 : (k : Int) ≤ 40 := by omega
  have g3 : (0 : Int) ≤ (T : Int) := by omega
  have g7 : ((k : Int) == 0) = false := by simp; omega
  have g8 : IntKind.i64.wrap ((1500 : Int).tdiv (k : Int)) = (1500 : Int).tdiv (k : Int) := by
    have hd : 1500 / k ≤ 1500 := Nat.div_le_self _ _
    rw [hdiv]
    generalize 1500 / k = q at hd ⊢
    exact IntWalk.i64_in _ (by omega)
  clear hdiv
  have Hkl := Lib.hid hkl
  clear hkl
  have c0 : Blk ((((w.alloc (.cells #[.slice A k c] 29)).alloc (.cells #[.int .i64 x.what, .int .i64 x.at_, .int .u64 x.x, .int .u64 x.y] 40)).alloc (.cells #[.bool false] 4)).alloc (.cells #[.int .i64 x.what, .int .i64 x.at_, .int .u64 x.x, .int .u64 x.y] 40)) w.heap.size 29 #[.slice A k c] := (((Blk.new w 29 _).alloc _).alloc _).alloc _
  have x0 := ((Blk.new (w.alloc (.cells #[.slice A k c] 29)) 40 #[.int .i64 x.what, .int .i64 x.at_, .int .u64 x.x, .int .u64 x.y]).alloc (.cells #[.bool false] 4)).alloc (.cells #[.int .i64 x.what, .int .i64 x.at_, .int .u64 x.x, .int .u64 x.y] 40)
  have r0 := (Blk.new ((w.alloc (.cells #[.slice A k c] 29)).alloc (.cells #[.int .i64 x.what, .int .i64 x.at_, .int .u64 x.x, .int .u64 x.y] 40)) 4 #[.bool false]).alloc (.cells #[.int .i64 x.what, .int .i64 x.at_, .int .u64 x.x, .int .u64 x.y] 40)
  have hfew := few_ok [x] (some ⟨(((w.alloc (.cells #[.slice A k c] 29)).alloc (.cells #[.int .i64 x.what, .int .i64 x.at_, .int .u64 x.x, .int .u64 x.y] 40)).alloc (.cells #[.bool false] 4)).heap.size, 0, none⟩) 1 1 _ (one_act (((w.alloc (.cells #[.slice A k c] 29)).alloc (.cells #[.int .i64 x.what, .int .i64 x.at_, .int .u64 x.x, .int .u64 x.y] 40)).alloc (.cells #[.bool false] 4)) x) (by simp [maxLen])
  rw [hf] at hfew
  simp only [List.length_singleton] at hfew
  simp only [World.size_alloc] at x0 r0 hfew
  have b0 : Below w.heap.size w ((((w.alloc (.cells #[.slice A k c] 29)).alloc (.cells #[.int .i64 x.what, .int .i64 x.at_, .int .u64 x.x, .int .u64 x.y] 40)).alloc (.cells #[.bool false] 4)).alloc (.cells #[.int .i64 x.what, .int .i64 x.at_, .int .u64 x.x, .int .u64 x.y] 40)) :=
    ((((Below.refl _ _).alloc (Nat.le_refl _) _).alloc (by simp) _).alloc (by simp; omega) _).alloc (by simp; omega) _
  have sz0 : ((((w.alloc (.cells #[.slice A k c] 29)).alloc (.cells #[.int .i64 x.what, .int .i64 x.at_, .int .u64 x.x, .int .u64 x.y] 40)).alloc (.cells #[.bool false] 4)).alloc (.cells #[.int .i64 x.what, .int .i64 x.at_, .int .u64 x.x, .int .u64 x.y] 40)).heap.size = w.heap.size + 4 := by simp
  refine calls_of_wp_marks 5 Try.func4 rfl ?_
  simp only [Try.ntmps4, List.size_toArray, List.length_cons, List.length_nil, Nat.reduceAdd, Nat.reduceSub, Array.replicate_succ, Array.replicate_zero, List.push_toArray, List.append_toArray, List.nil_append, List.cons_append]
  go_wp2_with (go_at_call 8; refine hfew.mono ?_; rintro e w' ⟨rfl, rfl⟩)
  obtain ⟨wB, hwB⟩ : ∃ wB, wB = ((((w.alloc (.cells #[.slice A k c] 29)).alloc (.cells #[.int .i64 x.what, .int .i64 x.at_, .int .u64 x.x, .int .u64 x.y] 40)).alloc (.cells #[.bool false] 4)).alloc (.cells #[.int .i64 x.what, .int .i64 x.at_, .int .u64 x.x, .int .u64 x.y] 40)) := ⟨_, rfl⟩
  rw [← hwB] at c0 x0 r0 b0 sz0 ⊢
  clear hwB hfew
  have LB := Lib.hid sz0
  clear sz0
  refine (New_do 1000 _ (by omega) (by omega)).mono ?_
  rintro e w1 ⟨b, rfl, a1⟩
  have B1 := a1.toBelow
  have c1 := (c0.keep (B1.block _ c0.lt)).cell 0
  simp at c1
  go_wp2_with fail
  have al := Alloc_do (k : Int) a1
  have eal : allocSt ⟨1000, [], []⟩ (k : Int) = (⟨1000, List.replicate k 0, []⟩, 0, 0) := by
    unfold allocSt
    rw [if_neg (by omega), if_neg (by simp; omega)]
    simp
  rw [eal] at al
  refine al.mono ?_
  rintro e w2 ⟨rfl, a2⟩
  clear eal al a1 B1 c1
  have hst := Logd.start l
  rw [Hkl.out] at hst
  go_wp2_with fail
  go_loopw [11] (fun n wr => ∃ (N : Nat) (s : St), N ≤ T ∧ n = .int .i64 (N : Int) ∧ Logd l N 0 s ∧ WS (fun j => wB.heap.size ≤ j) wB wr b s) (fun n _ => T - (intOf n).toNat)
  case atStart => exact ⟨0, _, Nat.zero_le _, rfl, hst, a2⟩
  case round =>
    obtain ⟨N, s, hN, rfl, hlog, hws⟩ := hrel
    have cr := (c0.keep (hws.toBelow.block _ c0.lt)).cell 0
    simp at cr
    by_cases hlt : N < T
    · have hltI : (N : Int) < (T : Int) := by omega
      have hT1 : T ≤ 1500 := by
        have : T * 1 ≤ T * k := Nat.mul_le_mul_left _ (by omega)
        omega
      have hNI : (N : Int) < 1500 := by omega
      go_wp2_with fail
      obtain ⟨wq, hwq⟩ : ∃ wq : World, wq = wr := ⟨_, rfl⟩
      subst hwq
      go_loopw [12] (fun i wi => ∃ (I : Nat) (s : St), I ≤ k ∧ i = .int .i64 (I : Int) ∧ Logd l N I s ∧ WS (fun j => wB.heap.size ≤ j) wB wi b s) (fun i _ => k - (intOf i).toNat)
      case atStart => exact ⟨0, s, Nat.zero_le _, rfl, hlog, hws⟩
      case round =>
        obtain ⟨I, s', hI, rfl, hlog', hws'⟩ := hrel
        have ci := (c0.keep (hws'.toBelow.block _ c0.lt)).cell 0
        simp at ci
        by_cases hlt2 : I < k
        · have hltI2 : (I : Int) < (k : Int) := by omega
          have hI0 : (0 : Int) ≤ (I : Int) := by omega
          obtain ⟨z, hz⟩ : ∃ z, l[I]? = some z := ⟨_, List.getElem?_eq_getElem (by rw [Hkl.out]; exact hlt2)⟩
          obtain ⟨A', c', hv, hA⟩ := ha
          obtain ⟨bl, off, rfl, hbl, hcl⟩ := hA (by intro e; rw [e] at hz; simp at hz)
          simp only [Value.slice.injEq] at hv
          obtain ⟨rfl, hkk, rfl⟩ := hv
          clear hkk
          have q0 := hcl I z hz
          have kp : wr.cell? ⟨bl, off + I, none⟩ = w.cell? ⟨bl, off + I, none⟩ := (hws'.toBelow.cell (p := ⟨bl, off + I, none⟩) (by simp only; have := b0.size; omega)).trans (b0.cell (p := ⟨bl, off + I, none⟩) hbl)
          rw [← kp] at q0
          have hb := logs_bound hT hlt hI
          have hn1 : N ≤ 1500 := by
            have : N * 1 ≤ N * k := Nat.mul_le_mul_left _ (by omega)
            omega
          have hwN : IntKind.u64.wrap (N : Int) = (N : Int) := IntWalk.u64_in _ (by omega)
          have hvl : valOf l N I = IntKind.u64.wrap (z + (N : Int)) := by unfold valOf; rw [List.getD_eq_getElem?_getD, hz]; rfl
          have hh : s'.hist.length < 1000000000 := by rw [hlog'.hist, Hkl.out]; simp; omega
          obtain ⟨e0, hnext⟩ := hlog'.store (by rw [Hkl.out]; exact hlt2)
          have hS := Store_do (I : Int) (valOf l N I) hws' hh
          rw [e0, hvl] at hS
          rw [hvl] at hnext
          clear kp hcl hz hb e0 hvl hlog' hh
          go_wp2_with (first
            | (go_at_call 16; refine hS.mono ?_; rintro e w3 ⟨rfl, hws3⟩)
            | (go_at_call 12; refine (num_any _ _).mono ?_; rintro e w' ⟨rfl, rfl⟩))
          go_roundw
          case rel => exact ⟨I + 1, _, by omega, by go_num, hnext, hws3⟩
          case measure => simp [intOf]; omega
        · have hge2 : ¬ (I : Int) < (k : Int) := by omega
          have hIk : I = k := by omega
          have ht := hlog'
          rw [hIk, ← Hkl.out] at ht
          have ht2 := ht.turn
          clear hIk ht hlog'
          go_wp2_with fail
          go_roundw
          case rel => exact ⟨N + 1, _, by omega, by go_num, ht2, hws'⟩
          case measure => simp [intOf]; omega
    · have hgeI : ¬ (N : Int) < (T : Int) := by omega
      have hNT : N = T := by omega
      have hh : s.hist.length = T * k := by rw [hlog.hist, Hkl.out, hNT]; simp
      have hcnt : (s.hist.length : Int) = (T : Int) * (k : Int) := by rw [hh]; push_cast; rfl
      have hTk : (T : Int) * (k : Int) ≤ 1500 := by rw [← hcnt, hh]; omega
      have hTk0 : 0 ≤ (T : Int) * (k : Int) := by rw [← hcnt]; omega
      have hm1 : IntKind.i64.wrap ((T : Int) * (k : Int)) = (T : Int) * (k : Int) := IntWalk.i64_in _ (by omega)
      have hm2 : IntKind.u64.wrap ((T : Int) * (k : Int)) = (T : Int) * (k : Int) := IntWalk.u64_in _ (by omega)
      have Hh := Lib.hid hh
      have Hc := Lib.hid hcnt
      have Hlog := Lib.hid hlog
      clear hh hcnt hNT hlog hst
      go_wp2_with fail
      refine (Log_are _ hws.are).mono ?_
      rintro e wC ⟨bs, Al, cl, rfl, hsn, hbs, hro, hBC⟩
      have hnf := eql_nilFunc
      have lowR := hws.toBelow
      have lowC := lowR.trans (hBC.mono lowR.size)
      have arC := ((hws.are.mono (G := upF (fun j => wB.heap.size ≤ j) wr.heap.size wC.heap.size) (fun j hj hf => .inl ⟨hf, hj⟩)).below hBC)
      have szR := lowR.size
      have szC := hBC.size
      have cC := (c0.keep (lowC.block _ c0.lt)).cell 0
      simp at cC
      have hcntC : ∀ n, Calls Try.prog 18 #[.pointer (some ⟨b, 0, none⟩)] (wC.drewN n) fun e w' => e = .returned (.int .u64 ((T : Int) * (k : Int))) ∧ wC.drewN n = w' := fun n => by
        have := Count_are (arC.drewN n)
        rw [Hc.out] at this
        exact this
      have HC := Lib.hid hcntC
      clear hcntC hws
      go_wp2_with fail
      go_quiet ((first | (go_at_call 12; exact quiet_left' (num_any _ _)) | (go_at_call 18; exact quiet_left' (HC.out _))))
      clear hnf HC cC
      have arD := arC.drewN nq
      have lowD := below_drewN lowC nq
      have snD : Snap60 s.hist bs Al cl (wC.drewN nq) := ⟨hsn.blk.drewN nq, hsn.row.drewN nq⟩
      have szD : wC.heap.size = (wC.drewN nq).heap.size := rfl
      rw [szD] at szC arD
      obtain ⟨wD, hwD⟩ : ∃ wD, wD = wC.drewN nq := ⟨_, rfl⟩
      rw [← hwD] at arD lowD snD szC ⊢
      clear hwD szD arC lowC hsn hBC
      have xD := x0.keep (lowD.block _ x0.lt)
      have xc0 := xD.cell 0
      have xc1 := xD.cell 1
      have xc2 := xD.cell 2
      have xc3 := xD.cell 3
      simp at xc0 xc1 xc2 xc3
      go_wp2_with fail
      -- TAIL
      have hSide : Side (upF (fun j => wB.heap.size ≤ j) wr.heap.size wD.heap.size) wD b s (.agg #[.slice none 0 0, .int .i64 0, .slice none 0 0]) ⟨0, [], []⟩ :=
        ⟨arD, fun _ hj => .inr hj, ⟨⟨_, _, rfl, Row.nil _ _ _, Row.nil _ _ _⟩, Nat.zero_le _, by simp⟩, fun j hj => by have := hj.parts; simp [Value.ownBlock] at this⟩
      have hact := actg x hSide (by rw [Hh.out]; omega) (by simp)
      unfold ActD.val at hact
      refine hact.mono ?_
      rintro e wE ⟨⟨v', rfl⟩, hK⟩
      have szE := hK.size
      have kE : ∀ j, j < wD.heap.size → (j < wB.heap.size ∨ wr.heap.size ≤ j) → wE.heap[j]? = wD.heap[j]? := fun j h1 h2 => hK.block j h1 (by
        rintro (⟨h3, h4⟩ | h3) <;> omega)
      have hbs2 : wr.heap.size ≤ bs := hbs
      have snE : Snap60 s.hist bs Al cl wE := snD.keep hbs hro (fun j e1 e2 => kE j e2 (.inr e1))
      have lowE : Below wB.heap.size wB wE := lowD.trans (hK.below (B := wB.heap.size) (fun j hf => by
        rcases hf with ⟨hf, _⟩ | hf
        · exact hf
        · omega) lowD.size)
      have cbE := c0.keep (lowE.block _ c0.lt)
      have rbE := r0.keep (lowE.block _ r0.lt)
      have cE := cbE.cell 0
      simp at cE
      obtain ⟨A', c', hv, hA⟩ := ha
      obtain ⟨bl, off, rfl, hbl, hcl⟩ := hA (by intro e; have := Hkl.out; rw [e] at this; simp at this; omega)
      simp only [Value.slice.injEq] at hv
      obtain ⟨rfl, hkk, rfl⟩ := hv
      clear hkk
      have lwE : ∀ p lp, l[p]? = some lp → wE.cell? ⟨bl, off + p, none⟩ = some (.int .u64 lp) := fun p lp hlp => by
        have e1 : wE.cell? ⟨bl, off + p, none⟩ = wB.cell? ⟨bl, off + p, none⟩ := lowE.cell (p := ⟨bl, off + p, none⟩) (by simp only; have := b0.size; omega)
        have e2 : wB.cell? ⟨bl, off + p, none⟩ = w.cell? ⟨bl, off + p, none⟩ := b0.cell (p := ⟨bl, off + p, none⟩) hbl
        rw [e1, e2]; exact hcl p lp hlp
      obtain ⟨S0, hS0⟩ : ∃ S0, S0 = s.hist.length - 1024 := ⟨_, rfl⟩
      have HS0 := Lib.hid hS0
      have w4 : w.heap.size + 4 ≤ wE.heap.size := by have := lowE.size; have := LB.out; omega
      have hblB : bl < wE.heap.size := by have := b0.size; have := lowE.size; omega
      clear hact hSide hK kE arD snD lowD xD xc0 xc1 xc2 xc3 hcl hA hS0 x0 lowR
      go_wp2_with fail
      refine wp_loop_rounds 3 ?_
      rw [rounds_succ]
      have hm3 : IntKind.i64.wrap ((T : Int) * (k : Int) - 1024) = (T : Int) * (k : Int) - 1024 := IntWalk.i64_in _ (by omega)
      by_cases hS : (T : Int) * (k : Int) ≤ 1024
      · have hSI : (T : Int) * (k : Int) - 1024 ≤ 0 := by omega
        have HS : Hid ((0 : Int) = (S0 : Int)) := Lib.hid (by have := Hc.out; have := HS0.out; omega)
        go_wp2_with fail
        rw [show (wE.alloc (.cells #[.int .i64 0] 3)) = (wE.alloc (.cells #[.int .i64 (S0 : Int)] 3)) from by rw [HS.out]]
        have rkE : RK (wE.alloc (.cells #[.int .i64 (S0 : Int)] 3)) wE.heap.size S0 [] (wE.alloc (.cells #[.int .i64 (S0 : Int)] 3)) := ⟨Keep.refl _ _, Blk.new wE _ _⟩
        refine wp_range 4 rfl (enters_of Try.func37 (by kernel_rfl) rfl) (log2_seqs s.hist bs Al cl (by rw [Hh.out]; omega)) (fun _ => rfl) (RK (wE.alloc (.cells #[.int .i64 (S0 : Int)] 3)) wE.heap.size S0) (fun _ _ _ => False)
          (RK.own _ _ _) (fun _ _ _ _ _ hs _ _ => hs)
          (fun pre W hi => snE.keep hbs hro (fun j e1 e2 => (hi.keep.block j (by simp; omega) (by omega)).trans (Below.heap_alloc _ _ _ e2))) rkE ?round ?done ?stop
        case stop => exact fun _ _ _ _ _ _ h _ => h.elim
        case round =>
          as_aux_lemma =>
            intro l' pre e rest W hsz hx hi
            obtain ⟨i, z⟩ := e
            obtain ⟨hi1, hz, hJl⟩ := log_at2 hx
            obtain ⟨J, hJ⟩ : ∃ J, J = S0 + pre.length := ⟨_, rfl⟩
            rw [HS0.out] at hJ
            rw [← hJ] at hi1 hz hJl
            subst hi1
            rw [Hh.out] at hJl
            have hze : z = entOf l i := by
              have hlt : i < s.hist.length := (List.getElem?_eq_some_iff.1 hz).1
              rw [Hlog.out.hist] at hz hlt
              rw [List.length_map, List.length_range] at hlt
              rw [List.getElem?_map, List.getElem?_range hlt] at hz
              simpa using hz.symm
            obtain ⟨p, hp⟩ : ∃ p, p = i % k := ⟨_, rfl⟩
            obtain ⟨q, hq⟩ : ∃ q, q = i / k := ⟨_, rfl⟩
            have hpk : p < k := by rw [hp]; exact Nat.mod_lt _ (by omega)
            have hqi : q ≤ i := by rw [hq]; exact Nat.div_le_self _ _
            have hi15 : i < 1500 := by omega
            have hmd : (i : Int).tmod (k : Int) = (p : Int) := by rw [Int.tmod_eq_emod_of_nonneg (by omega), hp]; rfl
            have hdv : (i : Int).tdiv (k : Int) = (q : Int) := by rw [Int.tdiv_eq_ediv_of_nonneg (by omega), hq]; rfl
            obtain ⟨lp, hlp⟩ : ∃ lp, l[p]? = some lp := ⟨_, List.getElem?_eq_getElem (by rw [Hkl.out]; exact hpk)⟩
            have hgd : l.getD p 0 = lp := by rw [List.getD_eq_getElem?_getD, hlp]; rfl
            obtain ⟨o, ho⟩ : ∃ o, o = oldOf l q p := ⟨_, rfl⟩
            obtain ⟨nv, hnv⟩ : ∃ nv, nv = valOf l q p := ⟨_, rfl⟩
            have hz2 : z = ⟨2, (p : Int), o, nv, true⟩ := by rw [hze]; unfold entOf; rw [Hkl.out, ← hp, ← hq, ho, hnv]
            have hnv2 : IntKind.u64.wrap (lp + (q : Int)) = nv := by rw [hnv]; unfold valOf; rw [hgd]
            subst hz2
            have cEl := (lwE p lp hlp)
            simp only [encAcc, Acc.val]
            have hlp2 := Lib.hid hlp
            have Ho := Lib.hid ho
            have HJ := Lib.hid hJ
            clear ho hJ
            clear hlp hze hz hx hnv hp hq hgd
            gi_wp2
            refine ⟨(Since.refl _ _).alloc _, hi.alloc _, ?_⟩
            intro W2 ht hi2
            have hbx := (Blk.new W 52 #[.int .i64 2, .int .i64 (p : Int), .int .u64 o, .int .u64 nv, .bool true]).keep (ht.at_ (Blk.new W _ _) rfl)
            have x0' := hbx.cell 0
            have x1' := hbx.cell 1
            have x2' := hbx.cell 2
            have x3' := hbx.cell 3
            have x4' := hbx.cell 4
            have kp : ∀ j, j < wE.heap.size → W2.heap[j]? = wE.heap[j]? := fun j e1 => (hi2.keep.block j (by simp; omega) (by omega)).trans (Below.heap_alloc _ _ _ e1)
            have nW := hi2.num.cell 0
            have nF := hi2.num.frozen 0
            rw [HS0.out, ← HJ.out] at nW
            have cW := (cbE.keep (kp _ cbE.lt)).cell 0
            have lW : W2.cell? ⟨bl, off + p, none⟩ = some (.int .u64 lp) := by
              have : W2.cell? ⟨bl, off + p, none⟩ = wE.cell? ⟨bl, off + p, none⟩ := cell_of_heap (kp bl (by omega))
              rw [this]; exact cEl
            simp at x0' x1' x2' x3' x4' nW cW
            have hi0 : (0 : Int) ≤ (i : Int) := by omega
            have hiI : (i : Int) < 1500 := by omega
            have hp0 : (0 : Int) ≤ (p : Int) := by omega
            have hpI : (p : Int) < (k : Int) := by omega
            have hq0 : (0 : Int) ≤ (q : Int) := by omega
            have hwi : IntKind.u64.wrap (i : Int) = (i : Int) := IntWalk.u64_in _ (by omega)
            have hwq : IntKind.u64.wrap (q : Int) = (q : Int) := IntWalk.u64_in _ (by omega)
            have hwp : IntKind.i64.wrap (p : Int) = (p : Int) := IntWalk.i64_in _ (by omega)
            have hwq2 : IntKind.i64.wrap (q : Int) = (q : Int) := IntWalk.i64_in _ (by omega)
            clear kp hi ht hbx rkE cEl
            by_cases hqz : q = 0
            · have ho0 : o = 0 := by rw [Ho.out, hqz]; rfl
              have hqn : ¬ (0 : Int) < (q : Int) := by omega
              subst ho0
              clear Ho hqz
              gi_wp2
              refine wpIn_region_round (by kernel_rfl) (by kernel_rfl) (by kernel_rfl) ?_
              repeat (first | go_big_quiet_step (fail) | quiet_step (fail))
              refine wpQuiet_nil ?_
              intro _ hw'
              obtain ⟨nq1, hw''⟩ := hw'
              subst hw''
              gi_wp2
              refine wpIn_region_round (by kernel_rfl) (by kernel_rfl) (by kernel_rfl) ?_
              repeat (first | go_big_quiet_step (fail) | quiet_step (fail))
              refine wpQuiet_nil ?_
              intro _ hw'
              obtain ⟨nq2, hw''⟩ := hw'
              subst hw''
              gi_wp2
              refine ⟨Since.trans (Y := W2.drewN (nq1 + nq2)) ⟨Nat.le_refl _, fun _ _ _ => rfl⟩ ((Since.refl _ _).setCell (p := ⟨wE.heap.size, 0, none⟩) (by simp) _), (hi2.keep.drewN (nq1 + nq2)).setCell (p := ⟨wE.heap.size, 0, none⟩) (.inl rfl) _, ?_⟩
              have := (hi2.num.drewN (nq1 + nq2)).set 0 (.int .i64 ((i : Int) + 1))
              have e : (((S0 + (pre ++ [(i, (Acc.mk 2 (p : Int) 0 nv true))]).length : Nat)) : Int) = (i : Int) + 1 := by rw [HS0.out, List.length_append, HJ.out]; simp; omega
              rw [e]
              simpa using this
            · have hqn : (0 : Int) < (q : Int) := by omega
              have hq1 : IntKind.i64.wrap ((q : Int) - 1) = (q : Int) - 1 := IntWalk.i64_in _ (by omega)
              have hq2 : IntKind.u64.wrap ((q : Int) - 1) = (q : Int) - 1 := IntWalk.u64_in _ (by omega)
              have hov : IntKind.u64.wrap (lp + ((q : Int) - 1)) = o := by
                rw [Ho.out]
                unfold oldOf valOf
                rw [if_neg hqz, List.getD_eq_getElem?_getD, hlp2.out]
                show IntKind.u64.wrap (lp + ((q : Int) - 1)) = IntKind.u64.wrap (lp + ((q - 1 : Nat) : Int))
                rw [show ((q - 1 : Nat) : Int) = (q : Int) - 1 from by omega]
              clear hqz
              gi_wp2
              refine wpIn_region_round (by kernel_rfl) (by kernel_rfl) (by kernel_rfl) ?_
              repeat (first | go_big_quiet_step (fail) | quiet_step (fail))
              refine wpQuiet_nil ?_
              intro _ hw'
              obtain ⟨nq1, hw''⟩ := hw'
              subst hw''
              gi_wp2
              refine wpIn_region_round (by kernel_rfl) (by kernel_rfl) (by kernel_rfl) ?_
              repeat (first | go_big_quiet_step (fail) | quiet_step (fail))
              refine wpQuiet_nil ?_
              intro _ hw'
              obtain ⟨nq2, hw''⟩ := hw'
              subst hw''
              gi_wp2
              refine ⟨Since.trans (Y := W2.drewN (nq1 + nq2)) ⟨Nat.le_refl _, fun _ _ _ => rfl⟩ ((Since.refl _ _).setCell (p := ⟨wE.heap.size, 0, none⟩) (by simp) _), (hi2.keep.drewN (nq1 + nq2)).setCell (p := ⟨wE.heap.size, 0, none⟩) (.inl rfl) _, ?_⟩
              have := (hi2.num.drewN (nq1 + nq2)).set 0 (.int .i64 ((i : Int) + 1))
              have e : (((S0 + (pre ++ [(i, (Acc.mk 2 (p : Int) o nv true))]).length : Nat)) : Int) = (i : Int) + 1 := by rw [HS0.out, List.length_append, HJ.out]; simp; omega
              rw [e]
              simpa using this
        case done =>
          as_aux_lemma =>
            intro DE XE hDE hi hdefE
            have kp : ∀ j, j < wE.heap.size → XE.heap[j]? = wE.heap[j]? := fun j e1 => (hi.keep.block j (by simp; omega) (by omega)).trans (Below.heap_alloc _ _ _ e1)
            have hnum := hi.num.cell 0
            have eN : ((S0 + (logList s.hist).length : Nat) : Int) = (T : Int) * (k : Int) := by rw [logList_length, HS0.out, ← Hc.out]; omega
            rw [eN] at hnum
            have dlE : DE < XE.heap.size := (Array.getElem?_eq_some_iff.1 hdefE).1
            have szE1 : wE.heap.size + 1 ≤ XE.heap.size := by have := hi.keep.size; simpa using this
            have dgE : wE.heap.size + 1 ≤ DE := by simpa using hDE
            have cbXE := cbE.keep (kp _ cbE.lt)
            have rbXE := rbE.keep (kp _ rbE.lt)
            have snXE : Snap60 s.hist bs Al cl XE := snE.keep hbs hro (fun j _ e2 => kp j e2)
            have lwXE : ∀ p lp, l[p]? = some lp → XE.cell? ⟨bl, off + p, none⟩ = some (.int .u64 lp) := fun p lp hlp => by
              have : XE.cell? ⟨bl, off + p, none⟩ = wE.cell? ⟨bl, off + p, none⟩ := cell_of_heap (kp bl (by omega))
              rw [this]; exact lwE p lp hlp
            have lowXE : Below wB.heap.size wB XE := (lowE.alloc lowE.size (.cells #[.int .i64 (S0 : Int)] 3)).trans (hi.keep.below (B := wB.heap.size) (fun j e => by have := lowE.size; omega) (by have := lowE.size; simp; omega))
            have hblX : bl < XE.heap.size := by omega
            have cXE := cbXE.cell 0
            simp at hnum cXE
            have kpd : ∀ j, j < wE.heap.size → XE.heap[j]? = wE.heap[j]? := kp
            clear hi kp eN rkE
            go_wp2_with fail
            rw [rounds_succ]
            go_wp2_with fail
            rw [show (XE.alloc (.cells #[.int .i64 0] 3)) = (XE.alloc (.cells #[.int .i64 (S0 : Int)] 3)) from by rw [HS.out]]
            have rkXE : RK (XE.alloc (.cells #[.int .i64 (S0 : Int)] 3)) XE.heap.size S0 [] (XE.alloc (.cells #[.int .i64 (S0 : Int)] 3)) := ⟨Keep.refl _ _, Blk.new XE _ _⟩
            refine wp_range 4 rfl (enters_of Try.func37 (by kernel_rfl) rfl) (log2_seqs s.hist bs Al cl (by rw [Hh.out]; omega)) (fun _ => rfl) (RK (XE.alloc (.cells #[.int .i64 (S0 : Int)] 3)) XE.heap.size S0) (fun _ _ _ => False)
              (RK.own _ _ _) (fun _ _ _ _ _ hs _ _ => hs)
              (fun pre W hi => snXE.keep hbs hro (fun j e1 e2 => (hi.keep.block j (by simp; omega) (by omega)).trans (Below.heap_alloc _ _ _ e2))) rkXE ?round ?done ?stop
            case stop => exact fun _ _ _ _ _ _ h _ => h.elim
            case round =>
              as_aux_lemma =>
                intro l' pre e rest W hsz hx hi
                obtain ⟨i, z⟩ := e
                obtain ⟨hi1, hz, hJl⟩ := log_at2 hx
                obtain ⟨J, hJ⟩ : ∃ J, J = S0 + pre.length := ⟨_, rfl⟩
                rw [HS0.out] at hJ
                rw [← hJ] at hi1 hz hJl
                subst hi1
                rw [Hh.out] at hJl
                have hze : z = entOf l i := by
                  have hlt : i < s.hist.length := (List.getElem?_eq_some_iff.1 hz).1
                  rw [Hlog.out.hist] at hz hlt
                  rw [List.length_map, List.length_range] at hlt
                  rw [List.getElem?_map, List.getElem?_range hlt] at hz
                  simpa using hz.symm
                obtain ⟨p, hp⟩ : ∃ p, p = i % k := ⟨_, rfl⟩
                obtain ⟨q, hq⟩ : ∃ q, q = i / k := ⟨_, rfl⟩
                have hpk : p < k := by rw [hp]; exact Nat.mod_lt _ (by omega)
                have hqi : q ≤ i := by rw [hq]; exact Nat.div_le_self _ _
                have hi15 : i < 1500 := by omega
                have hmd : (i : Int).tmod (k : Int) = (p : Int) := by rw [Int.tmod_eq_emod_of_nonneg (by omega), hp]; rfl
                have hdv : (i : Int).tdiv (k : Int) = (q : Int) := by rw [Int.tdiv_eq_ediv_of_nonneg (by omega), hq]; rfl
                obtain ⟨lp, hlp⟩ : ∃ lp, l[p]? = some lp := ⟨_, List.getElem?_eq_getElem (by rw [Hkl.out]; exact hpk)⟩
                have hgd : l.getD p 0 = lp := by rw [List.getD_eq_getElem?_getD, hlp]; rfl
                obtain ⟨o, ho⟩ : ∃ o, o = oldOf l q p := ⟨_, rfl⟩
                obtain ⟨nv, hnv⟩ : ∃ nv, nv = valOf l q p := ⟨_, rfl⟩
                have hz2 : z = ⟨2, (p : Int), o, nv, true⟩ := by rw [hze]; unfold entOf; rw [Hkl.out, ← hp, ← hq, ho, hnv]
                have hnv2 : IntKind.u64.wrap (lp + (q : Int)) = nv := by rw [hnv]; unfold valOf; rw [hgd]
                subst hz2
                have cXEl := (lwXE p lp hlp)
                simp only [encAcc, Acc.val]
                have hlp2 := Lib.hid hlp
                have Ho := Lib.hid ho
                have HJ := Lib.hid hJ
                clear ho hJ
                clear hlp hze hz hx hnv hp hq hgd
                gi_wp2
                refine ⟨(Since.refl _ _).alloc _, hi.alloc _, ?_⟩
                intro W2 ht hi2
                have hbx := (Blk.new W 52 #[.int .i64 2, .int .i64 (p : Int), .int .u64 o, .int .u64 nv, .bool true]).keep (ht.at_ (Blk.new W _ _) rfl)
                have x0' := hbx.cell 0
                have x1' := hbx.cell 1
                have x2' := hbx.cell 2
                have x3' := hbx.cell 3
                have x4' := hbx.cell 4
                have kp : ∀ j, j < XE.heap.size → W2.heap[j]? = XE.heap[j]? := fun j e1 => (hi2.keep.block j (by simp; omega) (by omega)).trans (Below.heap_alloc _ _ _ e1)
                have nW := hi2.num.cell 0
                have nF := hi2.num.frozen 0
                rw [HS0.out, ← HJ.out] at nW
                have cW := (cbXE.keep (kp _ cbXE.lt)).cell 0
                have lW : W2.cell? ⟨bl, off + p, none⟩ = some (.int .u64 lp) := by
                  have : W2.cell? ⟨bl, off + p, none⟩ = XE.cell? ⟨bl, off + p, none⟩ := cell_of_heap (kp bl (by omega))
                  rw [this]; exact cXEl
                simp at x0' x1' x2' x3' x4' nW cW
                have hi0 : (0 : Int) ≤ (i : Int) := by omega
                have hiI : (i : Int) < 1500 := by omega
                have hp0 : (0 : Int) ≤ (p : Int) := by omega
                have hpI : (p : Int) < (k : Int) := by omega
                have hq0 : (0 : Int) ≤ (q : Int) := by omega
                have hwi : IntKind.u64.wrap (i : Int) = (i : Int) := IntWalk.u64_in _ (by omega)
                have hwq : IntKind.u64.wrap (q : Int) = (q : Int) := IntWalk.u64_in _ (by omega)
                have hwp : IntKind.i64.wrap (p : Int) = (p : Int) := IntWalk.i64_in _ (by omega)
                have hwq2 : IntKind.i64.wrap (q : Int) = (q : Int) := IntWalk.i64_in _ (by omega)
                clear kp hi ht hbx rkXE cXEl
                by_cases hqz : q = 0
                · have ho0 : o = 0 := by rw [Ho.out, hqz]; rfl
                  have hqn : ¬ (0 : Int) < (q : Int) := by omega
                  subst ho0
                  clear Ho hqz
                  gi_wp2
                  refine wpIn_region_round (by kernel_rfl) (by kernel_rfl) (by kernel_rfl) ?_
                  repeat (first | go_big_quiet_step (fail) | quiet_step (fail))
                  refine wpQuiet_nil ?_
                  intro _ hw'
                  obtain ⟨nq1, hw''⟩ := hw'
                  subst hw''
                  gi_wp2
                  refine wpIn_region_round (by kernel_rfl) (by kernel_rfl) (by kernel_rfl) ?_
                  repeat (first | go_big_quiet_step (fail) | quiet_step (fail))
                  refine wpQuiet_nil ?_
                  intro _ hw'
                  obtain ⟨nq2, hw''⟩ := hw'
                  subst hw''
                  gi_wp2
                  refine ⟨Since.trans (Y := W2.drewN (nq1 + nq2)) ⟨Nat.le_refl _, fun _ _ _ => rfl⟩ ((Since.refl _ _).setCell (p := ⟨XE.heap.size, 0, none⟩) (by simp) _), (hi2.keep.drewN (nq1 + nq2)).setCell (p := ⟨XE.heap.size, 0, none⟩) (.inl rfl) _, ?_⟩
                  have := (hi2.num.drewN (nq1 + nq2)).set 0 (.int .i64 ((i : Int) + 1))
                  have e : (((S0 + (pre ++ [(i, (Acc.mk 2 (p : Int) 0 nv true))]).length : Nat)) : Int) = (i : Int) + 1 := by rw [HS0.out, List.length_append, HJ.out]; simp; omega
                  rw [e]
                  simpa using this
                · have hqn : (0 : Int) < (q : Int) := by omega
                  have hq1 : IntKind.i64.wrap ((q : Int) - 1) = (q : Int) - 1 := IntWalk.i64_in _ (by omega)
                  have hq2 : IntKind.u64.wrap ((q : Int) - 1) = (q : Int) - 1 := IntWalk.u64_in _ (by omega)
                  have hov : IntKind.u64.wrap (lp + ((q : Int) - 1)) = o := by
                    rw [Ho.out]
                    unfold oldOf valOf
                    rw [if_neg hqz, List.getD_eq_getElem?_getD, hlp2.out]
                    show IntKind.u64.wrap (lp + ((q : Int) - 1)) = IntKind.u64.wrap (lp + ((q - 1 : Nat) : Int))
                    rw [show ((q - 1 : Nat) : Int) = (q : Int) - 1 from by omega]
                  clear hqz
                  gi_wp2
                  refine wpIn_region_round (by kernel_rfl) (by kernel_rfl) (by kernel_rfl) ?_
                  repeat (first | go_big_quiet_step (fail) | quiet_step (fail))
                  refine wpQuiet_nil ?_
                  intro _ hw'
                  obtain ⟨nq1, hw''⟩ := hw'
                  subst hw''
                  gi_wp2
                  refine wpIn_region_round (by kernel_rfl) (by kernel_rfl) (by kernel_rfl) ?_
                  repeat (first | go_big_quiet_step (fail) | quiet_step (fail))
                  refine wpQuiet_nil ?_
                  intro _ hw'
                  obtain ⟨nq2, hw''⟩ := hw'
                  subst hw''
                  gi_wp2
                  refine ⟨Since.trans (Y := W2.drewN (nq1 + nq2)) ⟨Nat.le_refl _, fun _ _ _ => rfl⟩ ((Since.refl _ _).setCell (p := ⟨XE.heap.size, 0, none⟩) (by simp) _), (hi2.keep.drewN (nq1 + nq2)).setCell (p := ⟨XE.heap.size, 0, none⟩) (.inl rfl) _, ?_⟩
                  have := (hi2.num.drewN (nq1 + nq2)).set 0 (.int .i64 ((i : Int) + 1))
                  have e : (((S0 + (pre ++ [(i, (Acc.mk 2 (p : Int) o nv true))]).length : Nat)) : Int) = (i : Int) + 1 := by rw [HS0.out, List.length_append, HJ.out]; simp; omega
                  rw [e]
                  simpa using this
            case done =>
              as_aux_lemma =>
                intro DXE XXE hDXE hi hdefXE
                have kp : ∀ j, j < XE.heap.size → XXE.heap[j]? = XE.heap[j]? := fun j e1 => (hi.keep.block j (by simp; omega) (by omega)).trans (Below.heap_alloc _ _ _ e1)
                have hnum := hi.num.cell 0
                have eN : ((S0 + (logList s.hist).length : Nat) : Int) = (T : Int) * (k : Int) := by rw [logList_length, HS0.out, ← Hc.out]; omega
                rw [eN] at hnum
                have dlXE : DXE < XXE.heap.size := (Array.getElem?_eq_some_iff.1 hdefXE).1
                have szXE1 : XE.heap.size + 1 ≤ XXE.heap.size := by have := hi.keep.size; simpa using this
                have dgXE : XE.heap.size + 1 ≤ DXE := by simpa using hDXE
                have cbXXE := cbXE.keep (kp _ cbXE.lt)
                have rbXXE := rbXE.keep (kp _ rbXE.lt)
                have snXXE : Snap60 s.hist bs Al cl XXE := snXE.keep hbs hro (fun j _ e2 => kp j e2)
                have lwXXE : ∀ p lp, l[p]? = some lp → XXE.cell? ⟨bl, off + p, none⟩ = some (.int .u64 lp) := fun p lp hlp => by
                  have : XXE.cell? ⟨bl, off + p, none⟩ = XE.cell? ⟨bl, off + p, none⟩ := cell_of_heap (kp bl (by omega))
                  rw [this]; exact lwXE p lp hlp
                have lowXXE : Below wB.heap.size wB XXE := (lowXE.alloc lowXE.size (.cells #[.int .i64 (S0 : Int)] 3)).trans (hi.keep.below (B := wB.heap.size) (fun j e => by have := lowXE.size; omega) (by have := lowXE.size; simp; omega))
                have hblX : bl < XXE.heap.size := by omega
                have cXXE := cbXXE.cell 0
                simp at hnum cXXE
                have kpd : ∀ j, j < XE.heap.size → XXE.heap[j]? = XE.heap[j]? := kp
                clear hi kp eN rkXE
                go_wp2_with fail
                rw [rounds_succ]
                go_wp2_with (first
                  | (go_at_call 9
                     refine (works_any _).mono ?_
                     rintro e w9 ⟨rfl, hB9⟩
                     have r9 := rbXXE.keep (hB9.block _ rbXXE.lt)
                     have z0 := r9.cell 0
                     have z1 := r9.frozen 0
                     simp at z0))
                have dX9 : (w9.setCell ⟨w.heap.size + 1 + 1, 0, none⟩ (.bool true)).heap[DXE]? = some (.deferred (some [])) := (Below.heap_setCell _ _ _ _ (by simp only; omega)).trans ((hB9.block _ dlXE).trans hdefXE)
                have dE9 : (w9.setCell ⟨w.heap.size + 1 + 1, 0, none⟩ (.bool true)).heap[DE]? = some (.deferred (some [])) := (Below.heap_setCell _ _ _ _ (by simp only; omega)).trans ((hB9.block _ (by omega)).trans ((kpd DE dlE).trans hdefE))
                have dE10 : ((w9.setCell ⟨w.heap.size + 1 + 1, 0, none⟩ (.bool true)).putObj DXE (.deferred none)).heap[DE]? = some (.deferred (some [])) := (World.putObj_heap_other (by omega)).trans dE9
                have BE := ((b0.trans (lowXXE.mono b0.size)).trans (hB9.mono (Nat.le_trans b0.size lowXXE.size))).setCell (p := ⟨w.heap.size + 1 + 1, 0, none⟩) (by simp; omega) (.bool true)
                have R1 := blk_putObj (o' := .deferred none) (r9.set 0 (.bool true)) dX9 rfl
                have R2 := blk_putObj (o' := .deferred none) R1 dE10 rfl
                have zE := R2.cell 0
                simp at zE
                refine ⟨by simp, .inl ⟨_, _, rfl, run_takeDeferred dX9, ?_⟩⟩
                refine ⟨by simp, .inl ⟨_, _, rfl, run_takeDeferred dE10, ?_⟩⟩
                exact ⟨_, (by simp [results, Try.results4, go_sem, zE]), rfl, (BE.trans (belowK_b (Nat.le_refl _) _ DXE _ _ (by omega) dX9 rfl rfl)).trans (belowK_b (Nat.le_refl _) _ DE _ _ (by omega) dE10 rfl rfl)⟩
      · have hSI : 0 < (T : Int) * (k : Int) - 1024 := by omega
        have HS : Hid ((T : Int) * (k : Int) - 1024 = (S0 : Int)) := Lib.hid (by have := Hc.out; have := HS0.out; omega)
        go_wp2_with fail
        rw [show (wE.alloc (.cells #[.int .i64 ((T : Int) * (k : Int) - 1024)] 3)) = (wE.alloc (.cells #[.int .i64 (S0 : Int)] 3)) from by rw [HS.out]]
        have rkE : RK (wE.alloc (.cells #[.int .i64 (S0 : Int)] 3)) wE.heap.size S0 [] (wE.alloc (.cells #[.int .i64 (S0 : Int)] 3)) := ⟨Keep.refl _ _, Blk.new wE _ _⟩
        refine wp_range 4 rfl (enters_of Try.func37 (by kernel_rfl) rfl) (log2_seqs s.hist bs Al cl (by rw [Hh.out]; omega)) (fun _ => rfl) (RK (wE.alloc (.cells #[.int .i64 (S0 : Int)] 3)) wE.heap.size S0) (fun _ _ _ => False)
          (RK.own _ _ _) (fun _ _ _ _ _ hs _ _ => hs)
          (fun pre W hi => snE.keep hbs hro (fun j e1 e2 => (hi.keep.block j (by simp; omega) (by omega)).trans (Below.heap_alloc _ _ _ e2))) rkE ?round ?done ?stop
        case stop => exact fun _ _ _ _ _ _ h _ => h.elim
        case round =>
          as_aux_lemma =>
            intro l' pre e rest W hsz hx hi
            obtain ⟨i, z⟩ := e
            obtain ⟨hi1, hz, hJl⟩ := log_at2 hx
            obtain ⟨J, hJ⟩ : ∃ J, J = S0 + pre.length := ⟨_, rfl⟩
            rw [HS0.out] at hJ
            rw [← hJ] at hi1 hz hJl
            subst hi1
            rw [Hh.out] at hJl
            have hze : z = entOf l i := by
              have hlt : i < s.hist.length := (List.getElem?_eq_some_iff.1 hz).1
              rw [Hlog.out.hist] at hz hlt
              rw [List.length_map, List.length_range] at hlt
              rw [List.getElem?_map, List.getElem?_range hlt] at hz
              simpa using hz.symm
            obtain ⟨p, hp⟩ : ∃ p, p = i % k := ⟨_, rfl⟩
            obtain ⟨q, hq⟩ : ∃ q, q = i / k := ⟨_, rfl⟩
            have hpk : p < k := by rw [hp]; exact Nat.mod_lt _ (by omega)
            have hqi : q ≤ i := by rw [hq]; exact Nat.div_le_self _ _
            have hi15 : i < 1500 := by omega
            have hmd : (i : Int).tmod (k : Int) = (p : Int) := by rw [Int.tmod_eq_emod_of_nonneg (by omega), hp]; rfl
            have hdv : (i : Int).tdiv (k : Int) = (q : Int) := by rw [Int.tdiv_eq_ediv_of_nonneg (by omega), hq]; rfl
            obtain ⟨lp, hlp⟩ : ∃ lp, l[p]? = some lp := ⟨_, List.getElem?_eq_getElem (by rw [Hkl.out]; exact hpk)⟩
            have hgd : l.getD p 0 = lp := by rw [List.getD_eq_getElem?_getD, hlp]; rfl
            obtain ⟨o, ho⟩ : ∃ o, o = oldOf l q p := ⟨_, rfl⟩
            obtain ⟨nv, hnv⟩ : ∃ nv, nv = valOf l q p := ⟨_, rfl⟩
            have hz2 : z = ⟨2, (p : Int), o, nv, true⟩ := by rw [hze]; unfold entOf; rw [Hkl.out, ← hp, ← hq, ho, hnv]
            have hnv2 : IntKind.u64.wrap (lp + (q : Int)) = nv := by rw [hnv]; unfold valOf; rw [hgd]
            subst hz2
            have cEl := (lwE p lp hlp)
            simp only [encAcc, Acc.val]
            have hlp2 := Lib.hid hlp
            have Ho := Lib.hid ho
            have HJ := Lib.hid hJ
            clear ho hJ
            clear hlp hze hz hx hnv hp hq hgd
            gi_wp2
            refine ⟨(Since.refl _ _).alloc _, hi.alloc _, ?_⟩
            intro W2 ht hi2
            have hbx := (Blk.new W 52 #[.int .i64 2, .int .i64 (p : Int), .int .u64 o, .int .u64 nv, .bool true]).keep (ht.at_ (Blk.new W _ _) rfl)
            have x0' := hbx.cell 0
            have x1' := hbx.cell 1
            have x2' := hbx.cell 2
            have x3' := hbx.cell 3
            have x4' := hbx.cell 4
            have kp : ∀ j, j < wE.heap.size → W2.heap[j]? = wE.heap[j]? := fun j e1 => (hi2.keep.block j (by simp; omega) (by omega)).trans (Below.heap_alloc _ _ _ e1)
            have nW := hi2.num.cell 0
            have nF := hi2.num.frozen 0
            rw [HS0.out, ← HJ.out] at nW
            have cW := (cbE.keep (kp _ cbE.lt)).cell 0
            have lW : W2.cell? ⟨bl, off + p, none⟩ = some (.int .u64 lp) := by
              have : W2.cell? ⟨bl, off + p, none⟩ = wE.cell? ⟨bl, off + p, none⟩ := cell_of_heap (kp bl (by omega))
              rw [this]; exact cEl
            simp at x0' x1' x2' x3' x4' nW cW
            have hi0 : (0 : Int) ≤ (i : Int) := by omega
            have hiI : (i : Int) < 1500 := by omega
            have hp0 : (0 : Int) ≤ (p : Int) := by omega
            have hpI : (p : Int) < (k : Int) := by omega
            have hq0 : (0 : Int) ≤ (q : Int) := by omega
            have hwi : IntKind.u64.wrap (i : Int) = (i : Int) := IntWalk.u64_in _ (by omega)
            have hwq : IntKind.u64.wrap (q : Int) = (q : Int) := IntWalk.u64_in _ (by omega)
            have hwp : IntKind.i64.wrap (p : Int) = (p : Int) := IntWalk.i64_in _ (by omega)
            have hwq2 : IntKind.i64.wrap (q : Int) = (q : Int) := IntWalk.i64_in _ (by omega)
            clear kp hi ht hbx rkE cEl
            by_cases hqz : q = 0
            · have ho0 : o = 0 := by rw [Ho.out, hqz]; rfl
              have hqn : ¬ (0 : Int) < (q : Int) := by omega
              subst ho0
              clear Ho hqz
              gi_wp2
              refine wpIn_region_round (by kernel_rfl) (by kernel_rfl) (by kernel_rfl) ?_
              repeat (first | go_big_quiet_step (fail) | quiet_step (fail))
              refine wpQuiet_nil ?_
              intro _ hw'
              obtain ⟨nq1, hw''⟩ := hw'
              subst hw''
              gi_wp2
              refine wpIn_region_round (by kernel_rfl) (by kernel_rfl) (by kernel_rfl) ?_
              repeat (first | go_big_quiet_step (fail) | quiet_step (fail))
              refine wpQuiet_nil ?_
              intro _ hw'
              obtain ⟨nq2, hw''⟩ := hw'
              subst hw''
              gi_wp2
              refine ⟨Since.trans (Y := W2.drewN (nq1 + nq2)) ⟨Nat.le_refl _, fun _ _ _ => rfl⟩ ((Since.refl _ _).setCell (p := ⟨wE.heap.size, 0, none⟩) (by simp) _), (hi2.keep.drewN (nq1 + nq2)).setCell (p := ⟨wE.heap.size, 0, none⟩) (.inl rfl) _, ?_⟩
              have := (hi2.num.drewN (nq1 + nq2)).set 0 (.int .i64 ((i : Int) + 1))
              have e : (((S0 + (pre ++ [(i, (Acc.mk 2 (p : Int) 0 nv true))]).length : Nat)) : Int) = (i : Int) + 1 := by rw [HS0.out, List.length_append, HJ.out]; simp; omega
              rw [e]
              simpa using this
            · have hqn : (0 : Int) < (q : Int) := by omega
              have hq1 : IntKind.i64.wrap ((q : Int) - 1) = (q : Int) - 1 := IntWalk.i64_in _ (by omega)
              have hq2 : IntKind.u64.wrap ((q : Int) - 1) = (q : Int) - 1 := IntWalk.u64_in _ (by omega)
              have hov : IntKind.u64.wrap (lp + ((q : Int) - 1)) = o := by
                rw [Ho.out]
                unfold oldOf valOf
                rw [if_neg hqz, List.getD_eq_getElem?_getD, hlp2.out]
                show IntKind.u64.wrap (lp + ((q : Int) - 1)) = IntKind.u64.wrap (lp + ((q - 1 : Nat) : Int))
                rw [show ((q - 1 : Nat) : Int) = (q : Int) - 1 from by omega]
              clear hqz
              gi_wp2
              refine wpIn_region_round (by kernel_rfl) (by kernel_rfl) (by kernel_rfl) ?_
              repeat (first | go_big_quiet_step (fail) | quiet_step (fail))
              refine wpQuiet_nil ?_
              intro _ hw'
              obtain ⟨nq1, hw''⟩ := hw'
              subst hw''
              gi_wp2
              refine wpIn_region_round (by kernel_rfl) (by kernel_rfl) (by kernel_rfl) ?_
              repeat (first | go_big_quiet_step (fail) | quiet_step (fail))
              refine wpQuiet_nil ?_
              intro _ hw'
              obtain ⟨nq2, hw''⟩ := hw'
              subst hw''
              gi_wp2
              refine ⟨Since.trans (Y := W2.drewN (nq1 + nq2)) ⟨Nat.le_refl _, fun _ _ _ => rfl⟩ ((Since.refl _ _).setCell (p := ⟨wE.heap.size, 0, none⟩) (by simp) _), (hi2.keep.drewN (nq1 + nq2)).setCell (p := ⟨wE.heap.size, 0, none⟩) (.inl rfl) _, ?_⟩
              have := (hi2.num.drewN (nq1 + nq2)).set 0 (.int .i64 ((i : Int) + 1))
              have e : (((S0 + (pre ++ [(i, (Acc.mk 2 (p : Int) o nv true))]).length : Nat)) : Int) = (i : Int) + 1 := by rw [HS0.out, List.length_append, HJ.out]; simp; omega
              rw [e]
              simpa using this
        case done =>
          as_aux_lemma =>
            intro DE XE hDE hi hdefE
            have kp : ∀ j, j < wE.heap.size → XE.heap[j]? = wE.heap[j]? := fun j e1 => (hi.keep.block j (by simp; omega) (by omega)).trans (Below.heap_alloc _ _ _ e1)
            have hnum := hi.num.cell 0
            have eN : ((S0 + (logList s.hist).length : Nat) : Int) = (T : Int) * (k : Int) := by rw [logList_length, HS0.out, ← Hc.out]; omega
            rw [eN] at hnum
            have dlE : DE < XE.heap.size := (Array.getElem?_eq_some_iff.1 hdefE).1
            have szE1 : wE.heap.size + 1 ≤ XE.heap.size := by have := hi.keep.size; simpa using this
            have dgE : wE.heap.size + 1 ≤ DE := by simpa using hDE
            have cbXE := cbE.keep (kp _ cbE.lt)
            have rbXE := rbE.keep (kp _ rbE.lt)
            have snXE : Snap60 s.hist bs Al cl XE := snE.keep hbs hro (fun j _ e2 => kp j e2)
            have lwXE : ∀ p lp, l[p]? = some lp → XE.cell? ⟨bl, off + p, none⟩ = some (.int .u64 lp) := fun p lp hlp => by
              have : XE.cell? ⟨bl, off + p, none⟩ = wE.cell? ⟨bl, off + p, none⟩ := cell_of_heap (kp bl (by omega))
              rw [this]; exact lwE p lp hlp
            have lowXE : Below wB.heap.size wB XE := (lowE.alloc lowE.size (.cells #[.int .i64 (S0 : Int)] 3)).trans (hi.keep.below (B := wB.heap.size) (fun j e => by have := lowE.size; omega) (by have := lowE.size; simp; omega))
            have hblX : bl < XE.heap.size := by omega
            have cXE := cbXE.cell 0
            simp at hnum cXE
            have kpd : ∀ j, j < wE.heap.size → XE.heap[j]? = wE.heap[j]? := kp
            clear hi kp eN rkE
            go_wp2_with fail
            rw [rounds_succ]
            go_wp2_with fail
            rw [show (XE.alloc (.cells #[.int .i64 ((T : Int) * (k : Int) - 1024)] 3)) = (XE.alloc (.cells #[.int .i64 (S0 : Int)] 3)) from by rw [HS.out]]
            have rkXE : RK (XE.alloc (.cells #[.int .i64 (S0 : Int)] 3)) XE.heap.size S0 [] (XE.alloc (.cells #[.int .i64 (S0 : Int)] 3)) := ⟨Keep.refl _ _, Blk.new XE _ _⟩
            refine wp_range 4 rfl (enters_of Try.func37 (by kernel_rfl) rfl) (log2_seqs s.hist bs Al cl (by rw [Hh.out]; omega)) (fun _ => rfl) (RK (XE.alloc (.cells #[.int .i64 (S0 : Int)] 3)) XE.heap.size S0) (fun _ _ _ => False)
              (RK.own _ _ _) (fun _ _ _ _ _ hs _ _ => hs)
              (fun pre W hi => snXE.keep hbs hro (fun j e1 e2 => (hi.keep.block j (by simp; omega) (by omega)).trans (Below.heap_alloc _ _ _ e2))) rkXE ?round ?done ?stop
            case stop => exact fun _ _ _ _ _ _ h _ => h.elim
            case round =>
              as_aux_lemma =>
                intro l' pre e rest W hsz hx hi
                obtain ⟨i, z⟩ := e
                obtain ⟨hi1, hz, hJl⟩ := log_at2 hx
                obtain ⟨J, hJ⟩ : ∃ J, J = S0 + pre.length := ⟨_, rfl⟩
                rw [HS0.out] at hJ
                rw [← hJ] at hi1 hz hJl
                subst hi1
                rw [Hh.out] at hJl
                have hze : z = entOf l i := by
                  have hlt : i < s.hist.length := (List.getElem?_eq_some_iff.1 hz).1
                  rw [Hlog.out.hist] at hz hlt
                  rw [List.length_map, List.length_range] at hlt
                  rw [List.getElem?_map, List.getElem?_range hlt] at hz
                  simpa using hz.symm
                obtain ⟨p, hp⟩ : ∃ p, p = i % k := ⟨_, rfl⟩
                obtain ⟨q, hq⟩ : ∃ q, q = i / k := ⟨_, rfl⟩
                have hpk : p < k := by rw [hp]; exact Nat.mod_lt _ (by omega)
                have hqi : q ≤ i := by rw [hq]; exact Nat.div_le_self _ _
                have hi15 : i < 1500 := by omega
                have hmd : (i : Int).tmod (k : Int) = (p : Int) := by rw [Int.tmod_eq_emod_of_nonneg (by omega), hp]; rfl
                have hdv : (i : Int).tdiv (k : Int) = (q : Int) := by rw [Int.tdiv_eq_ediv_of_nonneg (by omega), hq]; rfl
                obtain ⟨lp, hlp⟩ : ∃ lp, l[p]? = some lp := ⟨_, List.getElem?_eq_getElem (by rw [Hkl.out]; exact hpk)⟩
                have hgd : l.getD p 0 = lp := by rw [List.getD_eq_getElem?_getD, hlp]; rfl
                obtain ⟨o, ho⟩ : ∃ o, o = oldOf l q p := ⟨_, rfl⟩
                obtain ⟨nv, hnv⟩ : ∃ nv, nv = valOf l q p := ⟨_, rfl⟩
                have hz2 : z = ⟨2, (p : Int), o, nv, true⟩ := by rw [hze]; unfold entOf; rw [Hkl.out, ← hp, ← hq, ho, hnv]
                have hnv2 : IntKind.u64.wrap (lp + (q : Int)) = nv := by rw [hnv]; unfold valOf; rw [hgd]
                subst hz2
                have cXEl := (lwXE p lp hlp)
                simp only [encAcc, Acc.val]
                have hlp2 := Lib.hid hlp
                have Ho := Lib.hid ho
                have HJ := Lib.hid hJ
                clear ho hJ
                clear hlp hze hz hx hnv hp hq hgd
                gi_wp2
                refine ⟨(Since.refl _ _).alloc _, hi.alloc _, ?_⟩
                intro W2 ht hi2
                have hbx := (Blk.new W 52 #[.int .i64 2, .int .i64 (p : Int), .int .u64 o, .int .u64 nv, .bool true]).keep (ht.at_ (Blk.new W _ _) rfl)
                have x0' := hbx.cell 0
                have x1' := hbx.cell 1
                have x2' := hbx.cell 2
                have x3' := hbx.cell 3
                have x4' := hbx.cell 4
                have kp : ∀ j, j < XE.heap.size → W2.heap[j]? = XE.heap[j]? := fun j e1 => (hi2.keep.block j (by simp; omega) (by omega)).trans (Below.heap_alloc _ _ _ e1)
                have nW := hi2.num.cell 0
                have nF := hi2.num.frozen 0
                rw [HS0.out, ← HJ.out] at nW
                have cW := (cbXE.keep (kp _ cbXE.lt)).cell 0
                have lW : W2.cell? ⟨bl, off + p, none⟩ = some (.int .u64 lp) := by
                  have : W2.cell? ⟨bl, off + p, none⟩ = XE.cell? ⟨bl, off + p, none⟩ := cell_of_heap (kp bl (by omega))
                  rw [this]; exact cXEl
                simp at x0' x1' x2' x3' x4' nW cW
                have hi0 : (0 : Int) ≤ (i : Int) := by omega
                have hiI : (i : Int) < 1500 := by omega
                have hp0 : (0 : Int) ≤ (p : Int) := by omega
                have hpI : (p : Int) < (k : Int) := by omega
                have hq0 : (0 : Int) ≤ (q : Int) := by omega
                have hwi : IntKind.u64.wrap (i : Int) = (i : Int) := IntWalk.u64_in _ (by omega)
                have hwq : IntKind.u64.wrap (q : Int) = (q : Int) := IntWalk.u64_in _ (by omega)
                have hwp : IntKind.i64.wrap (p : Int) = (p : Int) := IntWalk.i64_in _ (by omega)
                have hwq2 : IntKind.i64.wrap (q : Int) = (q : Int) := IntWalk.i64_in _ (by omega)
                clear kp hi ht hbx rkXE cXEl
                by_cases hqz : q = 0
                · have ho0 : o = 0 := by rw [Ho.out, hqz]; rfl
                  have hqn : ¬ (0 : Int) < (q : Int) := by omega
                  subst ho0
                  clear Ho hqz
                  gi_wp2
                  refine wpIn_region_round (by kernel_rfl) (by kernel_rfl) (by kernel_rfl) ?_
                  repeat (first | go_big_quiet_step (fail) | quiet_step (fail))
                  refine wpQuiet_nil ?_
                  intro _ hw'
                  obtain ⟨nq1, hw''⟩ := hw'
                  subst hw''
                  gi_wp2
                  refine wpIn_region_round (by kernel_rfl) (by kernel_rfl) (by kernel_rfl) ?_
                  repeat (first | go_big_quiet_step (fail) | quiet_step (fail))
                  refine wpQuiet_nil ?_
                  intro _ hw'
                  obtain ⟨nq2, hw''⟩ := hw'
                  subst hw''
                  gi_wp2
                  refine ⟨Since.trans (Y := W2.drewN (nq1 + nq2)) ⟨Nat.le_refl _, fun _ _ _ => rfl⟩ ((Since.refl _ _).setCell (p := ⟨XE.heap.size, 0, none⟩) (by simp) _), (hi2.keep.drewN (nq1 + nq2)).setCell (p := ⟨XE.heap.size, 0, none⟩) (.inl rfl) _, ?_⟩
                  have := (hi2.num.drewN (nq1 + nq2)).set 0 (.int .i64 ((i : Int) + 1))
                  have e : (((S0 + (pre ++ [(i, (Acc.mk 2 (p : Int) 0 nv true))]).length : Nat)) : Int) = (i : Int) + 1 := by rw [HS0.out, List.length_append, HJ.out]; simp; omega
                  rw [e]
                  simpa using this
                · have hqn : (0 : Int) < (q : Int) := by omega
                  have hq1 : IntKind.i64.wrap ((q : Int) - 1) = (q : Int) - 1 := IntWalk.i64_in _ (by omega)
                  have hq2 : IntKind.u64.wrap ((q : Int) - 1) = (q : Int) - 1 := IntWalk.u64_in _ (by omega)
                  have hov : IntKind.u64.wrap (lp + ((q : Int) - 1)) = o := by
                    rw [Ho.out]
                    unfold oldOf valOf
                    rw [if_neg hqz, List.getD_eq_getElem?_getD, hlp2.out]
                    show IntKind.u64.wrap (lp + ((q : Int) - 1)) = IntKind.u64.wrap (lp + ((q - 1 : Nat) : Int))
                    rw [show ((q - 1 : Nat) : Int) = (q : Int) - 1 from by omega]
                  clear hqz
                  gi_wp2
                  refine wpIn_region_round (by kernel_rfl) (by kernel_rfl) (by kernel_rfl) ?_
                  repeat (first | go_big_quiet_step (fail) | quiet_step (fail))
                  refine wpQuiet_nil ?_
                  intro _ hw'
                  obtain ⟨nq1, hw''⟩ := hw'
                  subst hw''
                  gi_wp2
                  refine wpIn_region_round (by kernel_rfl) (by kernel_rfl) (by kernel_rfl) ?_
                  repeat (first | go_big_quiet_step (fail) | quiet_step (fail))
                  refine wpQuiet_nil ?_
                  intro _ hw'
                  obtain ⟨nq2, hw''⟩ := hw'
                  subst hw''
                  gi_wp2
                  refine ⟨Since.trans (Y := W2.drewN (nq1 + nq2)) ⟨Nat.le_refl _, fun _ _ _ => rfl⟩ ((Since.refl _ _).setCell (p := ⟨XE.heap.size, 0, none⟩) (by simp) _), (hi2.keep.drewN (nq1 + nq2)).setCell (p := ⟨XE.heap.size, 0, none⟩) (.inl rfl) _, ?_⟩
                  have := (hi2.num.drewN (nq1 + nq2)).set 0 (.int .i64 ((i : Int) + 1))
                  have e : (((S0 + (pre ++ [(i, (Acc.mk 2 (p : Int) o nv true))]).length : Nat)) : Int) = (i : Int) + 1 := by rw [HS0.out, List.length_append, HJ.out]; simp; omega
                  rw [e]
                  simpa using this
            case done =>
              as_aux_lemma =>
                intro DXE XXE hDXE hi hdefXE
                have kp : ∀ j, j < XE.heap.size → XXE.heap[j]? = XE.heap[j]? := fun j e1 => (hi.keep.block j (by simp; omega) (by omega)).trans (Below.heap_alloc _ _ _ e1)
                have hnum := hi.num.cell 0
                have eN : ((S0 + (logList s.hist).length : Nat) : Int) = (T : Int) * (k : Int) := by rw [logList_length, HS0.out, ← Hc.out]; omega
                rw [eN] at hnum
                have dlXE : DXE < XXE.heap.size := (Array.getElem?_eq_some_iff.1 hdefXE).1
                have szXE1 : XE.heap.size + 1 ≤ XXE.heap.size := by have := hi.keep.size; simpa using this
                have dgXE : XE.heap.size + 1 ≤ DXE := by simpa using hDXE
                have cbXXE := cbXE.keep (kp _ cbXE.lt)
                have rbXXE := rbXE.keep (kp _ rbXE.lt)
                have snXXE : Snap60 s.hist bs Al cl XXE := snXE.keep hbs hro (fun j _ e2 => kp j e2)
                have lwXXE : ∀ p lp, l[p]? = some lp → XXE.cell? ⟨bl, off + p, none⟩ = some (.int .u64 lp) := fun p lp hlp => by
                  have : XXE.cell? ⟨bl, off + p, none⟩ = XE.cell? ⟨bl, off + p, none⟩ := cell_of_heap (kp bl (by omega))
                  rw [this]; exact lwXE p lp hlp
                have lowXXE : Below wB.heap.size wB XXE := (lowXE.alloc lowXE.size (.cells #[.int .i64 (S0 : Int)] 3)).trans (hi.keep.below (B := wB.heap.size) (fun j e => by have := lowXE.size; omega) (by have := lowXE.size; simp; omega))
                have hblX : bl < XXE.heap.size := by omega
                have cXXE := cbXXE.cell 0
                simp at hnum cXXE
                have kpd : ∀ j, j < XE.heap.size → XXE.heap[j]? = XE.heap[j]? := kp
                clear hi kp eN rkXE
                go_wp2_with fail
                rw [rounds_succ]
                go_wp2_with (first
                  | (go_at_call 9
                     refine (works_any _).mono ?_
                     rintro e w9 ⟨rfl, hB9⟩
                     have r9 := rbXXE.keep (hB9.block _ rbXXE.lt)
                     have z0 := r9.cell 0
                     have z1 := r9.frozen 0
                     simp at z0))
                have dX9 : (w9.setCell ⟨w.heap.size + 1 + 1, 0, none⟩ (.bool true)).heap[DXE]? = some (.deferred (some [])) := (Below.heap_setCell _ _ _ _ (by simp only; omega)).trans ((hB9.block _ dlXE).trans hdefXE)
                have dE9 : (w9.setCell ⟨w.heap.size + 1 + 1, 0, none⟩ (.bool true)).heap[DE]? = some (.deferred (some [])) := (Below.heap_setCell _ _ _ _ (by simp only; omega)).trans ((hB9.block _ (by omega)).trans ((kpd DE dlE).trans hdefE))
                have dE10 : ((w9.setCell ⟨w.heap.size + 1 + 1, 0, none⟩ (.bool true)).putObj DXE (.deferred none)).heap[DE]? = some (.deferred (some [])) := (World.putObj_heap_other (by omega)).trans dE9
                have BE := ((b0.trans (lowXXE.mono b0.size)).trans (hB9.mono (Nat.le_trans b0.size lowXXE.size))).setCell (p := ⟨w.heap.size + 1 + 1, 0, none⟩) (by simp; omega) (.bool true)
                have R1 := blk_putObj (o' := .deferred none) (r9.set 0 (.bool true)) dX9 rfl
                have R2 := blk_putObj (o' := .deferred none) R1 dE10 rfl
                have zE := R2.cell 0
                simp at zE
                refine ⟨by simp, .inl ⟨_, _, rfl, run_takeDeferred dX9, ?_⟩⟩
                refine ⟨by simp, .inl ⟨_, _, rfl, run_takeDeferred dE10, ?_⟩⟩
                exact ⟨_, (by simp [results, Try.results4, go_sem, zE]), rfl, (BE.trans (belowK_b (Nat.le_refl _) _ DXE _ _ (by omega) dX9 rfl rfl)).trans (belowK_b (Nat.le_refl _) _ DE _ _ (by omega) dE10 rfl rfl)⟩
end Go.Proofs.Ytbojbhjaeekjpaa
